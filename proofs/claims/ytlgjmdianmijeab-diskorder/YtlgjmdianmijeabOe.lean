/- Two disks beside one another; rows of files beside them; rows that change. -/
import Derived.Test.YtlgjmdianmijeabOc
import Derived.Test.YtlgjmdianmijeabDq
namespace Go.Proofs.Ytlgjmdianmijeab
open Go Go.RowKit Go.MapKept Go.MuLone
open Go.RowKit (wrap32 wrap64)

/-- A disk that lies beyond w; what it has lies in P. -/
structure Sd (w u : World) (b : Nat) (A : Ab) (P : Nat → Prop) : Prop where
  dk : DkP u w.heap.size b A P
  lt : ∀ k, P k → k < u.heap.size
  ge : ∀ k, P k → w.heap.size ≤ k
  gr : w.grownBy u none
/-- Files in a row that no disk of P has. -/
def Fw (u : World) (a : Option Addr) (L : Cn) (P : Nat → Prop) : Prop := ∃ Fr g, ArF u Fr a g 0 L ∧ ∀ k, Fr k → k < u.heap.size ∧ ¬ P k
/-- Two disks. -/
structure S2 (w u : World) (b c : Nat) (A B : Ab) (P Q : Nat → Prop) : Prop where
  x : Sd w u b A P
  y : Sd w u c B Q
  ap : ∀ k, P k → ¬ Q k
def Un (P Q : Nat → Prop) (k : Nat) : Prop := P k ∨ Q k
variable {w u u' : World} {b c : Nat} {A A' B : Ab} {P P' Q : Nat → Prop} {a a' : Option Addr} {L : Cn}
theorem ArF.df {w w' : World} {F P : Nat → Prop} {a : Option Addr} {g off : Nat} {L : Cn} (h : ArF w F a g off L) (hd : DF w w' P) (hp : ∀ k, F k → ¬ P k) : ArF w' F a g off L := by
  refine ⟨fun h0 => ⟨(h.at_ h0).1, Nat.lt_of_lt_of_le (h.at_ h0).2.1 hd.size, (h.at_ h0).2.2⟩, fun i hi => ?_⟩
  have hb := h.at_ (by omega)
  obtain ⟨h1, v, h2, h3⟩ := h.each i hi
  have hc : ∀ o, w'.cell? ⟨g, o, none⟩ = w.cell? ⟨g, o, none⟩ := fun o => World.cell?_of_block (hd.block g hb.2.1 (hp g hb.2.2))
  exact ⟨(hc _).trans h1, v, (hc _).trans h2, h3.df hd hp⟩
theorem Sd.keep (h : Sd w u b A P) (hg : u.grownBy u' none) : Sd w u' b A P := ⟨h.dk.keep hg, fun k hk => Nat.lt_of_lt_of_le (h.lt k hk) hg.size, h.ge, gtrans h.gr hg⟩
theorem Fw.keep (h : Fw u a L P) (hg : u.grownBy u' none) : Fw u' a L P := by
  obtain ⟨Fr, g, h1, h2⟩ := h
  exact ⟨Fr, g, h1.keep hg, fun k hk => ⟨Nat.lt_of_lt_of_le (h2 k hk).1 hg.size, (h2 k hk).2⟩⟩
theorem Fw.step {R : Nat → Prop} (h : Fw u a L P) (hd : DF u u' R) (hr : ∀ k, R k → P k) (hp : ∀ k, P' k → P k ∨ u.heap.size ≤ k) : Fw u' a L P' := by
  obtain ⟨Fr, g, h1, h2⟩ := h
  exact ⟨Fr, g, h1.df hd (fun k hk hq => (h2 k hk).2 (hr k hq)), fun k hk => ⟨Nat.lt_of_lt_of_le (h2 k hk).1 hd.size, fun q => (hp k q).elim (h2 k hk).2 (fun q => by have := (h2 k hk).1; omega)⟩⟩
theorem Fw.less (h : Fw u a L P) (hp : ∀ k, P' k → P k) : Fw u a L P' := by
  obtain ⟨Fr, g, h1, h2⟩ := h
  exact ⟨Fr, g, h1, fun k hk => ⟨(h2 k hk).1, fun q => (h2 k hk).2 (hp k q)⟩⟩
theorem S2.keep (h : S2 w u b c A B P Q) (hg : u.grownBy u' none) : S2 w u' b c A B P Q := ⟨h.x.keep hg, h.y.keep hg, h.ap⟩
theorem S2.swap (h : S2 w u b c A B P Q) : S2 w u c b B A Q P := ⟨h.y, h.x, fun k h1 h2 => h.ap k h2 h1⟩
theorem Sd.step {R : Nat → Prop} (h : Sd w u b A P) (hd : DkP u' w.heap.size b A' P') (hl : ∀ k, P' k → k < u'.heap.size) (hp : ∀ k, P' k → P k ∨ u.heap.size ≤ k) (hf : DF u u' R) (hq : ∀ k, R k → w.heap.size ≤ k) : Sd w u' b A' P' :=
  ⟨hd, hl, fun k hk => (hp k hk).elim (h.ge k) (fun q => Nat.le_trans h.gr.size q), ((DF.of h.gr (P := fun k => w.heap.size ≤ k)).trans hf (fun _ _ q => hq _ q)).grown (fun _ q => q)⟩
theorem Sd.df {R : Nat → Prop} (h : Sd w u b A P) (hd : DF u u' R) (hr : ∀ k, P k → ¬ R k) (hq : ∀ k, R k → w.heap.size ≤ k) : Sd w u' b A P :=
  h.step (h.dk.df hd (fun k _ hk => hr k hk)) (fun k hk => Nat.lt_of_lt_of_le (h.lt k hk) hd.size) (fun _ hk => .inl hk) hd hq
/-- The first one is written to. -/
theorem S2.step (h : S2 w u b c A B P Q) (hd : DkP u' w.heap.size b A' P') (hl : ∀ k, P' k → k < u'.heap.size) (hp : ∀ k, P' k → P k ∨ u.heap.size ≤ k) (hf : DF u u' P) : S2 w u' b c A' B P' Q ∧ (∀ a L, Fw u a L (Un P Q) → Fw u' a L (Un P' Q)) :=
  ⟨⟨h.x.step hd hl hp hf h.x.ge, h.y.df hf (fun k h1 h2 => h.ap k h2 h1) h.x.ge, fun k hk hq => (hp k hk).elim (fun q => h.ap k q hq) (fun q => by have := h.y.lt k hq; omega)⟩, fun a L hF => hF.step hf (fun k hk => .inl hk) (fun k hk => hk.elim (fun q => (hp k q).imp .inl id) (fun q => .inl (.inr q)))⟩
theorem DkP.low_to {w : World} {D b : Nat} {A : Ab} {P : Nat → Prop} (h : DkP w D b A P) {E : Nat} (hb : E ≤ D) : DkP w E b A P := by
  obtain ⟨h1, m, F, h2, h3, h4⟩ := h
  exact ⟨h1, m, F, ⟨h2.blk, h2.map, fun f hf => (h2.own f hf).below hb, h2.apart, Nat.le_trans hb h2.low.1, Nat.le_trans hb h2.low.2⟩, h3, h4⟩
theorem newP_lt (h : ∀ k, P k → k < u.heap.size) (hf : u.heap.size ≤ u'.heap.size) : (∀ k, newP P u u' k → k < u'.heap.size) ∧ (∀ k, newP P u u' k → P k ∨ u.heap.size ≤ k) :=
  ⟨fun k hk => hk.elim (fun q => Nat.lt_of_lt_of_le (h k q) hf) (fun q => q.2), fun _ hk => hk.imp id (fun q => q.1)⟩
theorem sd_files (h : Sd w u b A P) (R : Nat → Prop) (hR : ∀ k, R k → k < u.heap.size) : Calls Try.prog 10 #[.pointer (some ⟨b, 0, none⟩)] u fun e u' => ∃ a c, e = .returned (.slice a (srtC A.C).length c) ∧ Fw u' a (srtC A.C) R ∧ u.grownBy u' none :=
  (files_p h.dk).mono fun _ _ ⟨⟨a, g, c, q1, q2⟩, q3⟩ => ⟨a, c, q1, ⟨_, g, q2, fun k hk => ⟨hk.2, fun q => by have := hR k q; have := hk.1; omega⟩⟩, q3⟩
theorem S2.lt (h : S2 w u b c A B P Q) : ∀ k, Un P Q k → k < u.heap.size := fun k hk => hk.elim (h.x.lt k) (h.y.lt k)
theorem fw_eq (h1 : Fw u a L P) (h2 : Fw u a' L P') (c c' : Nat) (hL : L.length ≤ 1000000) (hl : ∀ p ∈ L, p.2.length ≤ 140737488355328) : Calls Try.prog 11 #[.slice a L.length c, .slice a' L.length c'] u fun e w' => e = .returned (.bool true) ∧ u.grownBy w' none := by
  obtain ⟨F1, g1, q1, _⟩ := h1
  obtain ⟨F2, g2, q2, _⟩ := h2
  exact eqFiles_same u _ _ a a' g1 0 c g2 0 c' L q1 q2 hL hl
theorem srt_le {C : Cn} {n : Nat} (hn : NdC C) (h : usedC C ≤ n) : ∀ p ∈ srtC C, p.2.length ≤ n := fun p hp => by
  have h1 := get_used (srtC C) p.1
  rw [get_mem (srt_nd hn) hp, used_srt hn] at h1
  simp only [Option.getD_some] at h1
  omega
theorem sd_bnd (h : Sd w u b A P) : (srtC A.C).length ≤ 64 ∧ ∀ p ∈ srtC A.C, p.2.length ≤ 268435456 := by
  refine ⟨by rw [srtC_len]; exact h.dk.1.len, srt_le h.dk.nd ?_⟩
  have h1 := h.dk.1.used
  have h2 := h.dk.1.room.2
  omega
/-- A Remove of the first of the files that are left. -/
theorem rem_head {rm : Int} {i : Nat} {p : ByteArray × List UInt8} {D : Cn} (hg : goodN p.1 = true) : (⟨rm, false, (i : Nat), 0, 0, p :: D⟩ : Ab).rem p.1 = ⟨rm, false, ((i + 1 : Nat) : Int), 0, 0, D⟩ := by
  have h1 : (⟨rm, false, (i : Nat), 0, 0, p :: D⟩ : Ab).fndE p.1 = 0 := by
    unfold Ab.fndE refE getC
    simp [hg]
  unfold Ab.rem
  rw [if_pos h1]
  unfold Ab.did Ab.remC delC
  simp only
  rfl
theorem s2_rem (h : S2 w u b c A B P Q) (s : ByteArray) (hw : A.wr ≤ 4611686018427387904) :
    Calls Try.prog 15 #[.pointer (some ⟨b, 0, none⟩), .string s] u fun e u' => (∃ x, e = .returned (.int .i64 x)) ∧ ∃ P', S2 w u' b c (A.rem s) B P' Q ∧ (∀ a L, Fw u a L (Un P Q) → Fw u' a L (Un P' Q)) ∧ DF u u' P ∧ (∀ k, P' k → P k ∨ u.heap.size ≤ k) :=
  (remove_p h.x.dk s hw).mono fun _ _ ⟨q1, q2, q3⟩ => ⟨⟨_, q1⟩, _, (h.step q2 (newP_lt h.x.lt q3.size).1 (newP_lt h.x.lt q3.size).2 q3).1, (h.step q2 (newP_lt h.x.lt q3.size).1 (newP_lt h.x.lt q3.size).2 q3).2, q3, (newP_lt h.x.lt q3.size).2⟩
theorem row_df {Bz e q n : Nat} {v : Value} {xs : List Value} (h : w.ownsRow Bz e q v n xs) (hd : DF w u P) (hp : ∀ k, v.ownBlock = some k → ¬ P k) : u.ownsRow Bz e q v n xs := by
  refine ⟨h.1, ?_⟩
  rcases h.2 with h1 | ⟨g, cap, cur, hv, hB, hg, hle, hm, hs, ht⟩
  · exact .inl h1
  · refine .inr ⟨g, cap, cur, hv, hB, ?_, hle, hm, hs, ht⟩
    rw [hd.block g (Array.getElem?_eq_some_iff.1 hg).1 (hp g (by rw [hv]; rfl))]
    exact hg
theorem fcs_set : ∀ (E : List Fl) (i : Nat) (f : Fl), fcs (E.set i f) = ((fcs E).set (i * 2) (.string f.nm)).set (i * 2 + 1) f.v
  | [], i, f => by simp [fcs]
  | g :: E, 0, f => by simp [fcs]
  | g :: E, i + 1, f => by
    rw [show (i + 1) * 2 = i * 2 + 1 + 1 by omega]
    simp only [List.set_cons_succ, fcs, fcs_set E i f]
/-- Two files of a row change their places. -/
theorem swap_row {Bz gm n xc j k : Nat} {E : List Fl} (h : OutF Bz w (.slice (some ⟨gm, 0, none⟩) n xc) E) (hj : j < E.length) (hk : k < E.length) (jn kn : ByteArray) (jv kv : Value) (h1 : (E[j]).nm = jn ∧ (E[j]).v = jv) (h2 : (E[k]).nm = kn ∧ (E[k]).v = kv) :
    ∃ E', OutF Bz ((((w.setCell ⟨gm, j * 2, none⟩ (.string kn)).setCell ⟨gm, j * 2 + 1, none⟩ kv).setCell ⟨gm, k * 2, none⟩ (.string jn)).setCell ⟨gm, k * 2 + 1, none⟩ jv).drew (.slice (some ⟨gm, 0, none⟩) n xc) E' ∧ E'.Perm E ∧ w.grownBy ((((w.setCell ⟨gm, j * 2, none⟩ (.string kn)).setCell ⟨gm, j * 2 + 1, none⟩ kv).setCell ⟨gm, k * 2, none⟩ (.string jn)).setCell ⟨gm, k * 2 + 1, none⟩ jv).drew (some gm) := by
  obtain ⟨e1, cs, b1, b2, b3, b4⟩ := h.blk
  have hg : w.grownBy ((((w.setCell ⟨gm, j * 2, none⟩ (.string kn)).setCell ⟨gm, j * 2 + 1, none⟩ kv).setCell ⟨gm, k * 2, none⟩ (.string jn)).setCell ⟨gm, k * 2 + 1, none⟩ jv).drew (some gm) :=
    gtrans (gtrans (gtrans (gtrans (gset w ⟨gm, j * 2, none⟩ _) (gset _ ⟨gm, j * 2 + 1, none⟩ _)) (gset _ ⟨gm, k * 2, none⟩ _)) (gset _ ⟨gm, k * 2 + 1, none⟩ _)) (gdrew1 _ _)
  have hb : Blk ((((w.setCell ⟨gm, j * 2, none⟩ (.string kn)).setCell ⟨gm, j * 2 + 1, none⟩ kv).setCell ⟨gm, k * 2, none⟩ (.string jn)).setCell ⟨gm, k * 2 + 1, none⟩ jv).drew gm ((((cs.set (j * 2) (.string kn)).set (j * 2 + 1) kv).set (k * 2) (.string jn)).set (k * 2 + 1) jv) 32 :=
    ((((b1.set (j * 2) (.string kn)).set (j * 2 + 1) kv).set (k * 2) (.string jn)).set (k * 2 + 1) jv).keep (gdrew1 _ none)
  refine ⟨(E.set j E[k]).set k E[j], b4 _ _ _ hb (by simp) ?_ (by simp [e1]) (fun f hf => ?_), List.set_set_perm hj hk, hg⟩
  · rw [fcs_set, fcs_set, ← b2, h1.1, h1.2, h2.1, h2.2]
    simp only [List.take_set]
  · have hm : f ∈ E := (List.set_set_perm hj hk).mem_iff.1 hf
    exact (h.own f hm).on hg (fun q hq => by injection hq with hq; rw [← hq]; exact own_ne h.row (h.own f hm) (by decide) gm rfl)
end Go.Proofs.Ytlgjmdianmijeab
