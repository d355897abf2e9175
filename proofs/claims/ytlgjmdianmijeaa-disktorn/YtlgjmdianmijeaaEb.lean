/- Two disks beside one another; rows of files beside them. -/
import Derived.Test.YtlgjmdianmijeaaEa
namespace Go.Proofs.Ytlgjmdianmijeaa
open Go Go.RowKit Go.MapKept Go.MuLone
open Go.RowKit (wrap32 wrap64)

/-- A disk that lies beyond w; what it has lies in P. -/
structure Sd (w u : World) (b : Nat) (A : Ab) (P : Nat → Prop) : Prop where
  dk : DkP u w.heap.size b A P
  lt : ∀ k, P k → k < u.heap.size
  ge : ∀ k, P k → w.heap.size ≤ k
  gr : w.grownBy u none
/-- Files in a row that no disk of P has. -/
def Fw (u : World) (a : Option Addr) (L : Cn) (P : Nat → Prop) : Prop := ∃ Fr g, ArF u Fr a g 0 L ∧ ∀ k, Fr k → k < u.heap.size ∧ ¬ P k
/-- Two disks. -/
structure S2 (w u : World) (b c : Nat) (A B : Ab) (P Q : Nat → Prop) : Prop where
  x : Sd w u b A P
  y : Sd w u c B Q
  ap : ∀ k, P k → ¬ Q k
def Un (P Q : Nat → Prop) (k : Nat) : Prop := P k ∨ Q k
variable {w u u' : World} {b c : Nat} {A A' B : Ab} {P P' Q : Nat → Prop} {a a' : Option Addr} {L : Cn} {o : Opv}
theorem Sd.keep (h : Sd w u b A P) (hg : u.grownBy u' none) : Sd w u' b A P := ⟨h.dk.keep hg, fun k hk => Nat.lt_of_lt_of_le (h.lt k hk) hg.size, h.ge, gtrans h.gr hg⟩
theorem Fw.keep (h : Fw u a L P) (hg : u.grownBy u' none) : Fw u' a L P := by
  obtain ⟨Fr, g, h1, h2⟩ := h
  exact ⟨Fr, g, h1.keep hg, fun k hk => ⟨Nat.lt_of_lt_of_le (h2 k hk).1 hg.size, (h2 k hk).2⟩⟩
theorem Fw.step {R : Nat → Prop} (h : Fw u a L P) (hd : DF u u' R) (hr : ∀ k, R k → P k) (hp : ∀ k, P' k → P k ∨ u.heap.size ≤ k) : Fw u' a L P' := by
  obtain ⟨Fr, g, h1, h2⟩ := h
  exact ⟨Fr, g, h1.df hd (fun k hk hq => (h2 k hk).2 (hr k hq)), fun k hk => ⟨Nat.lt_of_lt_of_le (h2 k hk).1 hd.size, fun q => (hp k q).elim (h2 k hk).2 (fun q => by have := (h2 k hk).1; omega)⟩⟩
theorem Fw.less (h : Fw u a L P) (hp : ∀ k, P' k → P k) : Fw u a L P' := by
  obtain ⟨Fr, g, h1, h2⟩ := h
  exact ⟨Fr, g, h1, fun k hk => ⟨(h2 k hk).1, fun q => (h2 k hk).2 (hp k q)⟩⟩
theorem S2.keep (h : S2 w u b c A B P Q) (hg : u.grownBy u' none) : S2 w u' b c A B P Q := ⟨h.x.keep hg, h.y.keep hg, h.ap⟩
theorem S2.swap (h : S2 w u b c A B P Q) : S2 w u c b B A Q P := ⟨h.y, h.x, fun k h1 h2 => h.ap k h2 h1⟩
theorem Sd.step {R : Nat → Prop} (h : Sd w u b A P) (hd : DkP u' w.heap.size b A' P') (hl : ∀ k, P' k → k < u'.heap.size) (hp : ∀ k, P' k → P k ∨ u.heap.size ≤ k) (hf : DF u u' R) (hq : ∀ k, R k → w.heap.size ≤ k) : Sd w u' b A' P' :=
  ⟨hd, hl, fun k hk => (hp k hk).elim (h.ge k) (fun q => Nat.le_trans h.gr.size q), ((DF.of h.gr (P := fun k => w.heap.size ≤ k)).trans hf (fun _ _ q => hq _ q)).grown (fun _ q => q)⟩
theorem Sd.df {R : Nat → Prop} (h : Sd w u b A P) (hd : DF u u' R) (hr : ∀ k, P k → ¬ R k) (hq : ∀ k, R k → w.heap.size ≤ k) : Sd w u' b A P :=
  h.step (h.dk.df hd (fun k _ hk => hr k hk)) (fun k hk => Nat.lt_of_lt_of_le (h.lt k hk) hd.size) (fun _ hk => .inl hk) hd hq
/-- The first one is written to. -/
theorem S2.step (h : S2 w u b c A B P Q) (hd : DkP u' w.heap.size b A' P') (hl : ∀ k, P' k → k < u'.heap.size) (hp : ∀ k, P' k → P k ∨ u.heap.size ≤ k) (hf : DF u u' P) : S2 w u' b c A' B P' Q ∧ (∀ a L, Fw u a L (Un P Q) → Fw u' a L (Un P' Q)) :=
  ⟨⟨h.x.step hd hl hp hf h.x.ge, h.y.df hf (fun k h1 h2 => h.ap k h2 h1) h.x.ge, fun k hk hq => (hp k hk).elim (fun q => h.ap k q hq) (fun q => by have := h.y.lt k hq; omega)⟩, fun a L hF => hF.step hf (fun k hk => .inl hk) (fun k hk => hk.elim (fun q => (hp k q).imp .inl id) (fun q => .inl (.inr q)))⟩
theorem DkP.low_to {w : World} {D b : Nat} {A : Ab} {P : Nat → Prop} (h : DkP w D b A P) {E : Nat} (hb : E ≤ D) : DkP w E b A P := by
  obtain ⟨h1, m, F, h2, h3, h4⟩ := h
  exact ⟨h1, m, F, ⟨h2.blk, h2.map, fun f hf => (h2.own f hf).below hb, h2.apart, Nat.le_trans hb h2.low.1, Nat.le_trans hb h2.low.2⟩, h3, h4⟩
theorem newP_lt (h : ∀ k, P k → k < u.heap.size) (hf : u.heap.size ≤ u'.heap.size) : (∀ k, newP P u u' k → k < u'.heap.size) ∧ (∀ k, newP P u u' k → P k ∨ u.heap.size ≤ k) :=
  ⟨fun k hk => hk.elim (fun q => Nat.lt_of_lt_of_le (h k q) hf) (fun q => q.2), fun _ hk => hk.imp id (fun q => q.1)⟩
theorem s2_do (h : S2 w u b c A B P Q) (F : Nat → Prop) (hI : o.In w F) (hl : o.bs.length ≤ 140737488355328) (hw : A.wr ≤ 4611686018427387904) :
    Calls Try.prog 15 #[.pointer (some ⟨b, 0, none⟩), .agg o.cells.toArray] u fun e u' => ∃ P', e = .returned (.tuple #[.int .i64 (A.doE o), .bool o.isDo]) ∧ S2 w u' b c (A.doA o) B P' Q ∧ (∀ a L, Fw u a L (Un P Q) → Fw u' a L (Un P' Q)) :=
  (do_any h.x.dk h.x.lt o F (hI.keep h.x.gr) hl hw).mono fun _ _ ⟨q1, q2, q3⟩ => ⟨_, q1, h.step q2 (newP_lt h.x.lt q3.size).1 (newP_lt h.x.lt q3.size).2 q3⟩
theorem sd_files (h : Sd w u b A P) (R : Nat → Prop) (hR : ∀ k, R k → k < u.heap.size) : Calls Try.prog 13 #[.pointer (some ⟨b, 0, none⟩)] u fun e u' => ∃ a c, e = .returned (.slice a (srtC A.C).length c) ∧ Fw u' a (srtC A.C) R ∧ u.grownBy u' none :=
  (files_p h.dk).mono fun _ _ ⟨⟨a, g, c, q1, q2⟩, q3⟩ => ⟨a, c, q1, ⟨_, g, q2, fun k hk => ⟨hk.2, fun q => by have := hR k q; have := hk.1; omega⟩⟩, q3⟩
theorem S2.lt (h : S2 w u b c A B P Q) : ∀ k, Un P Q k → k < u.heap.size := fun k hk => hk.elim (h.x.lt k) (h.y.lt k)
theorem s2_files (h : S2 w u b c A B P Q) : Calls Try.prog 13 #[.pointer (some ⟨b, 0, none⟩)] u fun e u' => ∃ a c, e = .returned (.slice a (srtC A.C).length c) ∧ Fw u' a (srtC A.C) (Un P Q) ∧ u.grownBy u' none := sd_files h.x _ h.lt
theorem fw_eq (h1 : Fw u a L P) (h2 : Fw u a' L P') (c c' : Nat) (hL : L.length ≤ 1000000) (hl : ∀ p ∈ L, p.2.length ≤ 140737488355328) : Calls Try.prog 17 #[.slice a L.length c, .slice a' L.length c'] u fun e w' => e = .returned (.bool true) ∧ u.grownBy w' none := by
  obtain ⟨F1, g1, q1, _⟩ := h1
  obtain ⟨F2, g2, q2, _⟩ := h2
  exact eqFiles_same u _ _ a a' g1 0 c g2 0 c' L q1 q2 hL hl
theorem sd_bnd (h : Sd w u b A P) : (srtC A.C).length ≤ 64 ∧ ∀ p ∈ srtC A.C, p.2.length ≤ 268435456 := by
  refine ⟨by rw [srtC_len]; exact h.dk.1.len, srt_le h.dk.nd ?_⟩
  have h1 := h.dk.1.used
  have h2 := h.dk.1.room.2
  omega
theorem sd_on (h : Sd w u b A P) : Calls Try.prog 29 #[.pointer (some ⟨b, 0, none⟩)] u fun e u' => e = .returned (.tuple #[]) ∧ Sd w u' b A.on P ∧ DF u u' P :=
  (on_p h.dk).mono fun _ _ ⟨q1, q2, q3⟩ => ⟨q1, h.step q2 (fun k hk => Nat.lt_of_lt_of_le (h.lt k hk) q3.size) (fun _ hk => .inl hk) q3 h.ge, q3⟩
theorem sd_new (w : World) (R : Int) (h1 : 1 ≤ R) (h2 : R ≤ 268435456) (u : World) (hg : w.grownBy u none) : Calls Try.prog 8 #[.int .i64 R] u fun e u' => ∃ b P, e = .returned (.tuple #[.pointer (some ⟨b, 0, none⟩), .int .i64 0]) ∧ Sd w u' b (Ab.new R) P ∧ u.grownBy u' none ∧ (∀ k, P k → u.heap.size ≤ k) :=
  (new_ok u R h1 h2).mono fun _ u' ⟨b, q1, q2, q3⟩ => ⟨b, fun k => u.heap.size ≤ k ∧ k < u'.heap.size, q1, ⟨q2.low_to hg.size, fun _ hk => hk.2, fun _ hk => Nat.le_trans hg.size hk.1, gtrans hg q3⟩, q3, fun _ hk => hk.1⟩
/-- Load of what a disk tells. -/
theorem sd_load (h : Sd w u b A P) (hf : Fw u a (srtC A.C) P') (fc : Nat) : Calls Try.prog 24 #[.slice a (srtC A.C).length fc, .int .i64 A.room] u fun e u' => ∃ c, e = .returned (.tuple #[.pointer (some ⟨c, 0, none⟩), .int .i64 0]) ∧ u.grownBy u' none ∧ ∃ Q, S2 w u' b c A ⟨A.room, false, 0, 0, 0, srtC A.C⟩ P Q ∧ (∀ k, Q k → u.heap.size ≤ k) := by
  obtain ⟨Fr, g, q1, _⟩ := hf
  refine (load_back A h.dk.1 h.dk.nd u Fr a g 0 fc q1).mono fun e u' ⟨c, r1, r2, r3⟩ => ⟨c, r1, r3, fun k => u.heap.size ≤ k ∧ k < u'.heap.size, ⟨h.keep r3, ⟨r2.low_to h.gr.size, fun _ hk => hk.2, fun _ hk => Nat.le_trans h.gr.size hk.1, gtrans h.gr r3⟩, fun k hk hq => by have := h.lt k hk; have := hq.1; omega⟩, fun _ hk => hk.1⟩
end Go.Proofs.Ytlgjmdianmijeaa
