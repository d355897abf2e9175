/- plays, as a whole. -/
import Derived.Test.YtlgjmdianmijeaaGreatTb
import Derived.Test.YtlgjmdianmijeaaGreatTc
import Derived.Test.YtlgjmdianmijeaaGreatTd
import Derived.Test.YtlgjmdianmijeaaGreatTe
import Derived.Test.YtlgjmdianmijeaaGreatTf
namespace Go.Proofs.YtlgjmdianmijeaaGreat
open Go Go.RowKit Go.MapKept Go.MuLone
open Go.RowKit (wrap32 wrap64)

variable {w u u' : World} {col col' : Nat → Nat} {b c : Nat → Nat} {A D : Nat → Ab} {A1 D1 A' D' : Ab} {sb bk sk : Nat} {tn sp M : Int}
theorem goodN_size {s : ByteArray} (h : goodN s = true) : s.size ≤ 64 := by
  unfold goodN at h
  simp only [Bool.and_eq_true, decide_eq_true_eq] at h
  exact h.2.1
theorem Lent.rdOwn {B : Nat} {v : Value} {l : List UInt8} (h : Lent u B v l) : Rd u (fun j => v.ownBlock = some j) v l := by
  obtain ⟨a, g, off, cc, e, h1, h2, h3, h4⟩ := h.out.rd
  subst e
  exact ⟨a, g, off, cc, rfl, h1, h2, fun q => ⟨(h3 q).1, (h3 q).2.1, by rw [(h3 q).1]; rfl⟩, h4⟩
theorem Lent.df {B : Nat} {v : Value} {l : List UInt8} {P : Nat → Prop} (h : Lent u B v l) (hd : DF u u' P) (hp : ∀ k, v.ownBlock = some k → ¬ P k) : Lent u' B v l := by
  obtain ⟨g, c, rfl, h2, h3⟩ := h
  exact ⟨g, c, rfl, h2, h3.df hd (fun k hk => hp k hk)⟩
/-- What an operation's names and files are like. -/
structure Opv.Nm (o : Opv) : Prop where
  nm : o.nm.size ≤ 140737488355328
  to : o.to.size ≤ 140737488355328
  fs : ∀ p ∈ o.L, p.1.size ≤ 140737488355328
  nv : o.nv ≤ 9223372036854775807
theorem wr_app (s : ByteArray) (l : List UInt8) : (A'.app s l).wr ≤ A'.wr + 1 := by
  unfold Ab.app
  split
  · exact Int.le_refl _
  · omega
theorem wr_cut (s : ByteArray) (z : Int) : (A'.cut s z).wr ≤ A'.wr + 1 := by
  unfold Ab.cut
  split
  · exact Int.le_refl _
  · omega
theorem wr_ren (s t : ByteArray) : (A'.ren s t).wr ≤ A'.wr + 1 := by
  unfold Ab.ren
  split
  · exact Int.le_refl _
  · omega
theorem wr_rem (s : ByteArray) : (A'.rem s).wr ≤ A'.wr + 1 := by
  unfold Ab.rem
  split
  · exact Int.le_refl _
  · omega
theorem Mid.pend {k ob : Nat} {oc : List Value} (h : Mid w sb bk sk ob oc b c A (fun j => (A j).sr) tn sp k A' D' false false u) (hM : ∀ k, k < 2 → (A k).wr ≤ M) : PEnd w sb bk sk tn sp M u := by
  obtain ⟨col, h1, _⟩ := h
  exact ⟨col, b, c, A, tn, h1, .inl rfl, fun k hk => by have := hM k hk; omega⟩
theorem Mid.ends {k ob : Nat} {oc : List Value} {tn' : Int} (h : Mid w sb bk sk ob oc b c A (fun j => (A j).sr) tn' sp k A' D' true true u) (he : D' = A'.sr) (hM : ∀ k, k < 2 → (A k).wr ≤ M) (hA : A'.wr ≤ M + 1) (ht : tn' = tn ∨ tn' = tn + 1) : PEnd w sb bk sk tn sp M u := by
  obtain ⟨col, h1⟩ := h.done he
  refine ⟨col, b, c, up A k A', tn', h1, ht, fun j hj => ?_⟩
  by_cases e : j = k
  · rw [e, up_at]
    exact hA
  · rw [up_ne e]
    have := hM j hj
    omega
/-- A call of the play, whatever it asks. -/
theorem plays_any (h : Stg w u col sb bk sk b c A (fun j => (A j).sr) tn sp) (o : Opv) (F : Nat → Prop) (ho : o.In w F) (hF : ∀ j, F j → j < w.heap.size) (hn : o.Nm) (hM : ∀ k, k < 2 → (A k).wr ≤ M) (hM0 : 0 ≤ M) (hM1 : M ≤ 1000000) (ht : 0 ≤ tn ∧ tn < 1000000) (hsp : 0 ≤ sp ∧ sp ≤ 4611686018427387904) :
    Calls Tryz.prog 8 #[.pointer (some ⟨sb, 0, none⟩), .agg o.cells.toArray] u fun e u' => e = .returned (.bool true) ∧ PEnd w sb bk sk tn (sp + (szO o : Nat)) M u' := by
  have hz2 : szO o ≤ 281474976710656 := szL_up _ _ (by have := ho.bl; omega) ho.fl
  have hsp2 : 0 ≤ sp ∧ sp + (szO o : Nat) < 9223372036854775807 := by omega
  have H21 : Hid (∀ u', u.grownBy u' none → Calls Tryz.prog 21 #[.agg o.cells.toArray] u' fun e w' => ∃ v, e = .returned v ∧ u'.grownBy w' none ∧ v = Value.int .i64 (szO o : Nat)) := hid (fun u' hu => (opSize_eq u' o F (ho.keep (gtrans h.d.gr hu))).mono fun e w' ⟨q1, q2⟩ => ⟨_, q1, q2, rfl⟩)
  obtain ⟨z, hz⟩ : ∃ x, szO o = x := ⟨_, rfl⟩
  have hzall := szL_all o.L o.bs.length
  have hzle := szL_le o.L o.bs.length
  rw [show szL o.bs.length o.L = z from hz] at hzall hzle
  rw [hz] at H21 hsp2 ⊢
  clear hz hz2
  obtain ⟨dv, on, nm, to, ba, bn, bc, bs, nv, kv, fa, fn, fc, L⟩ := o
  obtain ⟨k, hk, hand⟩ := and_one on
  obtain ⟨hnm, hto, hfs, hnv⟩ := hn
  have hwb : (A k).wr ≤ 4611686018427387904 := by have := hM k hk; omega
  have hMk := hM k hk
  by_cases hle : 1048576 < sp + (z : Nat)
  · exact (plays_far h hk hand hsp2 hle H21).mono fun e u' ⟨q1, ob, oc, q2⟩ => ⟨q1, q2.pend hM⟩
  have hle' : z ≤ 1048576 := by omega
  obtain ⟨hz1, hz3⟩ := hzall hle'
  replace hz1 : bs.length + 100 * L.length ≤ z := hz1
  have hz0 : bs.length ≤ 1000000000 := by omega
  have hL0 : L.length ≤ 100000 := by omega
  have hnd : ∀ {u : World} {P : Nat → Prop}, DkP u w.heap.size (b k) (A k) P → NdC (A k).C := fun h => h.nd
  have hndk : NdC (A k).C := (h.d.x k hk).dk.nd
  have hwsr : (A k).sr.wr ≤ 4611686018427387904 := hwb
  have hRF : ∀ {u : World} {P : Nat → Prop}, (∀ j, P j → w.heap.size ≤ j) → ∀ j, F j → ¬ P j := fun hP j h1 h2 => by
    have q1 := hF j h1
    have q2 := hP j h2
    omega
  by_cases d1 : dv = 1
  · subst d1
    refine (plays_app (A1 := (A k).app nm bs) (D1 := ((A k).sr.app nm bs).sr) (E := (A k).appE nm bs) (bs := bs) h hk hand hsp2 hle H21 (hid fun ob u9 hm => ?_) (hid fun ob v u9 hm => ?_) (hid fun ob v u9 hm => ?_) (hid fun ob p u9 hm => ?_)).mono fun e u' ⟨q1, ob, q2⟩ => ⟨q1, q2.ends (sr_appE hndk nm bs).2 hM (by have := wr_app (A' := A k) nm bs; omega) (.inr rfl)⟩
    · obtain ⟨col', m1, m2⟩ := hm
      have hg := m1.d.gr
      refine (bytes_law u9 m1.s.blk ht ba bn bc F bs (ho.b.keep hg) (fun j hj e => by have := hF j hj; have := m1.s.co.2.1; omega) hz0).mono fun e u' ⟨v, q1, q2, q3, q4⟩ => ⟨v, q1, ?_⟩
      have hf : DF u9 u' (Co w u9 col' 5) := DF.one q4 m1.s.co
      refine ⟨fun j => if j < u9.heap.size then col' j else 8, ⟨?_, ⟨q3, ?_⟩, ⟨m1.k.blk.df hf (co_ne (by decide) _ m1.k.co), ?_⟩⟩, ⟨m2.blk.df hf (co_ne (by decide) _ m2.co), ?_⟩, q2.below m1.d.gr.size, fun j hj => ?_⟩
      · have hd := m1.d.els (i := 5) (by omega) hf
        have hc : ∀ x, x < u9.heap.size → (fun j => if j < u9.heap.size then col' j else 8) x = col' x := fun x hx => if_pos hx
        refine ⟨fun j hj => ?_, fun j hj => ?_⟩
        · have := (m1.d.x j hj).df hf (co_ne (by omega)) (fun _ q => q.2.1)
          exact ⟨this.dk.mono (fun x _ _ hx => co_same hx q4.size hc), fun _ hx => hx.2.2, fun _ hx => hx.2.1, hd.gr⟩
        · have := (m1.d.y j hj).df hf (co_ne (by omega)) (fun _ q => q.2.1)
          obtain ⟨sv, E, r1, r2⟩ := this.dk
          exact ⟨⟨sv, E, r1, fun x hx => co_same (r2 x hx) q4.size hc⟩, fun _ hx => hx.2.2, fun _ hx => hx.2.1, hd.gr⟩
      · exact co_same m1.s.co q4.size (fun x hx => if_pos hx)
      · exact co_same m1.k.co q4.size (fun x hx => if_pos hx)
      · exact co_same m2.co q4.size (fun x hx => if_pos hx)
      · have hj1 := q2.out.block j hj
        have hj2 := (q2.out.lt j hj).2
        exact ⟨if_neg (by omega), by have := m1.d.gr.size; omega, hj2⟩
    · obtain ⟨col', m1, m2, m3, m4⟩ := hm
      have hx := (m1.d.x k hk).dk
      obtain ⟨va, vc, rfl⟩ := m3.len
      refine (append_p hx nm (fun j => (Value.slice va bs.length vc).ownBlock = some j) va bs.length vc bs ?_ (fun j hj hP => co_ne (i := 1 + k) (by omega) j (m4 j hj) hP) hwb).mono fun e u' ⟨q1, q2, q3⟩ => ⟨q1, _, m1.px hk q2 q3, m2.other q3 (by omega), ?_, fun j hj => co_old (m4 j hj) q3.size⟩
      · exact m3.rdOwn
      · exact m3.df q3 (fun j hj hP => co_ne (i := 1 + k) (by omega) j (m4 j hj) hP)
    · obtain ⟨col', m1, m2, m3, m4⟩ := hm
      have hg := m1.d.gr
      refine (back_law u9 m1.s.blk rfl w.heap.size v (.slice ba bn bc) F bs m3 (ho.b.keep hg) hz0).mono fun e u' ⟨q1, q2⟩ => ⟨q1, ?_⟩
      have hf : DF u9 u' (Co w u9 col' 8) := DF.opt q2 (fun j hj => m4 j hj)
      exact ⟨_, m1.els (.inr (by decide)) hf, m2.other hf (by decide)⟩
    · refine mid_r hk (ev := .int .i64 ((A k).appE nm bs)) (fun u9 P hP hs => ?_) p u9 hm
      have hg := hs.gr
      have := sr_app hs nm F ba bn bc bs (ho.b.keep hg) (hRF (u := u9) hP) ho.bl hnm hwsr
      rw [(sr_appE hndk nm bs).1] at this
      exact this
  by_cases d2 : dv = 2
  · subst d2
    refine (plays_cut (A1 := (A k).cut nm nv) (D1 := ((A k).sr.cut nm nv).sr) (E := (A k).cutE nm nv) h hk hand hsp2 hle H21 (hid fun ob r u9 hm => mid_p hk (fun v P _ hx => cut_p hx nm nv hwb) r u9 hm) (hid fun ob p u9 hm => mid_r hk (fun v P _ hx => ?_) p u9 hm)).mono fun e u' ⟨q1, ob, q2⟩ => ⟨q1, q2.ends (sr_cutE hndk nm nv).2 hM (by have := wr_cut (A' := A k) nm nv; omega) (.inl rfl)⟩
    have := sr_cut hx nm nv hnm hwsr
    rw [(sr_cutE hndk nm nv).1] at this
    exact this
  by_cases d3 : dv = 3
  · subst d3
    refine (plays_ren (A1 := (A k).ren nm to) (D1 := ((A k).sr.ren nm to).sr) (E := (A k).renE nm to) h hk hand hsp2 hle H21 (hid fun ob r u9 hm => mid_p hk (fun v P _ hx => rename_p hx nm to hwb) r u9 hm) (hid fun ob p u9 hm => mid_r hk (fun v P _ hx => ?_) p u9 hm)).mono fun e u' ⟨q1, ob, q2⟩ => ⟨q1, q2.ends (sr_renE hndk nm to).2 hM (by have := wr_ren (A' := A k) nm to; omega) (.inl rfl)⟩
    have := sr_ren hx nm to hnm hto hwsr
    rw [(sr_renE hndk nm to).1] at this
    exact this
  by_cases d4 : dv = 4
  · subst d4
    refine (plays_rem (A1 := (A k).rem nm) (D1 := ((A k).sr.rem nm).sr) (E := (A k).remE nm) h hk hand hsp2 hle H21 (hid fun ob r u9 hm => mid_p hk (fun v P _ hx => remove_p hx nm hwb) r u9 hm) (hid fun ob p u9 hm => mid_r hk (fun v P _ hx => ?_) p u9 hm)).mono fun e u' ⟨q1, ob, q2⟩ => ⟨q1, q2.ends (sr_remE hndk nm).2 hM (by have := wr_rem (A' := A k) nm; omega) (.inl rfl)⟩
    have := sr_rem hx nm hnm hwsr
    rw [(sr_remE hndk nm).1] at this
    exact this
  by_cases d5 : dv = 5
  · subst d5
    exact plays_read h hk hand hsp2 hle H21 (hid fun ob u9 ⟨col', m1, _⟩ => (x_read m1 hk nm hnm).mono fun e u' ⟨q1, q2⟩ => ⟨q1, Stg.pend m1 hM q2⟩)
  by_cases d6 : dv = 6
  · subst d6
    exact plays_names h hk hand hsp2 hle H21 (hid fun ob u9 ⟨col', m1, _⟩ => (x_names m1 hk).mono fun e u' ⟨q1, q2⟩ => ⟨q1, Stg.pend m1 hM q2⟩)
  by_cases d7 : dv = 7
  · subst d7
    exact plays_files h hk hand hsp2 hle H21 (hid fun ob u9 ⟨col', m1, _⟩ => (x_files m1 hk).mono fun e u' ⟨q1, q2⟩ => ⟨q1, Stg.pend m1 hM q2⟩)
  by_cases d8 : dv = 8
  · subst d8
    refine (plays_arm (A1 := (A k).arm nv kv) (D1 := (A k).sr.arm nv kv) h hk hand hsp2 hle H21 (hid fun ob r u9 hm => mid_p hk (fun v P _ hx => ?_) r u9 hm) (hid fun ob p u9 hm => mid_r hk (fun v P _ hx => sr_arm hx nv kv hnv) p u9 hm)).mono fun e u' ⟨q1, ob, q2⟩ => ⟨q1, q2.ends rfl hM (by show (A k).wr ≤ _; omega) (.inl rfl)⟩
    exact (arm_p hx nv kv hnv).mono fun e u' ⟨q1, q2, q3⟩ => ⟨q1, q2.mono (fun _ _ _ q => .inl q), q3⟩
  by_cases d9 : dv = 9
  · subst d9
    refine (plays_on (A1 := (A k).on) (D1 := (A k).sr.on) h hk hand hsp2 hle H21 (hid fun ob r u9 hm => mid_p hk (fun v P _ hx => ?_) r u9 hm) (hid fun ob p u9 hm => mid_r hk (fun v P _ hx => sr_on hx) p u9 hm)).mono fun e u' ⟨q1, ob, q2⟩ => ⟨q1, q2.ends rfl hM (by show (A k).wr ≤ _; omega) (.inl rfl)⟩
    exact (on_p hx).mono fun e u' ⟨q1, q2, q3⟩ => ⟨q1, q2.mono (fun _ _ _ q => .inl q), q3⟩
  by_cases d10 : dv = 10
  · subst d10
    exact plays_new h hk hand hsp2 hle H21 (hid fun ob u9 ⟨col', m1, _⟩ => x_fresh m1 hk hM hM0 nv)
  by_cases d11 : dv = 11
  · subst d11
    obtain ⟨hb, ⟨hfn, g, off, hA⟩, hbl, hfl, hln⟩ := ho
    have hfn' : fn = L.length := hfn
    subst hfn'
    exact plays_load h hk hand hsp2 hle H21 (hid fun ob u9 ⟨col', m1, _⟩ => x_load m1 hk hM hM0 nv F fa g off fc L (hA.keep m1.d.gr) hL0 (fun p hp => by have := hz3 p hp; omega) hfs)
  by_cases d12 : dv = 12
  · subst d12
    obtain ⟨k1, hk3, hk4⟩ : ∃ k1 : Nat, (1 : Int) - (k : Int) = (k1 : Int) ∧ k1 < 2 := ⟨1 - k, by omega, by omega⟩
    have hok := (h.d.x k1 hk4).dk.1
    have hnd1 := (h.d.x k1 hk4).dk.nd
    have hl : ∀ p ∈ (A k1).sr.C, p.2.length ≤ 1000000000 := fun p hp => by
      have h1 := get_mem (srt_nd hnd1) hp
      have h2 := get_used (srtC (A k1).C) p.1
      rw [h1, used_srt hnd1] at h2
      have h3 := hok.used
      have h4 := hok.room
      simp only [Option.getD_some] at h2
      omega
    have hl2 : ∀ p ∈ (A k1).sr.C, p.1.size ≤ 140737488355328 := fun p hp => by
      have h1 := (ok_sr hok hnd1).nms p hp
      have := goodN_size h1
      omega
    refine plays_copy (n := (A k1).sr.C.length) (L := (A k1).sr.C) h hk hand hsp2 hle H21 hk4 hk3 (hid fun ob u9 ⟨col', m1, _⟩ => (sr_files (m1.d.y k1 hk4)).mono fun e u' ⟨⟨a, g, c', q1, q2⟩, q3⟩ => ⟨_, q1, q3, a, c', rfl, g, q2.mono (fun _ _ => trivial)⟩) (hid fun ob a c' g u9 ⟨col', m1, _⟩ hA => x_load m1 hk hM hM0 nv _ a g 0 c' _ hA ?_ hl hl2)
    have := (ok_sr hok hnd1).len
    omega
  exact (plays_else h hk hand hsp2 hle H21 ⟨d1, d2, d3, d4, d5, d6, d7, d8, d9, d10, d11, d12⟩).mono fun e u' ⟨q1, ob, oc, q2⟩ => ⟨q1, q2.pend hM⟩
end Go.Proofs.YtlgjmdianmijeaaGreat

namespace Go.Proofs.YtlgjmdianmijeaaGreat
open Go Go.RowKit Go.MapKept Go.MuLone
open Go.RowKit (wrap32 wrap64)

variable {w u u' : World} {col col' : Nat → Nat} {b c : Nat → Nat} {A D : Nat → Ab} {A1 D1 A' D' : Ab} {sb bk sk : Nat} {tn sp M : Int}
/-- The operations that are handed in. -/
structure ArO (w : World) (F : Nat → Prop) (a : Option Addr) (g off n : Nat) (T : Nat → Opv) : Prop where
  at_ : 0 < n → a = some ⟨g, off, none⟩ ∧ g < w.heap.size ∧ F g
  each : ∀ i, i < n → w.rangeAt g (off + i * 8) (T i).cells ∧ (T i).In w F
theorem range_keep {w w' : World} {g o : Nat} {cs : List Value} (h : w.rangeAt g o cs) (hg : w.grownBy w' none) (hl : g < w.heap.size) : w'.rangeAt g o cs := fun j v hv => (cell_at hg hl (by simp)).trans (h j v hv)
theorem ArO.keep {w w' : World} {F : Nat → Prop} {a : Option Addr} {g off n : Nat} {T : Nat → Opv} (h : ArO w F a g off n T) (hg : w.grownBy w' none) : ArO w' F a g off n T :=
  ⟨fun h0 => ⟨(h.at_ h0).1, Nat.lt_of_lt_of_le (h.at_ h0).2.1 hg.size, (h.at_ h0).2.2⟩, fun i hi => ⟨range_keep (h.each i hi).1 hg (h.at_ (by omega)).2.1, (h.each i hi).2.keep hg⟩⟩
/-- Between two operations. -/
def LInv (w : World) (sb bk sk : Nat) (s i : Nat) (u : World) : Prop := ∃ col b c A tn sp, Stg w u col sb bk sk b c A (fun j => (A j).sr) tn sp ∧ (0 ≤ tn ∧ tn ≤ (s : Int)) ∧ (0 ≤ sp ∧ sp ≤ (i : Int) * 281474976710656) ∧ ∀ k, k < 2 → (A k).wr ≤ (s : Int)
theorem LInv.cell {s i : Nat} (h : LInv w sb bk sk s i u) : u.cell? ⟨sb, 5, none⟩ = some (.pointer (some ⟨bk, 0, none⟩)) := by
  obtain ⟨col, b, c, A, tn, sp, h1, _⟩ := h
  exact h1.s.blk.cell 5
theorem LInv.gr {s i : Nat} (h : LInv w sb bk sk s i u) : w.grownBy u none := by
  obtain ⟨col, b, c, A, tn, sp, h1, _⟩ := h
  exact h1.d.gr
theorem LInv.keep {s i : Nat} (h : LInv w sb bk sk s i u) (hg : u.grownBy u' none) : LInv w sb bk sk s i u' := by
  obtain ⟨col, b, c, A, tn, sp, h1, h2⟩ := h
  exact ⟨_, b, c, A, tn, sp, h1.keep hg, h2⟩
theorem linv_look {s i : Nat} (h : LInv w sb bk sk s i u) : Calls Tryz.prog 9 #[.pointer (some ⟨bk, 0, none⟩)] u fun e u' => e = .returned (.bool true) ∧ LInv w sb bk sk s i u' := by
  obtain ⟨col, b, c, A, tn, sp, h1, h2⟩ := id h
  exact (look_any u bk h1.k.blk).mono fun e u' ⟨q1, q2⟩ => ⟨q1, h.keep q2⟩
theorem linv_files {s i k : Nat} (hk : k < 2) (h : LInv w sb bk sk s i u) : Calls Tryz.prog 10 #[.pointer (some ⟨sb, 0, none⟩), .int .i64 (k : Nat)] u fun e u' => e = .returned (.bool true) ∧ LInv w sb bk sk s i u' := by
  obtain ⟨col, b, c, A, tn, sp, h1, h2⟩ := id h
  exact (x_files h1 hk).mono fun e u' ⟨q1, q2⟩ => ⟨q1, h.keep q2⟩
theorem LInv.dw {s i k : Nat} (h : LInv w sb bk sk s i u) (hk : k < 2) : ∃ d, u.cell? ⟨sb, k, none⟩ = some (.pointer (some ⟨d, 0, none⟩)) := by
  obtain ⟨col, b, c, A, tn, sp, h1, _⟩ := h
  exact ⟨_, (h1.s.blk.cell k).trans (stc_d hk)⟩
theorem linv_plays {s i : Nat} (hi : i ≤ 400) (hs : s ≤ 1000) (h : LInv w sb bk sk s i u) (o : Opv) (F : Nat → Prop) (ho : o.In w F) (hF : ∀ j, F j → j < w.heap.size) (hn : o.Nm) : Calls Tryz.prog 8 #[.pointer (some ⟨sb, 0, none⟩), .agg o.cells.toArray] u fun e u' => e = .returned (.bool true) ∧ LInv w sb bk sk (s + 1) (i + 1) u' := by
  obtain ⟨col, b, c, A, tn, sp, h1, h2, h3, h4⟩ := h
  have hz2 : szO o ≤ 281474976710656 := szL_up _ _ (by have := ho.bl; omega) ho.fl
  refine (plays_any (M := (s : Int)) h1 o F ho hF hn h4 (by omega) (by omega) (by omega) (by omega)).mono fun e u' ⟨q1, col', b', c', A', tn', q2, q3, q4⟩ => ⟨q1, col', b', c', A', tn', _, q2, by omega, by omega, fun k hk => by have := q4 k hk; omega⟩
theorem linv_fresh {s i k : Nat} (hk : k < 2) (h : LInv w sb bk sk s i u) (room : Int) : Calls Tryz.prog 7 #[.pointer (some ⟨sb, 0, none⟩), .int .i64 (k : Nat), .int .i64 room] u fun e u' => e = .returned (.bool true) ∧ LInv w sb bk sk (s + 1) i u' := by
  obtain ⟨col, b, c, A, tn, sp, h1, h2, h3, h4⟩ := h
  exact (x_fresh (M := (s : Int)) h1 hk h4 (by omega) room).mono fun e u' ⟨q1, col', b', c', A', tn', r2, r3, r4⟩ => ⟨q1, col', b', c', A', tn', sp, r2, by omega, h3, fun k hk => by have := r4 k hk; omega⟩
/-- One pair of disks stands. -/
def One (w : World) (sb bk sk : Nat) (u : World) : Prop := ∃ (u4 : World) (d q m : Nat), w.grownBy u4 none ∧ w.heap.size ≤ bk ∧ bk < sb ∧ sb < u4.heap.size ∧ Blk u bk bkz 56 ∧ u4.heap.size ≤ m ∧ m ≤ u.heap.size ∧ DkP u u4.heap.size d (Ab.new 100) (fun j => u4.heap.size ≤ j ∧ j < m) ∧ (∃ sv E, Rk u m q (Ab.new 100) sv E ∧ ∀ j, Rfp q sv E j → m ≤ j ∧ j < u.heap.size) ∧ Blk u sb [.pointer (some ⟨d, 0, none⟩), .pointer none, .pointer (some ⟨q, 0, none⟩), .pointer none, .bool false, .pointer (some ⟨bk, 0, none⟩), .pointer (some ⟨sk, 0, none⟩), .int .i64 0, .int .i64 0] 78 ∧ u4.grownBy u (some sb)
def st0 (bk sk : Nat) : List Value := [.pointer none, .pointer none, .pointer none, .pointer none, .bool false, .pointer (some ⟨bk, 0, none⟩), .pointer (some ⟨sk, 0, none⟩), .int .i64 0, .int .i64 0]
theorem one_fresh (hg : w.grownBy u none) (hb : w.heap.size ≤ bk) (hbs : bk < sb) (hk : Blk u bk bkz 56) (hs : Blk u sb (st0 bk sk) 78) : Calls Tryz.prog 7 #[.pointer (some ⟨sb, 0, none⟩), .int .i64 0, .int .i64 100] u fun e u' => e = .returned (.bool true) ∧ One w sb bk sk u' :=
  (fresh_ok (k := 0) u 100 hs rfl (by decide) (by decide) (by decide)).mono fun e u' ⟨q1, d, c, m, q2, q3, q4, q5, q6, q7⟩ => ⟨q1, u, d, c, m, hg, hb, hbs, hs.lt, hk.on q7 (by intro e; injection e with e; omega), q2, q3, q4, q5, q6, q7⟩
theorem two_fresh (h : One w sb bk sk u) : Calls Tryz.prog 7 #[.pointer (some ⟨sb, 0, none⟩), .int .i64 1, .int .i64 100] u fun e u' => e = .returned (.bool true) ∧ LInv w sb bk sk 0 0 u' := by
  obtain ⟨u4, d, q, m, h1, h2, h3, h4, h5, h6, h7, h8, h9, h10, h11⟩ := h
  refine (fresh_ok (k := 1) u 100 h10 rfl (by decide) (by decide) (by decide)).mono fun e u' ⟨q1, d', c', m', q2, q3, q4, q5, q6, q7⟩ => ⟨q1, ?_⟩
  have z1 := h11.size
  have z2 := q7.size
  have hw := h1.size
  have hf4 : DF w u' (fun k => w.heap.size ≤ k) := ((DF.of h1).trans (DF.one h11 (P := fun k => w.heap.size ≤ k) (by omega)) (fun _ _ q => q)).trans (DF.one q7 (P := fun k => w.heap.size ≤ k) (by omega)) (fun _ _ q => q)
  have hgw : w.grownBy u' none := hf4.grown (fun _ q => q)
  have hdf : DF u u' (fun k => k = sb) := DF.one q7 rfl
  refine ⟨fun j => if j = sb then 5 else if j = bk then 6 else if j < u4.heap.size then 0 else if j < m then 1 else if j < u.heap.size then 3 else if j < m' then 2 else 4, fun j => if j = 0 then d else d', fun j => if j = 0 then q else c', fun _ => Ab.new 100, 0, 0, ⟨⟨fun j hj => ?_, fun j hj => ?_⟩, ⟨q6, ?_⟩, ⟨h5.on q7 (by intro e; injection e with e; omega), ?_⟩⟩, by decide, by decide, fun k hk => by show (0 : Int) ≤ _; decide⟩
  · rcases (show j = 0 ∨ j = 1 by omega) with rfl | rfl
    · refine ⟨((h8.df hdf (fun k _ hk e => by omega)).base hw).mono (fun x _ _ hx => ⟨?_, by omega, by omega⟩), fun _ hx => hx.2.2, fun _ hx => hx.2.1, hgw⟩
      show (if x = sb then 5 else if x = bk then 6 else if x < u4.heap.size then 0 else if x < m then 1 else _) = 1
      rw [if_neg (by omega), if_neg (by omega), if_neg (by omega), if_pos hx.2]
    · refine ⟨(q4.base (by omega)).mono (fun x _ _ hx => ⟨?_, by omega, by omega⟩), fun _ hx => hx.2.2, fun _ hx => hx.2.1, hgw⟩
      show (if x = sb then 5 else if x = bk then 6 else if x < u4.heap.size then 0 else if x < m then 1 else if x < u.heap.size then 3 else if x < m' then 2 else 4) = 2
      rw [if_neg (by omega), if_neg (by omega), if_neg (by omega), if_neg (by omega), if_neg (by omega), if_pos hx.2]
  · rcases (show j = 0 ∨ j = 1 by omega) with rfl | rfl
    · obtain ⟨sv, E, r1, r2⟩ := h9
      refine ⟨⟨sv, E, by rw [sr_new_self]; exact (r1.df hdf (fun k hk e => by have := r2 k hk; omega)).base (by omega), fun x hx => ⟨?_, by have := r2 x hx; omega, by have := r2 x hx; omega⟩⟩, fun _ hx => hx.2.2, fun _ hx => hx.2.1, hgw⟩
      have hx' := r2 x hx
      show (if x = sb then 5 else if x = bk then 6 else if x < u4.heap.size then 0 else if x < m then 1 else if x < u.heap.size then 3 else if x < m' then 2 else 4) = 3
      rw [if_neg (by omega), if_neg (by omega), if_neg (by omega), if_neg (by omega), if_pos hx'.2]
    · obtain ⟨sv, E, r1, r2⟩ := q5
      refine ⟨⟨sv, E, by rw [sr_new_self]; exact r1.base (by omega), fun x hx => ⟨?_, by have := r2 x hx; omega, by have := r2 x hx; omega⟩⟩, fun _ hx => hx.2.2, fun _ hx => hx.2.1, hgw⟩
      have hx' := r2 x hx
      show (if x = sb then 5 else if x = bk then 6 else if x < u4.heap.size then 0 else if x < m then 1 else if x < u.heap.size then 3 else if x < m' then 2 else 4) = 4
      rw [if_neg (by omega), if_neg (by omega), if_neg (by omega), if_neg (by omega), if_neg (by omega), if_neg (by omega)]
  · exact ⟨if_pos rfl, by omega, by omega⟩
  · refine ⟨?_, by omega, by omega⟩
    show (if bk = sb then 5 else if bk = bk then 6 else _) = 6
    rw [if_neg (by omega), if_pos rfl]
end Go.Proofs.YtlgjmdianmijeaaGreat

namespace Go.Proofs.YtlgjmdianmijeaaGreat
open Go Go.RowKit Go.MapKept Go.MuLone
open Go.RowKit (wrap32 wrap64)

theorem Tryz.built56 : Tryz.prog.built 56 [] = some bkz.toArray := by kernel_rfl
def skz : List Value := [.slice none 0 0, .slice none 0 0, .slice none 0 0, .slice none 0 0, .slice none 0 0, .slice none 0 0, .slice none 0 0, .slice none 0 0, .slice none 0 0, .slice none 0 0, .slice none 0 0, .slice none 0 0, .slice none 0 0, .slice none 0 0]
theorem Tryz.built72 : Tryz.prog.built 72 [] = some skz.toArray := by kernel_rfl
theorem Tryz.built78 (bk sk : Nat) : Tryz.prog.built 78 [(2, .bool false), (3, .pointer (some ⟨bk, 0, none⟩)), (4, .pointer (some ⟨sk, 0, none⟩))] = some (st0 bk sk).toArray := by kernel_rfl
theorem wpList_build_to {P : Program} {ops : Array Oper} {Q : Exit → Act → World → Prop} {rest : List Oper} {o : Oper} {a : Act} {w : World} (hgd : o.guard = none) (t : TypeId) (xs : Array (Nat × Operand)) (ho : o.op = .build t xs) (l : List (Nat × Value)) (hl : (xs.map fun (i, x) => (i, a.eval x)).toList = l) (z : List Value) (hz : P.built t l = some z.toArray)
    (h : wpList P ops Q rest (a.put o.dst (.agg z.toArray)) w) : wpList P ops Q (o :: rest) a w := by
  have e : P.built t (xs.map fun (i, x) => (i, a.eval x)).toList = some z.toArray := by rw [hl]; exact hz
  refine wpList_build hgd t xs ho (by rw [e]; rfl) ?_
  rw [e]
  exact h
set_option maxRecDepth 100000 in
set_option maxHeartbeats 4000000 in
theorem play_exact (w : World) (r0 r1 : Int) (a : Option Addr) (n cc g off : Nat) (T : Nat → Opv) (hA : ArO w (fun j => j < w.heap.size) a g off n T) (hn : n ≤ 140737488355328) (hN : ∀ i, i < n → (T i).Nm) :
    Calls Tryz.prog 5 #[.agg [Value.int .i64 r0, .int .i64 r1, .slice a n cc].toArray, .bool false] w fun e w' => e = .returned (.bool true) ∧ w.grownBy w' none := by
  have HA := hid hA
  have HN := hid hN
  clear hA hN
  go_enter Tryz.func5, Tryz.ntmps5
  go_upto_region 1 with ((with_reducible refine wpList_box_row (by with_unfolding_all rfl) 25 _ (by with_unfolding_all rfl) [Value.int .i64 r0, .int .i64 r1, .slice a n cc] (by with_unfolding_all rfl) ?_); intro w1 B1 s1 g1; have HB1 := hid B1; have HG1 := hid g1; clear B1 s1 g1)
  obtain ⟨ob, hob⟩ : ∃ x, w.heap.size = x := ⟨_, rfl⟩
  have HO := hid hob
  rw [hob] at HB1 ⊢
  clear hob
  have HE1 := hid trivial
  go_upto_region 2 with (first
    | (with_reducible refine wpList_build_row (by with_unfolding_all rfl) 56 (by with_unfolding_all rfl) bkz Tryz.built56 ?_)
    | (with_reducible refine wpList_build_row (by with_unfolding_all rfl) 72 (by with_unfolding_all rfl) skz Tryz.built72 ?_)
    | (with_reducible refine wpList_build_to (by with_unfolding_all rfl) 78 #[(2, Operand.tmp 7), (3, Operand.tmp 9), (4, Operand.tmp 11)] (by with_unfolding_all rfl) _ (by with_unfolding_all rfl) (st0 w1.heap.size w2.heap.size) (Tryz.built78 w1.heap.size w2.heap.size) ?_)
    | ((with_reducible refine wpList_box_row (by with_unfolding_all rfl) 56 _ (by with_unfolding_all rfl) bkz (by with_unfolding_all rfl) ?_); intro w2 B2 s2 g2; have HB2 := hid B2; have HG2 := hid g2; have HZ2 := hid s2; clear B2 s2 g2)
    | ((with_reducible refine wpList_box_row (by with_unfolding_all rfl) 72 _ (by with_unfolding_all rfl) skz (by with_unfolding_all rfl) ?_); intro w3 B3 s3 g3; have HG3 := hid g3; have HZ3 := hid s3; clear B3 s3 g3)
    | ((with_reducible refine wpList_box_row (by with_unfolding_all rfl) 78 _ (by with_unfolding_all rfl) (st0 w1.heap.size w2.heap.size) (by with_unfolding_all rfl) ?_); intro w4 B4 s4 g4; have HB4 := hid B4; have HG4 := hid g4; clear B4 s4 g4))
  obtain ⟨bk, hbk⟩ : ∃ x, w1.heap.size = x := ⟨_, rfl⟩
  obtain ⟨sk, hsk⟩ : ∃ x, w2.heap.size = x := ⟨_, rfl⟩
  obtain ⟨sb, hsb⟩ : ∃ x, w3.heap.size = x := ⟨_, rfl⟩
  rw [hbk, hsk, hsb] at HB4
  rw [hbk] at HB2 HZ2
  rw [hsk] at HZ3
  rw [hbk, hsk, hsb]
  have HG14 := hid (gtrans HG2.out (gtrans HG3.out HG4.out))
  have H1 : Hid (∀ u, w4.grownBy u none → Calls Tryz.prog 7 #[.pointer (some ⟨sb, 0, none⟩), .int .i64 0, .int .i64 100] u fun e u' => e = .returned (.bool true) ∧ One w1 sb bk sk u') := hid (fun u hu => one_fresh (gtrans HG14.out hu) (by omega) (by have := HZ2.out; have := HG3.out.size; have := HZ3.out; omega) (HB2.out.keep (gtrans HG3.out (gtrans HG4.out hu))) (HB4.out.keep hu))
  have H2 : Hid (∀ u, One w1 sb bk sk u → Calls Tryz.prog 7 #[.pointer (some ⟨sb, 0, none⟩), .int .i64 1, .int .i64 100] u fun e u' => e = .returned (.bool true) ∧ LInv w1 sb bk sk 0 0 u') := hid (fun u hu => two_fresh hu)
  have H3 : Hid (∀ u, LInv w1 sb bk sk 0 0 u → Calls Tryz.prog 7 #[.pointer (some ⟨sb, 0, none⟩), .int .i64 0, .int .i64 r0] u fun e u' => e = .returned (.bool true) ∧ LInv w1 sb bk sk 1 0 u') := hid (fun u hu => linv_fresh (k := 0) (by decide) hu r0)
  have H4 : Hid (∀ u, LInv w1 sb bk sk 1 0 u → Calls Tryz.prog 7 #[.pointer (some ⟨sb, 0, none⟩), .int .i64 1, .int .i64 r1] u fun e u' => e = .returned (.bool true) ∧ LInv w1 sb bk sk 2 0 u') := hid (fun u hu => linv_fresh (k := 1) (by decide) hu r1)
  have H6 : Hid (∀ u, Calls Tryz.prog 6 #[] u fun e w' => e = .returned (.bool true) ∧ u.grownBy w' none) := hid (fun u => works_any u)
  have H8 : Hid (∀ (s i : Nat) (u : World), i < n → i < 400 → s ≤ 1000 → LInv w1 sb bk sk s i u → Calls Tryz.prog 8 #[.pointer (some ⟨sb, 0, none⟩), .agg (T i).cells.toArray] u fun e u' => e = .returned (.bool true) ∧ LInv w1 sb bk sk (s + 1) (i + 1) u') := hid (fun s i u h1 h2 h3 hu => linv_plays (by omega) h3 hu (T i) _ (((HA.out.keep HG1.out).each i h1).2) (fun j hj => Nat.lt_of_lt_of_le hj HG1.out.size) (HN.out i h1))
  have H9 : Hid (∀ (s i : Nat) (u : World), LInv w1 sb bk sk s i u → Calls Tryz.prog 9 #[.pointer (some ⟨bk, 0, none⟩)] u fun e u' => e = .returned (.bool true) ∧ LInv w1 sb bk sk s i u') := hid (fun s i u hu => linv_look hu)
  have H10 : Hid (∀ (s i : Nat) (u : World), LInv w1 sb bk sk s i u → Calls Tryz.prog 10 #[.pointer (some ⟨sb, 0, none⟩), .int .i64 0] u fun e u' => e = .returned (.bool true) ∧ LInv w1 sb bk sk s i u') := hid (fun s i u hu => linv_files (k := 0) (by decide) hu)
  have H11 : Hid (∀ (s i : Nat) (u : World), LInv w1 sb bk sk s i u → Calls Tryz.prog 10 #[.pointer (some ⟨sb, 0, none⟩), .int .i64 1] u fun e u' => e = .returned (.bool true) ∧ LInv w1 sb bk sk s i u') := hid (fun s i u hu => linv_files (k := 1) (by decide) hu)
  have HP : Hid (∀ u, w1.grownBy u none → u.cell? ⟨ob, 0, none⟩ = some (.int .i64 r0) ∧ u.cell? ⟨ob, 1, none⟩ = some (.int .i64 r1) ∧ u.cell? ⟨ob, 2, none⟩ = some (.slice a n cc)) := hid (fun u hu => ⟨(HB1.out.keep hu).cell 0, (HB1.out.keep hu).cell 1, (HB1.out.keep hu).cell 2⟩)
  clear hbk hsk hsb HB2 HB4 HZ2 HZ3 HG2 HG3 HG4 HB1
  have HE1 := hid trivial
  have HE2 := hid trivial
  have HE3 := hid trivial
  go_upto_region 4 with (first
    | (go_at_call 6; (with_reducible refine (H6.out _).mono ?_); rintro e u1 ⟨rfl, hg⟩; have HU1 := hid hg; clear hg)
    | (go_at_call 7; have := HE1; clear this HE1; (with_reducible refine (H1.out _ HU1.out).mono ?_); rintro e u2 ⟨rfl, hg⟩; have HU2 := hid hg; clear hg)
    | (go_at_call 7; have := HE2; clear this HE2; (with_reducible refine (H2.out _ HU2.out).mono ?_); rintro e u3 ⟨rfl, hg⟩; have HU3 := hid hg; obtain ⟨d0, k0⟩ := hg.dw (k := 0) (by decide); obtain ⟨d1, k1⟩ := hg.dw (k := 1) (by decide); obtain ⟨p0, p1, -⟩ := HP.out _ hg.gr; clear hg)
    | (go_at_call 7; have := HE3; clear this HE3; (with_reducible refine (H3.out _ HU3.out).mono ?_); rintro e u4 ⟨rfl, hg⟩; have HU4 := hid hg; clear k0 k1 p0 p1; obtain ⟨p0, p1, -⟩ := HP.out _ hg.gr; clear hg)
    | (go_at_call 7; (with_reducible refine (H4.out _ HU4.out).mono ?_); rintro e u5 ⟨rfl, hg⟩; have HU5 := hid hg; clear hg p0 p1))
  clear H1 H2 H3 H4 H6 HU1 HU2 HU3 HU4 HG14
  go_wp2_with fail
  go_loopw [6] (fun iv wr => ∃ i : Nat, iv = .int .i64 i ∧ i ≤ n ∧ i ≤ 400 ∧ Hid (LInv w1 sb bk sk (i + 2) i wr)) (fun iv _ => n - (intOf iv).toNat)
  case atStart => exact ⟨0, rfl, Nat.zero_le _, Nat.zero_le _, HU5⟩
  case round =>
    obtain ⟨i, rfl, hi1, hi2, HI⟩ := hrel
    obtain ⟨-, -, p2⟩ := HP.out _ HI.out.gr
    by_cases hin : i < n
    · have hin' : (i : Int) < (n : Int) := by omega
      by_cases hi4 : i < 400
      · have hi4' : (i : Int) < 400 := by omega
        obtain ⟨rfl, -⟩ := HA.out.at_ (by omega)
        have HR := hid (((HA.out.keep HG1.out).keep HI.out.gr).each i hin).1
        go_wp2_with (first
          | (with_reducible refine wpList_load_part (by with_unfolding_all rfl) 83 _ (by with_unfolding_all rfl) g (off + i * 8) (T i).cells _ (by with_unfolding_all rfl) HR.out Tryz.underlying83 (by with_unfolding_all rfl) (by with_unfolding_all exact Tryz.size83) ?_)
          | (go_at_call 8; (with_reducible refine (H8.out _ _ _ hin hi4 (by omega) HI.out).mono ?_); rintro e u6 ⟨rfl, hg⟩; have HU6 := hid hg; have k5 := hg.cell; clear hg)
          | (go_at_call 9; (with_reducible refine (H9.out _ _ _ HU6.out).mono ?_); rintro e u7 ⟨rfl, hg⟩; have HU7 := hid hg; clear hg k5))
        go_roundw
        case rel => exact ⟨i + 1, by go_num, by omega, by omega, HU7⟩
        case measure => simp [intOf]; omega
      · have hi4' : ¬ (i : Int) < 400 := by omega
        have HEa := hid trivial
        go_wp2_with (first
          | (go_at_call 10; have := HEa; clear this HEa; (with_reducible refine (H10.out _ _ _ HI.out).mono ?_); rintro e u6 ⟨rfl, hg⟩; have HU6 := hid hg; clear hg p2)
          | (go_at_call 10; (with_reducible refine (H11.out _ _ _ HU6.out).mono ?_); rintro e u7 ⟨rfl, hg⟩; have HU7 := hid hg; have k5 := hg.cell; clear hg)
          | (go_at_call 9; (with_reducible refine (H9.out _ _ _ HU7.out).mono ?_); rintro e u8 ⟨rfl, hg⟩; have HU8 := hid hg; clear hg k5))
        go_ret
        exact ⟨rfl, gtrans HG1.out HU8.out.gr⟩
    · have hin' : ¬ (i : Int) < (n : Int) := by omega
      have HEa := hid trivial
      go_wp2_with (first
        | (go_at_call 10; have := HEa; clear this HEa; (with_reducible refine (H10.out _ _ _ HI.out).mono ?_); rintro e u6 ⟨rfl, hg⟩; have HU6 := hid hg; clear hg p2)
        | (go_at_call 10; (with_reducible refine (H11.out _ _ _ HU6.out).mono ?_); rintro e u7 ⟨rfl, hg⟩; have HU7 := hid hg; have k5 := hg.cell; clear hg)
        | (go_at_call 9; (with_reducible refine (H9.out _ _ _ HU7.out).mono ?_); rintro e u8 ⟨rfl, hg⟩; have HU8 := hid hg; clear hg k5))
      go_ret
      exact ⟨rfl, gtrans HG1.out HU8.out.gr⟩
end Go.Proofs.YtlgjmdianmijeaaGreat
