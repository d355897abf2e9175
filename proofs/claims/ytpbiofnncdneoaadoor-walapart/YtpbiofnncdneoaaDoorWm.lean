/- Two logs in one disk, two rows beside them: plain steps for WalApart. -/
import Derived.Test.YtpbiofnncdneoaaDoorWl
import Derived.Test.YtpbiofnncdneoaaDoorLoB
namespace Go.Proofs.YtpbiofnncdneoaaDoor
open Go Go.RowKit Go.MapKept Go.MuLone
open Go.RowKit (wrap32 wrap64)

theorem ne_ab : (⟨#[97]⟩ : ByteArray) ≠ ⟨#[98]⟩ := by decide
/-- Two logs (records p and q; behind p what a torn write has left), two rows (r and s). -/
structure AW (w u : World) (b l2 : Nat) (x y : Value) (p : List (List UInt8)) (t : List UInt8) (q r s : List (List UInt8)) (A : Ab) (P : Nat → Prop) (U : Nat) : Prop where
  sd : Sd w u b A P
  la : Lgd A ⟨#[97]⟩ ⟨#[97]⟩ ⟨#[98]⟩ 4194304 U p t
  lb : Lgd A ⟨#[98]⟩ ⟨#[97]⟩ ⟨#[98]⟩ 4194304 U q []
  g2 : LgP w u l2 b ⟨#[98]⟩ (flen q) false P
  ox : OutW w.heap.size u x r
  oy : OutW w.heap.size u y s
  px : ∀ k, x.ownBlock = some k → ¬ P k
  py : ∀ k, y.ownBlock = some k → ¬ P k
  ne : ∀ k, x.ownBlock = some k → y.ownBlock ≠ some k
/-- .. and nothing is armed, nothing torn. -/
structure AS (w u : World) (b l1 l2 : Nat) (x y : Value) (p q r s : List (List UInt8)) (A : Ab) (P : Nat → Prop) (U : Nat) : Prop where
  aw : AW w u b l2 x y p [] q r s A P U
  off : A.off = false
  ar : A.ar = 0
  g1 : LgP w u l1 b ⟨#[97]⟩ (flen p) false P
  nl : l1 ≠ l2
variable {w u u' : World} {b l1 l2 : Nat} {x y : Value} {p q r s : List (List UInt8)} {t : List UInt8} {A : Ab} {P : Nat → Prop} {U : Nat}
theorem AW.keep (h : AW w u b l2 x y p t q r s A P U) (hg : u.grownBy u' none) : AW w u' b l2 x y p t q r s A P U := ⟨h.sd.keep hg, h.la, h.lb, h.g2.keep hg, h.ox.keep hg, h.oy.keep hg, h.px, h.py, h.ne⟩
theorem AS.keep (h : AS w u b l1 l2 x y p q r s A P U) (hg : u.grownBy u' none) : AS w u' b l1 l2 x y p q r s A P U := ⟨h.aw.keep hg, h.off, h.ar, h.g1.keep hg, h.nl⟩
theorem flen_used {s' m' n' : ByteArray} (h : Lgd A s' m' n' 4194304 U p t) (hU : U ≤ 1000000) : flen p ≤ 1000000 := by
  have h1 := h.old
  have h2 := get_used A.C s'
  have h3 := h.live.used
  have h4 : (A.old s').length = flen p + t.length := by rw [h1, List.length_append]; rfl
  unfold Ab.old at h4
  omega
theorem Lgd.other {s' m' n' : ByteArray} {V : Nat} {A' : Ab} (h : Lgd A s' m' n' 4194304 U p t) (hl : Live A' 4194304 V m' n') (ho : A'.old s' = A.old s') : Lgd A' s' m' n' 4194304 V p t := ⟨hl, h.nm, h.good, by rw [ho, h.old], h.tl, h.each, h.num⟩
/-- What stands beside, behind a write of the disk. -/
theorem OutW.beside {Q : Nat → Prop} {v : Value} {ls : List (List UInt8)} (h : OutW w.heap.size u v ls) (hd : DF u u' Q) (h1 : ∀ k, v.ownBlock = some k → ¬ Q k) (h2 : ∀ k, Q k → w.heap.size ≤ k) : OutW w.heap.size u' v ls := h.df hd h1 (fun k hk hq => by have := h2 k hq; omega)
/-- A record to the first log. -/
theorem as_app1 (h : AS w u b l1 l2 x y p q r s A P U) (hT : Tab w) (hw : A.wr ≤ 1000000) (hU : U ≤ 600000) (hp : p.length ≤ 1000) (F : Nat → Prop) (v : Value) (l : List UInt8) (hr : Rd u F v l) (hl : l.length ≤ 600000) :
    Calls Tryd.prog 15 #[.pointer (some ⟨l1, 0, none⟩), v] u fun e u' => ∃ A' P', e = .returned (.int .i64 0) ∧ AS w u' b l1 l2 x y (p ++ [l]) q r s A' P' (U + (l.length + 13)) ∧ A'.wr ≤ A.wr + 1 := by
  obtain ⟨q1, q2, q3, q4, q5, q6, q7⟩ := h.aw.la.app (l := l) h.off (by rw [h.ar]; decide) (by omega) (by omega) (by omega)
  have hf := flen_used h.aw.la (by omega)
  have c := sd_app h.aw.sd h.g1 hT (by omega) (by omega) F v l hr (by omega)
  unfold lgZ at c
  rw [q1] at c
  refine c.mono fun e u' ⟨P', c1, c2, c3, c4, c5⟩ => ?_
  have hge : ∀ k, (P k ∨ k = l1) → w.heap.size ≤ k := fun k hk => hk.elim (h.aw.sd.ge k) (fun e => e ▸ h.g1.ge)
  have hnew : ∀ (z : Value) (ls : List (List UInt8)), OutW w.heap.size u z ls → (∀ k, z.ownBlock = some k → ¬ P k) → ∀ k, z.ownBlock = some k → ¬ P' k := fun z ls ho hz k hk hq => (c5 k hq).elim (hz k hk) (fun g => by have := ho.lt k hk; omega)
  have hdis : ∀ (z : Value) (ls : List (List UInt8)), OutW w.heap.size u z ls → (∀ k, z.ownBlock = some k → ¬ P k) → ∀ k, z.ownBlock = some k → ¬ (P k ∨ k = l1) := fun z ls ho hz k hk hq => hq.elim (hz k hk) (fun e => ho.ne_lg h.g1.lg (by rw [hk, e]))
  refine ⟨_, P', c1, ⟨⟨c2, q2, h.aw.lb.other q2.live (q7 _ (fun e => ne_ab e.symm)), h.aw.g2.df c4 (fun hq => hq.elim h.aw.g2.ap (fun e => h.nl e.symm)) c5, h.aw.ox.beside c4 (hdis x _ h.aw.ox h.aw.px) hge, h.aw.oy.beside c4 (hdis y _ h.aw.oy h.aw.py) hge, hnew x _ h.aw.ox h.aw.px, hnew y _ h.aw.oy h.aw.py, h.aw.ne⟩, q3, by rw [q4, h.ar]; rfl, ?_, h.nl⟩, by rw [q5]; omega⟩
  rw [flen_app]
  exact c3
/-- .. to the second. -/
theorem as_app2 (h : AS w u b l1 l2 x y p q r s A P U) (hT : Tab w) (hw : A.wr ≤ 1000000) (hU : U ≤ 600000) (hp : q.length ≤ 1000) (F : Nat → Prop) (v : Value) (l : List UInt8) (hr : Rd u F v l) (hl : l.length ≤ 600000) :
    Calls Tryd.prog 15 #[.pointer (some ⟨l2, 0, none⟩), v] u fun e u' => ∃ A' P', e = .returned (.int .i64 0) ∧ AS w u' b l1 l2 x y p (q ++ [l]) r s A' P' (U + (l.length + 13)) ∧ A'.wr ≤ A.wr + 1 := by
  obtain ⟨q1, q2, q3, q4, q5, q6, q7⟩ := h.aw.lb.app (l := l) h.off (by rw [h.ar]; decide) (by omega) (by omega) (by omega)
  have hf := flen_used h.aw.lb (by omega)
  have c := sd_app h.aw.sd h.aw.g2 hT (by omega) (by omega) F v l hr (by omega)
  unfold lgZ at c
  rw [q1] at c
  refine c.mono fun e u' ⟨P', c1, c2, c3, c4, c5⟩ => ?_
  have hge : ∀ k, (P k ∨ k = l2) → w.heap.size ≤ k := fun k hk => hk.elim (h.aw.sd.ge k) (fun e => e ▸ h.aw.g2.ge)
  have hnew : ∀ (z : Value) (ls : List (List UInt8)), OutW w.heap.size u z ls → (∀ k, z.ownBlock = some k → ¬ P k) → ∀ k, z.ownBlock = some k → ¬ P' k := fun z ls ho hz k hk hq => (c5 k hq).elim (hz k hk) (fun g => by have := ho.lt k hk; omega)
  have hdis : ∀ (z : Value) (ls : List (List UInt8)), OutW w.heap.size u z ls → (∀ k, z.ownBlock = some k → ¬ P k) → ∀ k, z.ownBlock = some k → ¬ (P k ∨ k = l2) := fun z ls ho hz k hk hq => hq.elim (hz k hk) (fun e => ho.ne_lg h.aw.g2.lg (by rw [hk, e]))
  refine ⟨_, P', c1, ⟨⟨c2, h.aw.la.other q2.live (q7 _ ne_ab), q2, by rw [flen_app]; exact c3, h.aw.ox.beside c4 (hdis x _ h.aw.ox h.aw.px) hge, h.aw.oy.beside c4 (hdis y _ h.aw.oy h.aw.py) hge, hnew x _ h.aw.ox h.aw.px, hnew y _ h.aw.oy h.aw.py, h.aw.ne⟩, q3, by rw [q4, h.ar]; rfl, h.g1.df c4 (fun hq => hq.elim h.g1.ap (fun e => h.nl e)) c5, h.nl⟩, by rw [q5]; omega⟩
/-- The first row is appended to. -/
theorem as_row1 {o : Obj} {x' : Value} {l : List UInt8} (h : AS w u b l1 l2 x y p q r s A P U) (ho : OutW w.heap.size u' x' (r ++ [l])) (hg : (u.alloc o).grownBy u' x.ownBlock) (hb : x'.ownBlock = x.ownBlock ∨ x'.ownBlock = some (u.alloc o).heap.size) : AS w u' b l1 l2 x' y p q (r ++ [l]) s A P U := by
  obtain ⟨c1, c2, c3⟩ := ts_row h.aw.sd h.aw.ox h.aw.px hg hb
  have hy := (h.aw.oy.keep (galloc u o none)).beside (DF.opt hg (fun k hk => hk)) (fun k hk e => h.aw.ne k e hk) (fun k hk => h.aw.ox.low k hk)
  refine ⟨⟨c1, h.aw.la, h.aw.lb, c3 h.aw.g2, ho, hy, c2, h.aw.py, fun k hk e => ?_⟩, h.off, h.ar, c3 h.g1, h.nl⟩
  rcases hb with hb | hb
  · exact h.aw.ne k (by rw [← hb]; exact hk) e
  · rw [hb] at hk
    injection hk with hk
    have := h.aw.oy.lt k e
    have := (galloc u o none).size
    omega
theorem as_row2 {o : Obj} {y' : Value} {l : List UInt8} (h : AS w u b l1 l2 x y p q r s A P U) (ho : OutW w.heap.size u' y' (s ++ [l])) (hg : (u.alloc o).grownBy u' y.ownBlock) (hb : y'.ownBlock = y.ownBlock ∨ y'.ownBlock = some (u.alloc o).heap.size) : AS w u' b l1 l2 x y' p q r (s ++ [l]) A P U := by
  obtain ⟨c1, c2, c3⟩ := ts_row h.aw.sd h.aw.oy h.aw.py hg hb
  have hx := (h.aw.ox.keep (galloc u o none)).beside (DF.opt hg (fun k hk => hk)) (fun k hk e => h.aw.ne k hk e) (fun k hk => h.aw.oy.low k hk)
  refine ⟨⟨c1, h.aw.la, h.aw.lb, c3 h.aw.g2, hx, ho, h.aw.px, c2, fun k hk e => ?_⟩, h.off, h.ar, c3 h.g1, h.nl⟩
  rcases hb with hb | hb
  · exact h.aw.ne k hk (by rw [← hb]; exact e)
  · rw [hb] at e
    injection e with e
    have := h.aw.ox.lt k hk
    have := (galloc u o none).size
    omega
end Go.Proofs.YtpbiofnncdneoaaDoor
