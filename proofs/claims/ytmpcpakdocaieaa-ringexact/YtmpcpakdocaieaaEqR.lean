/- num, CopyKeys, CopyRing, EqKeys, EqRing. -/
import Derived.Test.YtmpcpakdocaieaaEqK
namespace Go.Proofs.Ytmpcpakdocaieaa
open Go Go.RowKit
open Go.RowKit (wrap32 wrap64)

set_option maxRecDepth 100000 in
set_option maxHeartbeats 800000 in
theorem eqRing_any (w : World) (va vb : Value) (F G : Nat → Prop) (x y : List Ky) (nx ny : Nat) (hx : RdK w F va x) (hy : RdK w G vb y) (hxl : x.length ≤ 1099511627776) :
    Calls Try.prog 21 #[.agg #[va, .int .u64 nx], .agg #[vb, .int .u64 ny]] w fun e w' => e = .returned (.bool (decide (nx = ny) && decide (x = y))) ∧ w.grownBy w' none := by
  have HX := hid hx
  have HY := hid hy
  obtain ⟨_, a, _, _, c, rfl, _, _, _⟩ := hx.open
  obtain ⟨_, a', _, _, c', rfl, _, _, _⟩ := hy.open
  have HEk : Hid (∀ u, w.grownBy u none → Calls Try.prog 43 #[.slice a x.length c, .slice a' y.length c'] u fun e w' => e = .returned (.bool (decide (x = y))) ∧ u.grownBy w' none) := fun u hu => eqKeys_any u _ _ F G x y (HX.out.keep hu) (HY.out.keep hu) hxl
  obtain ⟨n, HN⟩ : ∃ n, Hid (x.length = n) := ⟨_, hid rfl⟩
  obtain ⟨m, HM⟩ : ∃ n, Hid (y.length = n) := ⟨_, hid rfl⟩
  obtain ⟨D, HD⟩ : ∃ D, Hid (decide (x = y) = D) := ⟨_, hid rfl⟩
  rw [HN.out, HM.out, HD.out] at HEk
  rw [HN.out, HM.out, HD.out]
  clear hx hy HX HY hxl HN HM HD
  obtain ⟨W1, hW1⟩ : ∃ x, w.alloc (.cells #[.slice a n c, .int .u64 nx] 69) = x := ⟨_, rfl⟩
  obtain ⟨b1, hb1⟩ : ∃ x, w.heap.size = x := ⟨_, rfl⟩
  have HB1 : Hid (Blk W1 b1 [.slice a n c, .int .u64 nx] 69) := hid (by rw [← hW1, ← hb1]; exact Blk.new w [.slice a n c, .int .u64 nx] 69)
  have HG1 : Hid (w.grownBy W1 none) := hid (by rw [← hW1]; exact galloc _ _ _)
  have HSz : Hid (W1.heap.size = b1 + 1) := hid (by rw [← hW1, ← hb1]; simp)
  obtain ⟨W2, hW2⟩ : ∃ x, W1.alloc (.cells #[.slice a' m c', .int .u64 ny] 69) = x := ⟨_, rfl⟩
  have HB2 : Hid (Blk W2 (b1 + 1) [.slice a' m c', .int .u64 ny] 69) := hid (by rw [← hW2, ← HSz.out]; exact Blk.new W1 [.slice a' m c', .int .u64 ny] 69)
  have HG2 : Hid (W1.grownBy W2 none) := hid (by rw [← hW2]; exact galloc _ _ _)
  have hs2 := HSz.out
  have y0 := (HB1.out.keep HG2.out).cell 0
  have y1 := (HB1.out.keep HG2.out).cell 1
  have z0 := HB2.out.cell 0
  have z1 := HB2.out.cell 1
  by_cases he : nx = ny
  · have he' : ((nx : Int) == (ny : Int)) = true := by rw [beq_iff_eq]; omega
    rw [decide_eq_true he, Bool.true_and]
    clear he
    go_enter Try.func21, Try.ntmps21
    go_wp2_with (go_at_call 43; (with_reducible refine (HEk.out _ (gtrans HG1.out HG2.out)).mono ?_); rintro e w3 ⟨rfl, hg3⟩; have HG3 := hid hg3; clear hg3)
    go_ret
    exact ⟨rfl, gtrans (gtrans HG1.out HG2.out) HG3.out⟩
  · have he' : ((nx : Int) == (ny : Int)) = false := beq_eq_false_iff_ne.2 (by omega)
    rw [decide_eq_false he, Bool.false_and]
    clear he
    go_enter Try.func21, Try.ntmps21
    go_wp2_with fail
    go_ret
    exact ⟨rfl, gtrans HG1.out HG2.out⟩
end Go.Proofs.Ytmpcpakdocaieaa
