/- Eq, Copy; files looked up; files compared. -/
import Derived.Test.YtpbiofnncdneoaaDoorDo
import Derived.BigQuiet
namespace Go.Proofs.YtpbiofnncdneoaaDoor
open Go Go.RowKit Go.MapKept Go.MuLone
open Go.RowKit (wrap32 wrap64)

set_option maxRecDepth 100000 in
theorem copyR_any (w : World) (v : Value) (F : Nat → Prop) (l : List UInt8) (hb : Rd w F v l) (hl : l.length ≤ 17592186044416) :
    Calls Tryd.prog 16 #[v] w fun e w' => ∃ v', e = .returned v' ∧ Out w.heap.size w' v' l ∧ w.grownBy w' none := by
  have HR := hid hb
  have HL := hid hl
  clear hb hl
  go_enter Tryd.func16, Tryd.ntmps16
  go_wp2_with (at_builtin; refine wpList_append_at rfl _ _ rfl w.heap.size F [] l (Out.nil _ _) HR.out (by have := HL.out; simp; omega) (Nat.le_refl _) ?_; intro v2 w2 hO2 hg2 _)
  go_ret
  exact ⟨_, rfl, by simpa using hO2, (grefl w none).andThen hg2 (fun j hj => by simp [Act.eval, Value.ownBlock] at hj)⟩
theorem ba_dec (a b : ByteArray) : (a.toList == b.toList) = decide (a = b) := by
  rw [Lib.toList_data, Lib.toList_data]
  by_cases h : a = b
  · subst h; simp
  · rw [decide_eq_false h]
    refine beq_eq_false_iff_ne.2 (fun e => h ?_)
    cases a; cases b
    simpa using e
end Go.Proofs.YtpbiofnncdneoaaDoor
