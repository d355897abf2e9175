/- The walks of keysFit, unusedAreZero, checkAlone, check, Check. -/
import Derived.Test.YtdmnhkgiojkphaaGreatDoorWalkU
namespace Go.Proofs.YtdmnhkgiojkphaaGreatDoor
open Go Go.RowKit Go.Maps
open Go.RowKit (wrap32 wrap64)

set_option maxRecDepth 100000 in
set_option maxHeartbeats 1000000 in
theorem keysFit_any (t : Tree) (w : World) (F : Nat → Prop) (v : Value) (hv : RdT w F t v) (hn : cntT t ≤ 1099511627776) :
    Calls Tryz.prog 137 #[v] w fun e w' => e = .returned (.bool (keysFit t)) ∧ w.grownBy w' none := by
  have hkn : keyN t.keys ≤ 1099511627776 := by rw [cntT_eq] at hn; omega
  rw [RdT_eq] at hv
  obtain ⟨kv, ia, ic, rfl, hkv, _, _⟩ := hv
  have hkv0 := hkv
  obtain ⟨ka, kc, rfl, _⟩ := hkv
  have hPl : ∀ u : World, w.grownBy u none → Calls Tryz.prog 174 #[.slice ka t.keys.length kc] u fun e w' => ∃ (mb : Nat), e = .returned (.map (some mb)) ∧ u.grownBy w' none ∧ ∀ ty, (Builtin.len_ #[159] ty #[.map (some mb)]).run Tryz.prog w' = .ok (.int .i64 (distG [] t.keys : Nat)) w' := fun u hu => by
    refine (places_any t.keys u F _ (hkv0.kept (Stays.none hu) (fun _ h _ => h)) hkn).mono ?_
    rintro e w' ⟨mb, n, D, rfl, h1, h2, h3⟩
    exact ⟨mb, rfl, h1, fun ty => by rw [h2.len Tryz.underlying159 ty, h3]⟩
  have hkf : keysFit t = (((t.keys.length : Int) == (t.items.length : Int)) && ((t.keys.length : Int) == (distG [] t.keys : Int))) := by
    unfold keysFit
    rw [distG_nodup]
    congr 1
    by_cases h : t.keys.length = t.items.length
    · rw [h]; simp
    · rw [beq_eq_false_iff_ne.2 h, beq_eq_false_iff_ne.2 (by omega)]
  have HKF := hid hkf
  obtain ⟨A, HA⟩ : ∃ A, Hid (t.items.length = A) := ⟨_, hid rfl⟩
  obtain ⟨KN, HKN⟩ : ∃ A, Hid (t.keys.length = A) := ⟨_, hid rfl⟩
  obtain ⟨DN, HDN⟩ : ∃ A, Hid (distG [] t.keys = A) := ⟨_, hid rfl⟩
  rw [HA.out, HKN.out, HDN.out] at HKF
  rw [HKN.out, HDN.out] at hPl
  have HPl := hid hPl
  rw [HA.out, HKN.out]
  have g0 : w.grownBy (w.alloc (.cells #[.int .i64 t.kind, .bool t.flag, .int .i64 t.n, .string t.text, .slice ka KN kc, .slice ia A ic] 26)) none := galloc _ _ none
  obtain ⟨W0, hW0⟩ : ∃ W0, w.alloc (.cells #[.int .i64 t.kind, .bool t.flag, .int .i64 t.n, .string t.text, .slice ka KN kc, .slice ia A ic] 26) = W0 := ⟨_, rfl⟩
  have c0 := boxed w (.int .i64 t.kind) (.bool t.flag) (.int .i64 t.n) (.string t.text) (.slice ka KN kc) (.slice ia A ic)
  rw [hW0] at c0 g0
  have HG0 := hid g0
  have HC0 := hid c0
  obtain ⟨⟨x0, x1, x2, x3, x4, x5⟩, xf⟩ := cells6 c0
  have SO : Hid (∀ u : World, u.heap[w.heap.size]? = some (.cells #[.int .i64 t.kind, .bool t.flag, .int .i64 t.n, .string t.text, .slice ka KN kc, .slice ia A ic] 26 (0, 0)) → u.cell? ⟨w.heap.size, 4, none⟩ = some (.slice ka KN kc) ∧ u.cell? ⟨w.heap.size, 5, none⟩ = some (.slice ia A ic)) := fun u hu => ⟨(cells6 hu).1.2.2.2.2.1, (cells6 hu).1.2.2.2.2.2⟩
  clear c0 g0 hPl hkf hkv0 hn hkn
  by_cases hlen : KN = A
  · subst hlen
    have hbb : ((KN : Int) == (KN : Int)) = true := by simp
    have HBB := hid hbb
    clear hbb
    go_enter Tryz.func137, Tryz.ntmps137
    go_wp2_with fail
    go_region_held (fun u => u.cell? ⟨w.heap.size, 4, none⟩ = some (.slice ka KN kc) ∧ u.cell? ⟨w.heap.size, 5, none⟩ = some (.slice ia KN ic))
      (exact SO.out _ (by first | exact HC0.out | assumption))
      (first | (go_at_call 174; refine (HPl.out _ (gtrans HG0.out (gdrew1 W0 none))).mono ?_; rintro e w2 ⟨mb, rfl, hg2, hm2⟩; have hb2 : w2.heap[w.heap.size]? = some (.cells #[.int .i64 t.kind, .bool t.flag, .int .i64 t.n, .string t.text, .slice ka KN kc, .slice ia KN ic] 26 (0, 0)) := (hg2.block _ (Array.getElem?_eq_some_iff.1 HC0.out).1 (by simp)).trans HC0.out))
    all_goals
      have HG2 := hid (gtrans (gtrans HG0.out (gdrew1 W0 none)) hg2)
      clear hg2 hb2
      go_wp2_with fail
      go_ret
      refine ⟨?_, HG2.out⟩
      rw [HKF.out, HBB.out, Bool.true_and]
      rfl
  · have hbb : ((KN : Int) == (A : Int)) = false := beq_eq_false_iff_ne.2 (by omega)
    have hbn : (KN == A) = false := beq_eq_false_iff_ne.2 hlen
    go_enter Tryz.func137, Tryz.ntmps137
    go_wp2_with fail
    go_quiet (fail)
    go_wp2_with fail
    go_ret
    refine ⟨?_, gtrans HG0.out (gdrew W0 _ none)⟩
    rw [HKF.out, hbb, Bool.false_and]
    rfl
end Go.Proofs.YtdmnhkgiojkphaaGreatDoor
