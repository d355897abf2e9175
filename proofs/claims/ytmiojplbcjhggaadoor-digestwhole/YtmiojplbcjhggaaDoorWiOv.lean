/- Within, Over. -/
import Derived.Test.YtmiojplbcjhggaaDoorRefE
namespace Go.Proofs.YtmiojplbcjhggaaDoor
open Go Go.RowKit
open Go.RowKit (wrap32 wrap64)

set_option maxRecDepth 100000 in
theorem within_any (w : World) (x : Int) (h0 : -9223372036854775808 ≤ x) (h1 : x < 9223372036854775808) :
    Calls Tryd.prog 17 #[.int .i64 x, .int .i64 2] w fun e w' => ∃ k : Nat, e = .returned (.int .i64 (k : Nat)) ∧ k < 2 ∧ w' = w := by
  obtain ⟨t, ht⟩ : ∃ t, Int.tmod x 2 = t := ⟨_, rfl⟩
  have hb : t = 0 ∨ t = 1 ∨ t = -1 := by
    rw [← ht]
    rcases Int.le_total 0 x with h | h
    · rw [Int.tmod_eq_emod_of_nonneg h]; omega
    · have : Int.tmod x 2 = - ((-x) % 2) := by
        have h2 : Int.tmod (-x) 2 = (-x) % 2 := Int.tmod_eq_emod_of_nonneg (by omega)
        rw [Int.neg_tmod] at h2
        omega
      rw [this]; omega
  rcases hb with rfl | rfl | rfl
  · go_enter Tryd.func17, Tryd.ntmps17
    go_wp2
    go_ret
    exact ⟨0, rfl, by omega, rfl⟩
  · go_enter Tryd.func17, Tryd.ntmps17
    go_wp2
    go_ret
    exact ⟨1, rfl, by omega, rfl⟩
  · go_enter Tryd.func17, Tryd.ntmps17
    go_wp2
    go_ret
    exact ⟨1, rfl, by omega, rfl⟩

set_option maxRecDepth 100000 in
set_option maxHeartbeats 1600000 in
theorem over_any (w : World) (b c : Nat) (l : List UInt8) (hv : Out b w (.slice (some ⟨b, 0, none⟩) (l.length + 70) c) (l ++ mkL 70)) (hl : l.length ≤ 140737488351232) :
    Calls Tryd.prog 19 #[.slice (some ⟨b, 0, none⟩) l.length c] w fun e w' => e = .returned (.tuple #[]) ∧ w.grownBy w' (some b) := by
  have HV := hid hv
  obtain ⟨m, HM⟩ : ∃ m, Hid (l.length = m) := ⟨_, hid rfl⟩
  rw [HM.out] at hl HV ⊢
  clear hv
  go_enter Tryd.func19, Tryd.ntmps19
  go_wp2_with fail
  go_loopw [2] (fun iv wr => ∃ (i : Nat) (l' : List UInt8), iv = .int .i64 i ∧ i ≤ m ∧ Hid (l'.length = m + 70) ∧ Hid (Out b wr (.slice (some ⟨b, 0, none⟩) (m + 70) c) l') ∧ Hid (w.grownBy wr (some b))) (fun iv _ => m - (intOf iv).toNat)
  case atStart => exact ⟨0, l ++ mkL 70, rfl, Nat.zero_le _, hid (by rw [lm_length, HM.out]), HV, hid (grefl _ _)⟩
  case round =>
    obtain ⟨i, l', rfl, hi, HL, HO, HG⟩ := hrel
    by_cases hlt : i < m
    · have i1 : (i : Int) < (m : Int) := by omega
      have hfr := HO.out.free i
      obtain ⟨g, c', e, _, _, hgs, hcl⟩ := HO.out.form (by rw [HL.out]; omega)
      injection e with e1 e2 e3
      injection e1 with e1
      injection e1 with e1
      subst e1
      obtain ⟨y, hy⟩ : ∃ y, wr.cell? ⟨b, i, none⟩ = some (.int .u8 y) := ⟨_, hcl i (by rw [HL.out]; omega)⟩
      have HS := hid (HO.out.set i 238)
      clear hcl e2 e3
      go_wp2_with fail
      go_roundw
      case rel => exact ⟨i + 1, l'.set i 238, by go_num, by omega, hid (by rw [List.length_set]; exact HL.out), HS, hid (gtrans HG.out (gset _ _ _))⟩
      case measure => simp [intOf]; omega
    · obtain rfl : i = m := by omega
      go_wp2_with fail
      go_end0
      exact ⟨rfl, HG.out⟩
end Go.Proofs.YtmiojplbcjhggaaDoor
