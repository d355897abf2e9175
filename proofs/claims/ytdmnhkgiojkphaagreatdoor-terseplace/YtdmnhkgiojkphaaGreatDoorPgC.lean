/- The reference's Good, walked. -/
import Derived.Test.YtdmnhkgiojkphaaGreatDoorPgB
import Derived.Test.YtdmnhkgiojkphaaGreatDoorWalkE
namespace Go.Proofs.YtdmnhkgiojkphaaGreatDoor
open Go Go.RowKit
open Go.RowKit (wrap32 wrap64)

theorem good_from (s : ByteArray) (i : Nat) (h : i < s.size) : Lib.validD (from_ s i) = if oneR (from_ s i) = 0 then false else Lib.validD (from_ s (i + oneR (from_ s i))) := by
  have hne : from_ s i ≠ [] := by rw [from_lt s i h]; simp
  rw [good_one _ hne]
  by_cases e : oneR (from_ s i) = 0
  · rw [if_pos e, if_pos e]
  · rw [if_neg e, if_neg e]
    unfold from_
    rw [List.drop_drop]
set_option maxRecDepth 100000 in
set_option maxHeartbeats 2000000 in
theorem goodR_any (s : ByteArray) (w : World) (hs : s.size ≤ 1099511627776) : Calls Tryz.prog 24 #[.string s] w fun e w' => e = .returned (.bool (good s)) ∧ w' = w := by
  obtain ⟨G, HGd⟩ : ∃ G, Hid (good s = G) := ⟨_, hid rfl⟩
  rw [HGd.out]
  go_enter Tryz.func24, Tryz.ntmps24
  go_wp2_with fail
  go_loop [3] (fun i => ∃ k : Nat, k ≤ s.size ∧ i = .int .i64 k ∧ Hid (Lib.validD (from_ s k) = G)) (fun i => s.size - (intOf i).toNat)
  case atStart => exact ⟨0, by omega, rfl, hid (by rw [from_zero]; exact HGd.out)⟩
  case round =>
    obtain ⟨k, hk, rfl, HV⟩ := hrel
    by_cases hlt : k < s.size
    · have hlti : (k : Int) < (s.size : Int) := by omega
      have hki : (k : Int) ≤ (s.size : Int) := by omega
      obtain ⟨S, e1⟩ : ∃ S, s.extract k s.size = S := ⟨_, rfl⟩
      obtain ⟨hl1, hz1⟩ := extk e1
      have hl1' : S.data.toList = from_ s k := hl1
      have hst := good_from s k hlt
      have hle := (one_le (from_ s k)).1
      rw [from_length] at hle
      have hC : ∀ u : World, Calls Tryz.prog 59 #[.string S] u fun e w' => e = .returned (.int .i64 (oneR (from_ s k) : Nat)) ∧ w' = u := fun u => by
        have := one_any S u (by omega)
        rw [hl1'] at this
        exact this
      obtain ⟨n, HN⟩ : ∃ n, Hid (oneR (from_ s k) = n) := ⟨_, hid rfl⟩
      rw [HN.out] at hC hst hle
      have HC := hid hC
      have HST := hid hst
      clear hC hst hl1 hl1' hz1
      by_cases h0 : n = 0
      · have h0i : ((n : Int) == 0) = true := by rw [beq_iff_eq]; omega
        have HE : Hid (G = false) := hid (by rw [← HV.out, HST.out, if_pos h0])
        clear HST HV HN
        go_wp2_with (go_at_call 59; refine (HC.out _).mono ?_; rintro e w2 ⟨rfl, rfl⟩)
        go_ret
        exact ⟨by rw [HE.out]; rfl, rfl⟩
      · have h0i : ((n : Int) == 0) = false := by rw [beq_eq_false_iff_ne]; omega
        have HE : Hid (Lib.validD (from_ s (k + n)) = G) := hid (by rw [← HV.out, HST.out, if_neg h0])
        clear HST HV HN
        go_wp2_with (go_at_call 59; refine (HC.out _).mono ?_; rintro e w2 ⟨rfl, rfl⟩)
        go_round
        case rel => exact ⟨k + n, by omega, by go_num, HE⟩
        case measure => simp [intOf]; omega
    · have hlti : ¬ (k : Int) < (s.size : Int) := by omega
      have HE : Hid (G = true) := hid (by rw [← HV.out, from_ge s k (by omega)]; rfl)
      clear HV
      go_wp2_with fail
      go_ret
      exact ⟨by rw [HE.out]; rfl, rfl⟩
end Go.Proofs.YtdmnhkgiojkphaaGreatDoor
