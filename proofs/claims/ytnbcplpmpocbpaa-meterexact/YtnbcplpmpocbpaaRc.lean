/- The reference's Quarter. -/
import Derived.Test.YtnbcplpmpocbpaaRb
namespace Go.Proofs.Ytnbcplpmpocbpaa
open Go Go.RowKit
open Go.RowKit (wrap32 wrap64)

theorem rne2_int (n : Nat) : ((rne n 2 : Nat) : Int) = (n : Int) / 4 + if 2 < (n : Int) % 4 ∨ ((n : Int) % 4 = 2 ∧ (n : Int) / 4 % 2 = 1) then 1 else 0 := by
  unfold rne
  rw [show (2 : Nat) ^ 2 = 4 from rfl]
  by_cases c : 4 < 2 * (n % 4) ∨ (4 = 2 * (n % 4) ∧ n / 4 % 2 = 1)
  · rw [if_pos c, if_pos (show 2 < (n : Int) % 4 ∨ ((n : Int) % 4 = 2 ∧ (n : Int) / 4 % 2 = 1) by omega)]; omega
  · rw [if_neg c, if_neg (show ¬ (2 < (n : Int) % 4 ∨ ((n : Int) % 4 = 2 ∧ (n : Int) / 4 % 2 = 1)) by omega)]; omega
set_option maxRecDepth 100000 in
set_option maxHeartbeats 3200000 in
theorem quarter_any (b : Nat) (hb : Fnt b) (w : World) : Calls Try.prog 35 #[.int .u64 (b : Int)] w fun e w' => e = .returned (.int .u64 (qt b : Int)) ∧ w' = w := by
  have HR : Hid (((qt b : Nat) : Int) = if 13510798882111488 ≤ (b : Int) then (b : Int) - 9007199254740992 else ((qm b : Nat) : Int) / 4 + if 2 < ((qm b : Nat) : Int) % 4 ∨ (((qm b : Nat) : Int) % 4 = 2 ∧ ((qm b : Nat) : Int) / 4 % 2 = 1) then 1 else 0) := hid (by
    unfold qt
    by_cases h : 13510798882111488 ≤ b
    · rw [if_pos h, if_pos (show 13510798882111488 ≤ (b : Int) by omega)]; omega
    · rw [if_neg h, if_neg (show ¬ 13510798882111488 ≤ (b : Int) by omega), rne2_int])
  have HQ : Hid (((qm b : Nat) : Int) = if (b : Int) < 9007199254740992 then (b : Int) else 2 * ((b : Int) % 4503599627370496 + 4503599627370496)) := hid (by
    unfold qm
    by_cases h : b < 9007199254740992
    · rw [if_pos h, if_pos (show (b : Int) < 9007199254740992 by omega)]
    · rw [if_neg h, if_neg (show ¬ (b : Int) < 9007199254740992 by omega)]; omega)
  generalize ((qm b : Nat) : Int) = M at *
  generalize ((qt b : Nat) : Int) = R at *
  have g1 : 0 ≤ (b : Int) := by omega
  have g2 : (b : Int) < 9218868437227405312 := by unfold Fnt at hb; omega
  generalize (b : Int) = X at *
  clear hb
  by_cases h1 : 13510798882111488 ≤ X
  · have e := HR.out
    rw [if_pos h1] at e
    have HE := hid e
    clear e HR HQ
    go_enter Try.func35, Try.ntmps35
    go_wp2_with fail
    go_ret
    exact ⟨ret_int (by rw [HE.out]), rfl⟩
  · have e := HR.out
    rw [if_neg h1] at e
    have HE := hid e
    clear e HR
    by_cases h2 : 9007199254740992 ≤ X
    · have e := HQ.out
      rw [if_neg (by omega)] at e
      have HM : Hid (M = 2 * (X - 4503599627370496)) := hid (by omega)
      have t1 : X.tmod 4503599627370496 = X - 9007199254740992 := by rw [Int.tmod_eq_emod_of_nonneg g1]; omega
      clear e HQ
      go_enter Try.func35, Try.ntmps35
      go_wp2_with fail
      all_goals (
        go_ret
        refine ⟨ret_int ?_, rfl⟩
        rw [HE.out, HM.out]
        try simp only [beq_iff_eq, beq_eq_false_iff_ne, ne_eq] at *
        first | (rw [if_pos (by omega)]; omega) | (rw [if_neg (by omega)]; omega) | (clear t1; first | (rw [if_pos (by omega)]) | (rw [if_neg (by omega)]; omega)))
    · have e := HQ.out
      rw [if_pos (by omega)] at e
      have HM : Hid (M = X) := hid e
      clear e HQ
      by_cases h3 : 4503599627370496 ≤ X
      · have t1 : X.tmod 4503599627370496 = X - 4503599627370496 := by rw [Int.tmod_eq_emod_of_nonneg g1]; omega
        go_enter Try.func35, Try.ntmps35
        go_wp2_with fail
        all_goals (
          go_ret
          refine ⟨ret_int ?_, rfl⟩
          rw [HE.out, HM.out]
          try simp only [beq_iff_eq, beq_eq_false_iff_ne, ne_eq] at *
          first | (rw [if_pos (by omega)]; omega) | (rw [if_neg (by omega)]; omega) | (clear t1; first | (rw [if_pos (by omega)]) | (rw [if_neg (by omega)]; omega)))
      · go_enter Try.func35, Try.ntmps35
        go_wp2_with fail
        all_goals (
          go_ret
          refine ⟨ret_int ?_, rfl⟩
          rw [HE.out, HM.out]
          try simp only [beq_iff_eq, beq_eq_false_iff_ne, ne_eq] at *
          first | (rw [if_pos (by omega)]) | (rw [if_neg (by omega)]; omega))
end Go.Proofs.Ytnbcplpmpocbpaa
