/- The reference's Half, Quarter. -/
import Derived.Test.YtnbcplpmpocbpaaWg
import Derived.Laws.Bits64b
namespace Go.Proofs.Ytnbcplpmpocbpaa
open Go Go.RowKit
open Go.RowKit (wrap32 wrap64)

set_option maxRecDepth 100000 in
theorem half_any (b : Nat) (hb : Fnt b) (w : World) : Calls Try.prog 27 #[.int .u64 (b : Int)] w fun e w' => e = .returned (.int .u64 (hf b : Int)) ∧ w' = w := by
  obtain ⟨X, hX⟩ : ∃ X : Int, (b : Int) = X := ⟨_, rfl⟩
  have HE : Hid (((hf b : Nat) : Int) = if 9007199254740992 ≤ X then X - 4503599627370496 else X / 2 + if X % 2 = 1 ∧ X / 2 % 2 = 1 then 1 else 0) := hid (by
    unfold hf
    by_cases h : 9007199254740992 ≤ b
    · rw [if_pos h, if_pos (by omega)]; omega
    · rw [if_neg h, if_neg (show ¬ 9007199254740992 ≤ X by omega)]
      by_cases h2 : b % 2 = 1 ∧ b / 2 % 2 = 1
      · rw [if_pos h2, if_pos (by omega)]; omega
      · rw [if_neg h2, if_neg (by omega)]; omega)
  obtain ⟨E, hE⟩ : ∃ E : Int, ((hf b : Nat) : Int) = E := ⟨_, rfl⟩
  have h0 : 0 ≤ X := by omega
  have h9 : X < 9218868437227405312 := by unfold Fnt at hb; omega
  rw [hE] at HE ⊢
  rw [hX]
  clear hX hE hb
  by_cases h1 : 9007199254740992 ≤ X
  · have e := HE.out
    rw [if_pos h1] at e
    have hw : IntKind.u64.wrap (X - 4503599627370496) = E := by rw [u64w]; omega
    clear HE e
    go_enter Try.func27, Try.ntmps27
    go_wp2
    go_ret
    exact ⟨rfl, rfl⟩
  · have e := HE.out
    rw [if_neg h1] at e
    have hd : X.tdiv 2 = X / 2 := Int.tdiv_eq_ediv_of_nonneg h0
    have hm : X.tmod 2 = X % 2 := Int.tmod_eq_emod_of_nonneg h0
    have hd2 : (X / 2).tmod 2 = X / 2 % 2 := Int.tmod_eq_emod_of_nonneg (by omega)
    clear HE
    by_cases c1 : X % 2 = 1
    · by_cases c2 : X / 2 % 2 = 1
      · rw [if_pos ⟨c1, c2⟩] at e
        have hw : IntKind.u64.wrap (X / 2 + 1) = E := by rw [u64w]; omega
        clear e
        go_enter Try.func27, Try.ntmps27
        go_wp2
        go_ret
        exact ⟨rfl, rfl⟩
      · rw [if_neg (by omega)] at e
        have e' : X / 2 = E := by omega
        clear e
        go_enter Try.func27, Try.ntmps27
        go_wp2
        go_ret
        exact ⟨rfl, rfl⟩
    · rw [if_neg (by omega)] at e
      have e' : X / 2 = E := by omega
      clear e
      go_enter Try.func27, Try.ntmps27
      go_wp2
      go_ret
      exact ⟨rfl, rfl⟩

theorem and_mask (S : Int) (n : Nat) (h0 : 0 ≤ S) (h1 : S < 18446744073709551616) (hn : n ≤ 63) : bits .and .u64 S ((2 ^ n - 1 : Nat) : Int) = S % ((2 ^ n : Nat) : Int) := by
  obtain ⟨m, rfl⟩ := Int.eq_ofNat_of_zero_le h0
  have hp : 2 ^ n ≤ 2 ^ 63 := Nat.pow_le_pow_right (by omega) hn
  rw [bits_and_u64_nat m (2 ^ n - 1) (by omega) (by have : (2 : Nat) ^ 63 = 9223372036854775808 := by decide
                                                    omega), Nat.and_two_pow_sub_one_eq_mod]
  rfl
theorem plusR_int (E s : Nat) (more : Bool) (hE : 1 ≤ E) : ((plusR E s more : Nat) : Int) = if (s : Int) < 36028797018963968 then ((E : Int) - 1) * 4503599627370496 + ((s : Int) / 4 + if (2 < (s : Int) % 4 ∨ ((s : Int) % 4 = 2 ∧ (more = true ∨ (s : Int) / 4 % 2 = 1))) then 1 else 0) else (E : Int) * 4503599627370496 + ((s : Int) / 8 + if (4 < (s : Int) % 8 ∨ ((s : Int) % 8 = 4 ∧ (more = true ∨ (s : Int) / 8 % 2 = 1))) then 1 else 0) := by
  unfold plusR rneS
  rw [show (2 : Nat) ^ 2 = 4 from rfl, show (2 : Nat) ^ 3 = 8 from rfl, show (2 : Nat) ^ (2 - 1) = 2 from rfl]
  cases more with
  | false =>
    simp only [Bool.false_eq_true, false_or]
    by_cases h : s < 36028797018963968
    · rw [if_pos h, if_pos (show (s : Int) < 36028797018963968 by omega)]
      by_cases c : 2 < s % 4 ∨ (s % 4 = 2 ∧ s / 4 % 2 = 1)
      · rw [if_pos c, if_pos (show 2 < (s : Int) % 4 ∨ ((s : Int) % 4 = 2 ∧ (s : Int) / 4 % 2 = 1) by omega)]; omega
      · rw [if_neg c, if_neg (show ¬ (2 < (s : Int) % 4 ∨ ((s : Int) % 4 = 2 ∧ (s : Int) / 4 % 2 = 1)) by omega)]; omega
    · rw [if_neg h, if_neg (show ¬ (s : Int) < 36028797018963968 by omega)]
      by_cases c : 4 < s % 8 ∨ (s % 8 = 4 ∧ s / 8 % 2 = 1)
      · rw [if_pos c, if_pos (show 4 < (s : Int) % 8 ∨ ((s : Int) % 8 = 4 ∧ (s : Int) / 8 % 2 = 1) by omega)]; omega
      · rw [if_neg c, if_neg (show ¬ (4 < (s : Int) % 8 ∨ ((s : Int) % 8 = 4 ∧ (s : Int) / 8 % 2 = 1)) by omega)]; omega
  | true =>
    simp only [true_or, and_true]
    by_cases h : s < 36028797018963968
    · rw [if_pos h, if_pos (show (s : Int) < 36028797018963968 by omega)]
      by_cases c : 2 < s % 4 ∨ s % 4 = 2
      · rw [if_pos c, if_pos (show 2 < (s : Int) % 4 ∨ (s : Int) % 4 = 2 by omega)]; omega
      · rw [if_neg c, if_neg (show ¬ (2 < (s : Int) % 4 ∨ (s : Int) % 4 = 2) by omega)]; omega
    · rw [if_neg h, if_neg (show ¬ (s : Int) < 36028797018963968 by omega)]
      by_cases c : 4 < s % 8 ∨ s % 8 = 4
      · rw [if_pos c, if_pos (show 4 < (s : Int) % 8 ∨ (s : Int) % 8 = 4 by omega)]; omega
      · rw [if_neg c, if_neg (show ¬ (4 < (s : Int) % 8 ∨ (s : Int) % 8 = 4) by omega)]; omega
set_option maxRecDepth 100000 in
set_option maxHeartbeats 3200000 in
theorem rounded_any (a x E : Nat) (more : Bool) (w : World) (h1 : 18014398509481984 ≤ a * 4 + x) (h2 : a * 4 + x < 72057594037927936) (hE : 1 ≤ E) (hE2 : E ≤ 2000) : Calls Try.prog 39 #[.int .u64 (a : Int), .int .i64 2, .int .u64 (x : Int), .bool more, .int .i64 (E : Int)] w fun e w' => e = .returned (.int .u64 (plusR E (a * 4 + x) more : Int)) ∧ w' = w := by
  have HR := hid (plusR_int E (a * 4 + x) more hE)
  obtain ⟨R, hR⟩ : ∃ R : Int, ((plusR E (a * 4 + x) more : Nat) : Int) = R := ⟨_, rfl⟩
  rw [hR] at HR ⊢
  rw [show ((a * 4 + x : Nat) : Int) = (a : Int) * 4 + (x : Int) by omega] at HR
  have g1 : 18014398509481984 ≤ (a : Int) * 4 + (x : Int) := by omega
  have g2 : (a : Int) * 4 + (x : Int) < 72057594037927936 := by omega
  have g3 : 1 ≤ (E : Int) := by omega
  have g4 : (E : Int) ≤ 2000 := by omega
  have g5 : 0 ≤ (a : Int) := by omega
  have g6 : 0 ≤ (x : Int) := by omega
  generalize (a : Int) = A at *
  generalize (x : Int) = X at *
  generalize (E : Int) = F at *
  clear hR h1 h2 hE hE2
  have m4 : bits .and .u64 (A * 4 + X) 3 = (A * 4 + X) % 4 := and_mask (A * 4 + X) 2 (by omega) (by omega) (by omega)
  have m8 : bits .and .u64 (A * 4 + X) 7 = (A * 4 + X) % 8 := and_mask (A * 4 + X) 3 (by omega) (by omega) (by omega)
  go_enter Try.func39, Try.ntmps39
  go_wp2_with fail
  go_loopw [1, 4] (fun nv ev wr => wr = w ∧ ((nv = .int .i64 2 ∧ ev = .int .i64 F) ∨ (nv = .int .i64 3 ∧ ev = .int .i64 (F + 1) ∧ Hid (36028797018963968 ≤ A * 4 + X)))) (fun nv _ _ => 3 - (intOf nv).toNat)
  case atStart => exact ⟨rfl, .inl ⟨rfl, rfl⟩⟩
  case round =>
    obtain ⟨rfl, ⟨rfl, rfl⟩ | ⟨rfl, rfl, H55⟩⟩ := hrel
    · by_cases h55 : 36028797018963968 ≤ A * 4 + X
      · clear HR
        go_wp2_with fail
        go_roundw
        case rel => exact ⟨by trivial, .inr ⟨rfl, rfl, hid h55⟩⟩
        case measure => simp [intOf]
      · cases more with
        | false =>
          have e := HR.out
          rw [if_pos (by omega)] at e
          simp only [Bool.false_eq_true, false_or] at e
          have HE := hid e
          clear e HR
          go_wp2_with fail
          all_goals (
            go_ret
            refine ⟨ret_int ?_, rfl⟩
            rw [HE.out]
            try simp only [beq_iff_eq, beq_eq_false_iff_ne, ne_eq] at *
            first | (rw [if_pos (by omega)]; omega) | (rw [if_neg (by omega)]; omega))
        | true =>
          have e := HR.out
          rw [if_pos (by omega)] at e
          simp only [true_or, and_true] at e
          have HE := hid e
          clear e HR
          go_wp2_with fail
          all_goals (
            go_ret
            refine ⟨ret_int ?_, rfl⟩
            rw [HE.out]
            try simp only [beq_iff_eq, beq_eq_false_iff_ne, ne_eq] at *
            first | (rw [if_pos (by omega)]; omega) | (rw [if_neg (by omega)]; omega))
    · have h55 := H55.out
      cases more with
      | false =>
        have e := HR.out
        rw [if_neg (by omega)] at e
        simp only [Bool.false_eq_true, false_or] at e
        have HE := hid e
        clear e HR
        go_wp2_with fail
        all_goals (
          go_ret
          refine ⟨ret_int ?_, rfl⟩
          rw [HE.out]
          try simp only [beq_iff_eq, beq_eq_false_iff_ne, ne_eq] at *
          first | (rw [if_pos (by omega)]; omega) | (rw [if_neg (by omega)]; omega))
      | true =>
        have e := HR.out
        rw [if_neg (by omega)] at e
        simp only [true_or, and_true] at e
        have HE := hid e
        clear e HR
        go_wp2_with fail
        all_goals (
          go_ret
          refine ⟨ret_int ?_, rfl⟩
          rw [HE.out]
          try simp only [beq_iff_eq, beq_eq_false_iff_ne, ne_eq] at *
          first | (rw [if_pos (by omega)]; omega) | (rw [if_neg (by omega)]; omega))
end Go.Proofs.Ytnbcplpmpocbpaa
