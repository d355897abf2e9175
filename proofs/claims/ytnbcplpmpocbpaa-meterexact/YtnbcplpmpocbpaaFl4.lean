/- A quarter of a float. -/
import Derived.Test.YtnbcplpmpocbpaaFl2
namespace Go.Proofs.Ytnbcplpmpocbpaa
open Ieee

def qm (b : Nat) : Nat := if b < 9007199254740992 then b else 2 * (b % 4503599627370496 + 4503599627370496)
def qt (b : Nat) : Nat := if 13510798882111488 ≤ b then b - 9007199254740992 else rne (qm b) 2
theorem rne_le (n k : Nat) : n / 2 ^ k ≤ rne n k ∧ rne n k ≤ n / 2 ^ k + 1 := by unfold rne; split <;> omega
theorem rne4_le (n : Nat) : rne n 2 ≤ n := by
  unfold rne
  rw [show (2 : Nat) ^ 2 = 4 from rfl]
  split <;> omega
theorem qt_le (b : Nat) : qt b ≤ b := by
  unfold qt
  split
  · omega
  · unfold qm
    split
    · exact rne4_le b
    · have := (rne_le (2 * (b % 4503599627370496 + 4503599627370496)) 2).2
      rw [show (2 : Nat) ^ 2 = 4 from rfl] at this
      omega
theorem mul_quarter (b : Nat) (h : b < 9218868437227405312) : double.mul b 4598175219545276416 = some (qt b) := by
  have r5 : double.read 4598175219545276416 = .number false 4503599627370496 (-54) := by
    rw [rd_big _ (by omega) (by omega)]
    decide
  have hE := expo_pos b
  have hm := digs_lt b
  have hp := parts b
  have hbig := digs_big (b := b)
  unfold Format.mul
  rw [r5, rd_fin b h]
  by_cases h0 : b = 0
  · subst h0; decide
  · have hd0 : digs b ≠ 0 := by
      intro e
      have : ¬ 1 < expo b := fun h => by have := hbig h; omega
      omega
    obtain ⟨E, hEE⟩ : ∃ E, expo b = E := ⟨_, rfl⟩
    obtain ⟨m, hmm⟩ : ∃ m, digs b = m := ⟨_, rfl⟩
    rw [hEE] at hE hp hbig ⊢
    rw [hmm] at hm hp hd0 hbig ⊢
    simp only [Datum.product, Option.map_some, Format.write, Bool.xor_false]
    refine congrArg some ?_
    have hl := log2_mul52 m hd0
    by_cases h1 : E = 1
    · subst h1
      have hlm : m.log2 ≤ 52 := by have := (Nat.log2_lt hd0 (k := 53)).2 (by omega); omega
      have hbm : b = m := by omega
      rw [near_is (m * 4503599627370496) _ (-1074) (by omega) (by rw [hl]; omega),
        show ((((1 : Nat) : Int) - 1075 + -54) - -1074).toNat = 0 by decide, show ((-1074 : Int) - (((1 : Nat) : Int) - 1075 + -54)).toNat = 2 + 52 by decide, Nat.pow_zero, Nat.mul_one,
        show m * 4503599627370496 = m * 2 ^ 52 from rfl, rne_scale, show ((-1074 : Int) + 1074).toNat = 0 by decide, Nat.zero_mul, Nat.zero_add]
      unfold qt qm
      rw [hbm, if_neg (by omega), if_pos (by omega)]
      exact Nat.min_eq_left (Nat.le_trans (rne4_le m) (by omega))
    · have hb2 := hbig (by omega)
      have hlm : m.log2 = 52 := log2_is (by omega) (by omega)
      by_cases h2 : E = 2
      · subst h2
        have hp2 : 4503599627370496 + m = b := by rw [show 2 - 1 = 1 from rfl, Nat.one_mul] at hp; exact hp
        have e2 : 2 * (b % 4503599627370496 + 4503599627370496) = m * 2 ^ 1 := by
          have e3 : b % 4503599627370496 = m - 4503599627370496 := by
            rw [← hp2, Nat.add_mod_left, Nat.mod_eq_sub_mod hb2]
            exact Nat.mod_eq_of_lt (by omega)
          rw [Nat.pow_one, e3, Nat.sub_add_cancel hb2, Nat.mul_comm]
        have hr := rne4_le (m * 2 ^ 1)
        rw [near_is (m * 4503599627370496) _ (-1074) (by omega) (by rw [hl, hlm]; omega),
          show ((((2 : Nat) : Int) - 1075 + -54) - -1074).toNat = 0 by decide, show ((-1074 : Int) - (((2 : Nat) : Int) - 1075 + -54)).toNat = 1 + 52 by decide, Nat.pow_zero, Nat.mul_one,
          show m * 4503599627370496 = m * 2 ^ 52 from rfl, rne_scale, show ((-1074 : Int) + 1074).toNat = 0 by decide, Nat.zero_mul, Nat.zero_add, ← rne_scale m 1 1]
        unfold qt qm
        rw [if_neg (by omega), if_neg (by omega), e2]
        clear e2
        exact Nat.min_eq_left (Nat.le_trans hr (by rw [Nat.pow_one]; omega))
      · rw [near_is (m * 4503599627370496) _ ((E : Int) - 1077) (by omega) (by rw [hl, hlm]; omega),
          show (((E : Int) - 1075 + -54) - ((E : Int) - 1077)).toNat = 0 by omega, show (((E : Int) - 1077) - ((E : Int) - 1075 + -54)).toNat = 52 by omega, Nat.pow_zero, Nat.mul_one,
          show m * 4503599627370496 = m * 2 ^ 52 from rfl, rne_exact, show ((E : Int) - 1077 + 1074).toNat = E - 3 by omega]
        unfold qt
        rw [if_pos (by omega)]
        omega
end Go.Proofs.Ytnbcplpmpocbpaa
