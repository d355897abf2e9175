/- Floats as their bits: half, a quarter, one more; how they stand to each other. -/
import Derived.Laws.FloatArith
namespace Go.Proofs.Ytnbcplpmpocbpaa
open Ieee

/-- n / 2^k, to the nearest, ties to even. -/
def rne (n k : Nat) : Nat := n / 2 ^ k + if 2 ^ k < 2 * (n % 2 ^ k) ∨ (2 ^ k = 2 * (n % 2 ^ k) ∧ n / 2 ^ k % 2 = 1) then 1 else 0

theorem cut_rne (neg : Bool) (n k : Nat) : Toward.even.cut neg n k = rne n k := by
  have key : ∀ j, (n / 2 ^ j + (decide (2 ^ j < 2 * (n % 2 ^ j)) || (2 ^ j == 2 * (n % 2 ^ j) && n / 2 ^ j % 2 == 1)).toNat) = rne n j := by
    intro j
    unfold rne
    congr 1
    by_cases h1 : 2 ^ j < 2 * (n % 2 ^ j)
    · simp [h1]
    · by_cases h2 : 2 ^ j = 2 * (n % 2 ^ j)
      · by_cases h3 : n / 2 ^ j % 2 = 1
        · rw [if_pos (.inr ⟨h2, h3⟩)]; simp [h1, h3]; exact h2
        · rw [if_neg (by omega)]; simp [h1, h3]
      · rw [if_neg (by omega)]; simp [h1, h2]
  unfold Toward.cut
  simp only [Nat.shiftLeft_eq, Nat.one_mul]
  by_cases h : k ≤ n.log2 + 2
  · rw [Nat.min_eq_left h]
    exact key k
  · rw [Nat.min_eq_right (by omega)]
    refine (key _).trans ?_
    have hn : n < 2 ^ (n.log2 + 1) := Nat.lt_log2_self
    have small : ∀ j, n.log2 + 2 ≤ j → rne n j = 0 := by
      intro j hj
      have h1 : 2 ^ (n.log2 + 2) ≤ 2 ^ j := Nat.pow_le_pow_right (by omega) hj
      have h2 : 2 ^ (n.log2 + 2) = 2 * 2 ^ (n.log2 + 1) := by rw [Nat.pow_succ]; omega
      unfold rne
      rw [Nat.div_eq_of_lt (by omega), Nat.mod_eq_of_lt (by omega), if_neg (by omega)]
    rw [small _ (Nat.le_refl _), small k (by omega)]

theorem log2_is {n k : Nat} (h1 : 2 ^ k ≤ n) (h2 : n < 2 ^ (k + 1)) : n.log2 = k := by
  have h0 : n ≠ 0 := by have := Nat.two_pow_pos k; omega
  have a := (Nat.le_log2 h0).2 h1
  have b := (Nat.log2_lt h0).2 h2
  omega

/-- The word nearest to mag * 2^place, where the place t of the last digit that is kept is known. -/
theorem near_is (mag : Nat) (place t : Int) (h0 : mag ≠ 0) (ht : max (place + mag.log2 - 52) (-1074) = t) :
    double.nearest false mag place = min ((t + 1074).toNat * 4503599627370496 + rne (mag * 2 ^ (place - t).toNat) (t - place).toNat) 9218868437227405312 := by
  have e1 : double.leastPlace = -1074 := by decide
  have e2 : double.binade = 4503599627370496 := by decide
  have e3 : double.infRung = 9218868437227405312 := by decide
  have e4 : (double.fractionBits : Int) = 52 := rfl
  unfold Format.nearest
  rw [if_neg h0]
  simp only [e1, e2, e3, e4, ht, cut_rne, Nat.shiftLeft_eq]
  unfold Format.word
  rw [if_neg (by simp)]
  rw [show t - -1074 = t + 1074 by omega]

theorem rd_small (b : Nat) (h : b < 4503599627370496) : double.read b = .number false b (-1074) := by
  have e1 : double.leastPlace = -1074 := by decide
  have e2 : double.binade = 4503599627370496 := by decide
  have e3 : double.signWeight = 9223372036854775808 := by decide
  unfold Format.read
  simp only [e1, e2, e3]
  rw [Nat.mod_eq_of_lt (by omega), if_pos h, Nat.div_eq_of_lt (by omega)]
  rfl
theorem rd_big (b : Nat) (h : 4503599627370496 ≤ b) (h2 : b < 9218868437227405312) : double.read b = .number false (4503599627370496 + b % 4503599627370496) (-1074 + (b / 4503599627370496 - 1 : Nat)) := by
  have e1 : double.leastPlace = -1074 := by decide
  have e2 : double.binade = 4503599627370496 := by decide
  have e3 : double.signWeight = 9223372036854775808 := by decide
  have e4 : double.infRung = 9218868437227405312 := by decide
  unfold Format.read
  simp only [e1, e2, e3, e4]
  rw [Nat.mod_eq_of_lt (by omega), if_neg (by omega), if_pos h2, Nat.div_eq_of_lt (show b < 9223372036854775808 by omega)]
  rfl

def hf (b : Nat) : Nat := if 9007199254740992 ≤ b then b - 4503599627370496 else b / 2 + if b % 2 = 1 ∧ b / 2 % 2 = 1 then 1 else 0

theorem rne_half (b : Nat) : rne (b * 4503599627370496) 53 = b / 2 + if b % 2 = 1 ∧ b / 2 % 2 = 1 then 1 else 0 := by
  unfold rne
  have e : (2 : Nat) ^ 53 = 9007199254740992 := by decide
  rw [e]
  have h1 : b * 4503599627370496 / 9007199254740992 = b / 2 := by omega
  have h2 : b * 4503599627370496 % 9007199254740992 = b % 2 * 4503599627370496 := by omega
  rw [h1, h2]
  congr 1
  rcases Nat.mod_two_eq_zero_or_one b with h | h <;> rw [h]
  · rw [if_neg (by omega), if_neg (by omega)]
  · by_cases h3 : b / 2 % 2 = 1
    · rw [if_pos (by omega), if_pos (by omega)]
    · rw [if_neg (by omega), if_neg (by omega)]
theorem rne_exact (m k : Nat) : rne (m * 2 ^ k) k = m := by
  unfold rne
  have hp := Nat.two_pow_pos k
  rw [Nat.mul_div_cancel _ hp, Nat.mul_mod_left, if_neg (by omega)]
  omega

theorem log2_mul52 (b : Nat) (h : b ≠ 0) : (b * 4503599627370496).log2 = b.log2 + 52 := by
  have e : (4503599627370496 : Nat) = 2 ^ 52 := by decide
  rw [e]
  refine log2_is ?_ ?_
  · rw [Nat.pow_add]; exact Nat.mul_le_mul_right _ (Nat.log2_self_le h)
  · have : b < 2 ^ (b.log2 + 1) := Nat.lt_log2_self
    rw [show b.log2 + 52 + 1 = b.log2 + 1 + 52 by omega, Nat.pow_add]
    exact Nat.mul_lt_mul_of_pos_right this (by decide)

theorem mul_half (b : Nat) (h : b < 9218868437227405312) : double.mul b 4602678819172646912 = some (hf b) := by
  have r5 : double.read 4602678819172646912 = .number false 4503599627370496 (-53) := by
    rw [rd_big _ (by omega) (by omega)]
    decide
  unfold Format.mul
  rw [r5]
  by_cases h0 : b = 0
  · subst h0; decide
  · by_cases h1 : b < 4503599627370496
    · rw [rd_small b h1]
      have hl : b.log2 < 52 := (Nat.log2_lt h0).2 (by omega)
      have hn := near_is (b * 4503599627370496) (-1074 + -53) (-1074) (by omega) (by rw [log2_mul52 b h0]; omega)
      simp only [Datum.product, Option.map_some, Format.write, Bool.xor_false, hn]
      rw [show ((-1074 + -53 : Int) - -1074).toNat = 0 by decide, show ((-1074 : Int) - (-1074 + -53)).toNat = 53 by decide, Nat.pow_zero, Nat.mul_one, rne_half]
      unfold hf
      rw [if_neg (show ¬ 9007199254740992 ≤ b by omega)]
      clear hn
      rw [show ((-1074 : Int) + 1074).toNat = 0 by decide, Nat.zero_mul, Nat.zero_add, Nat.min_eq_left (by split <;> omega)]
    · rw [rd_big b (by omega) h]
      by_cases h2 : b < 9007199254740992
      · have hl : (4503599627370496 + b % 4503599627370496).log2 = 52 := log2_is (by omega) (by omega)
        have hm : 4503599627370496 + b % 4503599627370496 = b := by omega
        have hd : b / 4503599627370496 - 1 = 0 := by omega
        rw [hm] at hl ⊢
        rw [hd]
        have hn := near_is (b * 4503599627370496) (-1074 + ((0 : Nat) : Int) + -53) (-1074) (by omega) (by rw [log2_mul52 b h0]; omega)
        simp only [Datum.product, Option.map_some, Format.write, Bool.xor_false, hn]
        rw [show ((-1074 + ((0 : Nat) : Int) + -53 : Int) - -1074).toNat = 0 by decide, show ((-1074 : Int) - (-1074 + ((0 : Nat) : Int) + -53)).toNat = 53 by decide, Nat.pow_zero, Nat.mul_one, rne_half]
        unfold hf
        rw [if_neg (show ¬ 9007199254740992 ≤ b by omega)]
        clear hn
        rw [show ((-1074 : Int) + 1074).toNat = 0 by decide, Nat.zero_mul, Nat.zero_add, Nat.min_eq_left (by split <;> omega)]
      · obtain ⟨e, he⟩ : ∃ e, b / 4503599627370496 = e + 2 := ⟨b / 4503599627370496 - 2, by omega⟩
        obtain ⟨f, hff⟩ : ∃ f, b % 4503599627370496 = f := ⟨_, rfl⟩
        have hl : (4503599627370496 + f).log2 = 52 := log2_is (by omega) (by omega)
        rw [he, hff]
        have hn := near_is ((4503599627370496 + f) * 4503599627370496) (-1074 + ((e + 2 - 1 : Nat) : Int) + -53) (e - 1074) (by omega) (by rw [log2_mul52 _ (by omega), hl]; omega)
        simp only [Datum.product, Option.map_some, Format.write, Bool.xor_false, hn]
        rw [show ((-1074 + ((e + 2 - 1 : Nat) : Int) + -53 : Int) - ((e : Int) - 1074)).toNat = 0 by omega, show ((e : Int) - 1074 - (-1074 + ((e + 2 - 1 : Nat) : Int) + -53)).toNat = 52 by omega, Nat.pow_zero, Nat.mul_one,
          show (4503599627370496 + f) * 4503599627370496 = (4503599627370496 + f) * 2 ^ 52 from rfl, rne_exact]
        clear hn
        unfold hf
        rw [if_pos (by omega)]
        refine congrArg some ?_
        rw [show ((e : Int) - 1074 + 1074).toNat = e by omega]
        omega
end Go.Proofs.Ytnbcplpmpocbpaa
