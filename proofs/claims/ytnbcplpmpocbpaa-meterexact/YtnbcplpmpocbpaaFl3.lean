/- How floats stand to each other. -/
import Derived.Test.YtnbcplpmpocbpaaFl2
namespace Go.Proofs.Ytnbcplpmpocbpaa
open Ieee

def val (b : Nat) : Nat := digs b * 2 ^ (expo b - 1)
theorem val_lt {a b : Nat} (h : a < b) : val a < val b := by
  have pa := parts a
  have pb := parts b
  have la := digs_lt a
  have lb := digs_lt b
  have ea := expo_pos a
  have eb := expo_pos b
  have ga := digs_big (b := a)
  have gb := digs_big (b := b)
  unfold val
  obtain ⟨x, hx⟩ : ∃ x, expo a = x := ⟨_, rfl⟩
  obtain ⟨y, hy⟩ : ∃ y, expo b = y := ⟨_, rfl⟩
  obtain ⟨m, hm⟩ : ∃ m, digs a = m := ⟨_, rfl⟩
  obtain ⟨n, hn⟩ : ∃ n, digs b = n := ⟨_, rfl⟩
  rw [hx] at pa ea ga ⊢
  rw [hy] at pb eb gb ⊢
  rw [hm] at pa la ga ⊢
  rw [hn] at pb lb gb ⊢
  clear hx hy hm hn
  rcases Nat.lt_trichotomy x y with c | c | c
  · have hn := gb (by omega)
    have h1 : m * 2 ^ (x - 1) < 9007199254740992 * 2 ^ (x - 1) := Nat.mul_lt_mul_of_pos_right la (Nat.two_pow_pos _)
    have h2 : 9007199254740992 * 2 ^ (x - 1) = 4503599627370496 * 2 ^ x := by
      obtain ⟨z, rfl⟩ : ∃ z, x = z + 1 := ⟨x - 1, by omega⟩
      rw [Nat.add_sub_cancel, Nat.pow_succ]; omega
    have h3 : 4503599627370496 * 2 ^ x ≤ 4503599627370496 * 2 ^ (y - 1) := Nat.mul_le_mul_left _ (Nat.pow_le_pow_right (by omega) (by omega))
    have h4 : 4503599627370496 * 2 ^ (y - 1) ≤ n * 2 ^ (y - 1) := Nat.mul_le_mul_right _ hn
    omega
  · subst c
    exact Nat.mul_lt_mul_of_pos_right (by omega) (Nat.two_pow_pos _)
  · have := ga (by omega)
    omega
theorem compare_nat (x y : Nat) : compare (x : Int) (y : Int) = compare x y := by
  rcases Nat.lt_trichotomy x y with h | h | h
  · rw [Int.compare_eq_lt.2 (by omega), Nat.compare_eq_lt.2 h]
  · subst h; rw [Int.compare_eq_eq.2 rfl, Nat.compare_eq_eq.2 rfl]
  · rw [Int.compare_eq_gt.2 (by omega), Nat.compare_eq_gt.2 h]
theorem compare_val (a b : Nat) : compare (val a) (val b) = compare a b := by
  rcases Nat.lt_trichotomy a b with h | h | h
  · rw [Nat.compare_eq_lt.2 h, Nat.compare_eq_lt.2 (val_lt h)]
  · subst h; rw [Nat.compare_eq_eq.2 rfl, Nat.compare_eq_eq.2 rfl]
  · rw [Nat.compare_eq_gt.2 h, Nat.compare_eq_gt.2 (val_lt h)]
theorem compare_scale (x y k : Nat) : compare (x * 2 ^ k) (y * 2 ^ k) = compare x y := by
  have hp := Nat.two_pow_pos k
  rcases Nat.lt_trichotomy x y with h | h | h
  · rw [Nat.compare_eq_lt.2 h, Nat.compare_eq_lt.2 (Nat.mul_lt_mul_of_pos_right h hp)]
  · subst h; rw [Nat.compare_eq_eq.2 rfl, Nat.compare_eq_eq.2 rfl]
  · rw [Nat.compare_eq_gt.2 h, Nat.compare_eq_gt.2 (Nat.mul_lt_mul_of_pos_right h hp)]
theorem order_fin (a b : Nat) (ha : a < 9218868437227405312) (hb : b < 9218868437227405312) : double.order a b = some (compare a b) := by
  unfold Format.order
  rw [rd_fin a ha, rd_fin b hb]
  have ea := expo_pos a
  have eb := expo_pos b
  simp only [Datum.order, signed, Bool.false_eq_true, if_false, Nat.shiftLeft_eq, compare_nat]
  refine congrArg some ?_
  rw [← compare_val a b, ← compare_scale _ _ ((min ((expo a : Int) - 1075) ((expo b : Int) - 1075)) + 1074).toNat]
  unfold val
  rw [Nat.mul_assoc, Nat.mul_assoc, ← Nat.pow_add, ← Nat.pow_add]
  congr 3 <;> congr 1 <;> omega

theorem geq_fin {a b : Nat} (ha : a < 9218868437227405312) (hb : b < 9218868437227405312) : (double.order a b == some .gt || double.order a b == some .eq) = decide (b ≤ a) := by
  rw [order_fin a b ha hb]
  rcases Nat.lt_trichotomy a b with h | h | h
  · rw [Nat.compare_eq_lt.2 h, decide_eq_false (by omega)]; rfl
  · subst h; rw [Nat.compare_eq_eq.2 rfl, decide_eq_true (Nat.le_refl _)]; rfl
  · rw [Nat.compare_eq_gt.2 h, decide_eq_true (by omega)]; rfl
theorem leq_fin {a b : Nat} (ha : a < 9218868437227405312) (hb : b < 9218868437227405312) : (double.order a b == some .lt || double.order a b == some .eq) = decide (a ≤ b) := by
  rw [order_fin a b ha hb]
  rcases Nat.lt_trichotomy a b with h | h | h
  · rw [Nat.compare_eq_lt.2 h, decide_eq_true (by omega)]; rfl
  · subst h; rw [Nat.compare_eq_eq.2 rfl, decide_eq_true (Nat.le_refl _)]; rfl
  · rw [Nat.compare_eq_gt.2 h, decide_eq_false (by omega)]; rfl
theorem gtr_fin {a b : Nat} (ha : a < 9218868437227405312) (hb : b < 9218868437227405312) : (double.order a b == some .gt) = decide (b < a) := by
  rw [order_fin a b ha hb]
  rcases Nat.lt_trichotomy a b with h | h | h
  · rw [Nat.compare_eq_lt.2 h, decide_eq_false (by omega)]; rfl
  · subst h; rw [Nat.compare_eq_eq.2 rfl, decide_eq_false (by omega)]; rfl
  · rw [Nat.compare_eq_gt.2 h, decide_eq_true (by omega)]; rfl

/-- What bits that are those of no finite float that is not below 0 stand for. -/
theorem rd_inf : double.read 9218868437227405312 = .infinity false := by decide
theorem rd_nan {b : Nat} (h1 : 9218868437227405312 < b) (h2 : b < 9223372036854775808) : double.read b = .nan false (b - 9218868437227405312) := by
  have e2 : double.binade = 4503599627370496 := by decide
  have e3 : double.signWeight = 9223372036854775808 := by decide
  have e4 : double.infRung = 9218868437227405312 := by decide
  unfold Format.read
  simp only [e2, e3, e4]
  rw [Nat.mod_eq_of_lt h2, if_neg (by omega), if_neg (by omega), if_neg (by omega), Nat.div_eq_of_lt h2]
  rfl
theorem rd_neg {b : Nat} (h1 : 9223372036854775808 ≤ b) (h2 : b < 18446744073709551616) : (∃ m e, double.read b = .number true m e ∧ (m = 0 → b = 9223372036854775808)) ∨ double.read b = .infinity true ∨ ∃ f, double.read b = .nan true f := by
  have e2 : double.binade = 4503599627370496 := by decide
  have e3 : double.signWeight = 9223372036854775808 := by decide
  have e4 : double.infRung = 9218868437227405312 := by decide
  have hn : (b / 9223372036854775808 % 2 == 1) = true := by
    rw [show b / 9223372036854775808 = 1 by omega]; rfl
  unfold Format.read
  simp only [e2, e3, e4, hn]
  split
  · exact .inl ⟨_, _, rfl, fun h => by omega⟩
  · split
    · exact .inl ⟨_, _, rfl, fun h => by omega⟩
    · split
      · exact .inr (.inl rfl)
      · exact .inr (.inr ⟨_, rfl⟩)
theorem neg_lt (m n : Nat) (i j : Int) (hn : n ≠ 0) : Datum.order (.number true m i) (.number false n j) = some .lt := by
  simp only [Datum.order, signed, Bool.false_eq_true, if_false, if_true, Nat.shiftLeft_eq]
  have : 0 < n * 2 ^ (j - min i j).toNat := Nat.mul_pos (by omega) (Nat.two_pow_pos _)
  rw [Int.compare_eq_lt.2 (by omega)]
theorem neg_zero_lt (m : Nat) (i j : Int) (hm : m ≠ 0) : Datum.order (.number true m i) (.number false 0 j) = some .lt := by
  simp only [Datum.order, signed, Bool.false_eq_true, if_false, if_true, Nat.shiftLeft_eq]
  have : 0 < m * 2 ^ (i - min i j).toNat := Nat.mul_pos (by omega) (Nat.two_pow_pos _)
  rw [Int.compare_eq_lt.2 (by omega)]
theorem rd_one : double.read 4607182418800017408 = .number false 4503599627370496 (-52) := by
  rw [rd_big _ (by omega) (by omega)]; decide
theorem rd_max : double.read 9218868437227405311 = .number false 9007199254740991 971 := by
  rw [rd_big _ (by omega) (by omega)]; decide
theorem rd_0 : double.read 0 = .number false 0 (-1074) := rd_small 0 (by omega)

/-- A limit is one of a configuration that may be, just where it is finite and 1 or more. -/
theorem lim_ok {b : Nat} (h : b < 18446744073709551616) : ((double.order b 4607182418800017408 == some .gt || double.order b 4607182418800017408 == some .eq) && (double.order b 9218868437227405311 == some .lt || double.order b 9218868437227405311 == some .eq)) = decide (4607182418800017408 ≤ b ∧ b < 9218868437227405312) := by
  rcases Nat.lt_or_ge b 9218868437227405312 with c | c
  · rw [geq_fin c (by omega), leq_fin c (by omega)]
    by_cases h1 : 4607182418800017408 ≤ b
    · rw [decide_eq_true h1, decide_eq_true (show b ≤ 9218868437227405311 by omega), decide_eq_true ⟨h1, c⟩]; rfl
    · rw [decide_eq_false h1, decide_eq_false (show ¬ (4607182418800017408 ≤ b ∧ b < 9218868437227405312) by omega)]; rfl
  · rw [decide_eq_false (by omega)]
    unfold Format.order
    rw [rd_one, rd_max]
    rcases Nat.lt_or_ge b 9223372036854775808 with c2 | c2
    · rcases Nat.eq_or_lt_of_le c with c3 | c3
      · rw [← c3, rd_inf]; rfl
      · rw [rd_nan c3 c2]; rfl
    · rcases rd_neg c2 h with ⟨m, e, hr, _⟩ | hr | ⟨f, hr⟩
      · rw [hr, neg_lt _ _ _ _ (by omega)]; rfl
      · rw [hr]; rfl
      · rw [hr]; rfl
/-- A score may be, just where its bits say so. -/
theorem sc_ok {b : Nat} (h : b < 18446744073709551616) : ((double.order b 0 == some .gt || double.order b 0 == some .eq) && ((double.order b 9218868437227405311 == some .lt || double.order b 9218868437227405311 == some .eq) && !decide (9223372036854775808 ≤ b))) = decide (b < 9218868437227405312) := by
  rcases Nat.lt_or_ge b 9218868437227405312 with c | c
  · rw [geq_fin c (by omega), leq_fin c (by omega), decide_eq_true (Nat.zero_le _), decide_eq_true (show b ≤ 9218868437227405311 by omega), decide_eq_true c, decide_eq_false (by omega)]; rfl
  · rw [decide_eq_false (show ¬ b < 9218868437227405312 by omega)]
    rcases Nat.lt_or_ge b 9223372036854775808 with c2 | c2
    · unfold Format.order
      rw [rd_max, rd_0]
      rcases Nat.eq_or_lt_of_le c with c3 | c3
      · rw [← c3, rd_inf]; rfl
      · rw [rd_nan c3 c2]; rfl
    · rw [decide_eq_true c2]
      simp
end Go.Proofs.Ytnbcplpmpocbpaa
