/- A float and 1 together; a quarter of a float. -/
import Derived.Test.YtnbcplpmpocbpaaFl
namespace Go.Proofs.Ytnbcplpmpocbpaa
open Ieee

def rneS (s n : Nat) (more : Bool) : Nat := s / 2 ^ n + if 2 ^ (n - 1) < s % 2 ^ n ∨ (s % 2 ^ n = 2 ^ (n - 1) ∧ (more = true ∨ s / 2 ^ n % 2 = 1)) then 1 else 0

theorem rne_sticky (s low d n : Nat) (hn : 1 ≤ n) (hl : low < 2 ^ d) : rne (s * 2 ^ d + low) (n + d) = rneS s n (decide (low ≠ 0)) := by
  obtain ⟨j, rfl⟩ : ∃ j, n = j + 1 := ⟨n - 1, by omega⟩
  obtain ⟨D, hD⟩ : ∃ D, 2 ^ d = D := ⟨_, rfl⟩
  obtain ⟨h, hh⟩ : ∃ h, 2 ^ j = h := ⟨_, rfl⟩
  have hD0 : 0 < D := by rw [← hD]; exact Nat.two_pow_pos _
  have hh0 : 0 < h := by rw [← hh]; exact Nat.two_pow_pos _
  have e2 : 2 ^ (j + 1) = 2 * h := by rw [Nat.pow_succ, hh]; omega
  have e1 : 2 ^ (j + 1 + d) = D * (2 * h) := by rw [Nat.pow_add, e2, hD, Nat.mul_comm]
  rw [hD] at hl ⊢
  have q1 : (s * D + low) / D = s := by rw [Nat.mul_comm, Nat.mul_add_div hD0, Nat.div_eq_of_lt hl]; rfl
  have q2 : (s * D + low) % D = low := by rw [Nat.mul_comm, Nat.mul_add_mod, Nat.mod_eq_of_lt hl]
  have q3 : (s * D + low) / (D * (2 * h)) = s / (2 * h) := by rw [← Nat.div_div_eq_div_mul, q1]
  have q4 : (s * D + low) % (D * (2 * h)) = low + D * (s % (2 * h)) := by rw [Nat.mod_mul, q1, q2]
  unfold rne rneS
  rw [e1, q3, q4, e2, Nat.add_sub_cancel, hh]
  congr 1
  obtain ⟨r, hr⟩ : ∃ r, s % (2 * h) = r := ⟨_, rfl⟩
  rw [hr]
  obtain ⟨X, hX⟩ : ∃ X, D * h = X := ⟨_, rfl⟩
  have e3 : D * (2 * h) = 2 * X := by rw [← hX, Nat.mul_left_comm]
  rw [e3]
  obtain ⟨Y, hY⟩ : ∃ Y, D * r = Y := ⟨_, rfl⟩
  rw [hY]
  rcases Nat.lt_trichotomy r h with c | c | c
  · have : D * (r + 1) ≤ D * h := Nat.mul_le_mul_left _ c
    rw [Nat.mul_succ] at this
    rw [if_neg (by omega), if_neg (by omega)]
  · subst c
    have hXY : X = Y := hX.symm.trans hY
    clear hX hY hr e1 e2 q1 q2 q3 q4 e3 hh hD hl
    by_cases hz : low = 0
    · simp only [hz, ne_eq, not_true, decide_false]
      by_cases ho : s / (2 * r) % 2 = 1
      · rw [if_pos (.inr ⟨by omega, ho⟩), if_pos (by simp [ho])]
      · rw [if_neg (by omega), if_neg (by simp [ho])]
    · simp only [hz, ne_eq, not_false_eq_true, decide_true]
      rw [if_pos (.inl (by omega)), if_pos (by simp)]
  · have : D * (h + 1) ≤ D * r := Nat.mul_le_mul_left _ c
    rw [Nat.mul_succ] at this
    rw [if_pos (by omega), if_pos (by omega)]
theorem rne_scale (T j k : Nat) : rne (T * 2 ^ j) (k + j) = rne T k := by
  unfold rne
  have hp : 0 < 2 ^ j := Nat.two_pow_pos _
  have e1 : T * 2 ^ j / (2 ^ k * 2 ^ j) = T / 2 ^ k := Nat.mul_div_mul_right _ _ hp
  have e2 : T * 2 ^ j % (2 ^ k * 2 ^ j) = T % 2 ^ k * 2 ^ j := Nat.mul_mod_mul_right _ _ _
  rw [Nat.pow_add, e1, e2]
  congr 1
  obtain ⟨J, hJ⟩ : ∃ J, 2 ^ j = J := ⟨_, rfl⟩
  obtain ⟨K, hK⟩ : ∃ K, 2 ^ k = K := ⟨_, rfl⟩
  rw [hJ] at hp ⊢
  rw [hK]
  have c1 : K * J < 2 * (T % K * J) ↔ K < 2 * (T % K) := by
    rw [← Nat.mul_assoc]; exact Nat.mul_lt_mul_right hp
  have c2 : K * J = 2 * (T % K * J) ↔ K = 2 * (T % K) := by
    rw [← Nat.mul_assoc]; exact Nat.mul_left_inj (by omega)
  simp only [c1, c2]

def plusR (E s : Nat) (more : Bool) : Nat := if s < 36028797018963968 then (E - 1) * 4503599627370496 + rneS s 2 more else E * 4503599627370496 + rneS s 3 more

theorem near_round (T d E s : Nat) (hE : 1 ≤ E) (hs : 4 * T / 2 ^ d = s) (h1 : 18014398509481984 ≤ s) (h2 : s < 72057594037927936) :
    double.nearest false T ((E : Int) - 1075 - d) = min (plusR E s (decide (4 * T % 2 ^ d ≠ 0))) 9218868437227405312 := by
  have hp : 0 < 2 ^ d := Nat.two_pow_pos _
  have hdm : s * 2 ^ d + 4 * T % 2 ^ d = 4 * T := by rw [← hs]; exact Nat.div_add_mod' _ _
  have hlo : 4 * T % 2 ^ d < 2 ^ d := Nat.mod_lt _ hp
  have k1 : ∀ n, 1 ≤ n → rne (4 * T) (n + d) = rneS s n (decide (4 * T % 2 ^ d ≠ 0)) := fun n hn => by
    have := rne_sticky s (4 * T % 2 ^ d) d n hn hlo
    rw [hdm] at this
    exact this
  have k2 : ∀ k, rne (4 * T) (k + 2) = rne T k := fun k => by rw [Nat.mul_comm]; exact rne_scale T 2 k
  have hT0 : T ≠ 0 := by
    intro h
    subst h
    rw [Nat.mul_zero, Nat.zero_div] at hs
    omega
  unfold plusR
  by_cases hc : s < 36028797018963968
  · have hl : T.log2 = 52 + d := by
      refine log2_is ?_ ?_
      · have : 18014398509481984 * 2 ^ d ≤ s * 2 ^ d := Nat.mul_le_mul_right _ h1
        have e : 2 ^ (52 + d) = 4503599627370496 * 2 ^ d := by rw [Nat.pow_add]
        rw [e]; omega
      · have : (s + 1) * 2 ^ d ≤ 36028797018963968 * 2 ^ d := Nat.mul_le_mul_right _ hc
        have e : 2 ^ (52 + d + 1) = 9007199254740992 * 2 ^ d := by rw [show 52 + d + 1 = 53 + d by omega, Nat.pow_add]
        rw [Nat.succ_mul] at this
        rw [e]; omega
    rw [near_is T _ ((E : Int) - 1075) hT0 (by rw [hl]; omega), if_pos hc, show ((E : Int) - 1075 + 1074).toNat = E - 1 by omega,
      show ((E : Int) - 1075 - d - ((E : Int) - 1075)).toNat = 0 by omega, show ((E : Int) - 1075 - ((E : Int) - 1075 - d)).toNat = d by omega, Nat.pow_zero, Nat.mul_one, ← k2, Nat.add_comm d 2, k1 2 (by omega)]
  · have hl : T.log2 = 53 + d := by
      refine log2_is ?_ ?_
      · have : 36028797018963968 * 2 ^ d ≤ s * 2 ^ d := Nat.mul_le_mul_right _ (by omega)
        have e : 2 ^ (53 + d) = 9007199254740992 * 2 ^ d := by rw [Nat.pow_add]
        rw [e]; omega
      · have : (s + 1) * 2 ^ d ≤ 72057594037927936 * 2 ^ d := Nat.mul_le_mul_right _ h2
        have e : 2 ^ (53 + d + 1) = 18014398509481984 * 2 ^ d := by rw [show 53 + d + 1 = 54 + d by omega, Nat.pow_add]
        rw [Nat.succ_mul] at this
        rw [e]; omega
    rw [near_is T _ ((E : Int) - 1074) hT0 (by rw [hl]; omega), if_neg hc, show ((E : Int) - 1074 + 1074).toNat = E by omega,
      show ((E : Int) - 1075 - d - ((E : Int) - 1074)).toNat = 0 by omega, show ((E : Int) - 1074 - ((E : Int) - 1075 - d)).toNat = d + 1 by omega, Nat.pow_zero, Nat.mul_one, ← k2, show d + 1 + 2 = 3 + d by omega, k1 3 (by omega)]

/-- A finite float's parts: its exponent field (1 for the least ones) and its digits. -/
def expo (b : Nat) : Nat := if b < 4503599627370496 then 1 else b / 4503599627370496
def digs (b : Nat) : Nat := if b < 4503599627370496 then b else 4503599627370496 + b % 4503599627370496
theorem rd_fin (b : Nat) (h : b < 9218868437227405312) : double.read b = .number false (digs b) ((expo b : Int) - 1075) := by
  unfold digs expo
  by_cases h1 : b < 4503599627370496
  · rw [if_pos h1, if_pos h1, rd_small b h1]; rfl
  · rw [if_neg h1, if_neg h1, rd_big b (by omega) h]
    have : (-1074 + (b / 4503599627370496 - 1 : Nat) : Int) = ((b / 4503599627370496 : Nat) : Int) - 1075 := by omega
    rw [this]
theorem expo_pos (b : Nat) : 1 ≤ expo b := by unfold expo; split <;> omega
theorem digs_lt (b : Nat) : digs b < 9007199254740992 := by unfold digs; split <;> omega
theorem parts (b : Nat) : (expo b - 1) * 4503599627370496 + digs b = b := by
  unfold expo digs
  by_cases h1 : b < 4503599627370496
  · rw [if_pos h1, if_pos h1]; omega
  · rw [if_neg h1, if_neg h1]; omega
theorem digs_big {b : Nat} (h : 1 < expo b) : 4503599627370496 ≤ digs b := by
  unfold expo at h
  unfold digs
  split at h <;> (try omega)
  rename_i hb
  rw [if_neg hb]; omega

def pl (b : Nat) : Nat :=
  if 1023 < expo b then if 53 < expo b - 1023 then b else plusR (expo b) (4 * digs b + 18014398509481984 / 2 ^ (expo b - 1023)) (decide (18014398509481984 % 2 ^ (expo b - 1023) ≠ 0))
  else plusR 1023 (18014398509481984 + 4 * digs b / 2 ^ (1023 - expo b)) (decide (4 * digs b % 2 ^ (1023 - expo b) ≠ 0))

theorem sum_pos (m n : Nat) (i j : Int) (h : m ≠ 0) : Datum.sum (.number false m i) (.number false n j) = some (.number false (m * 2 ^ (i - min i j).toNat + n * 2 ^ (j - min i j).toNat) (min i j)) := by
  have h0 : 0 < m * 2 ^ (i - min i j).toNat := Nat.mul_pos (by omega) (Nat.two_pow_pos _)
  simp only [Datum.sum, signed, Bool.false_eq_true, if_false, Nat.shiftLeft_eq]
  obtain ⟨X, hX⟩ : ∃ X, m * 2 ^ (i - min i j).toNat = X := ⟨_, rfl⟩
  obtain ⟨Y, hY⟩ : ∃ Y, n * 2 ^ (j - min i j).toNat = Y := ⟨_, rfl⟩
  rw [hX] at h0
  rw [hX, hY, if_neg (by omega)]
  have e1 : decide (((X : Int) + (Y : Int)) < 0) = false := decide_eq_false (by omega)
  rw [e1, show ((X : Int) + (Y : Int)).natAbs = X + Y by omega]
theorem sum_comm0 (m n : Nat) (i j : Int) (h : n ≠ 0) : Datum.sum (.number false m i) (.number false n j) = some (.number false (m * 2 ^ (i - min i j).toNat + n * 2 ^ (j - min i j).toNat) (min i j)) := by
  have h0 : 0 < n * 2 ^ (j - min i j).toNat := Nat.mul_pos (by omega) (Nat.two_pow_pos _)
  simp only [Datum.sum, signed, Bool.false_eq_true, if_false, Nat.shiftLeft_eq]
  obtain ⟨X, hX⟩ : ∃ X, m * 2 ^ (i - min i j).toNat = X := ⟨_, rfl⟩
  obtain ⟨Y, hY⟩ : ∃ Y, n * 2 ^ (j - min i j).toNat = Y := ⟨_, rfl⟩
  rw [hY] at h0
  rw [hX, hY, if_neg (by omega)]
  have e1 : decide (((X : Int) + (Y : Int)) < 0) = false := decide_eq_false (by omega)
  rw [e1, show ((X : Int) + (Y : Int)).natAbs = X + Y by omega]

theorem rneS_le (s n : Nat) (m : Bool) : s / 2 ^ n ≤ rneS s n m ∧ rneS s n m ≤ s / 2 ^ n + 1 := by
  unfold rneS; split <;> omega
theorem plusR_bd (E s : Nat) (m : Bool) (h : s < 72057594037927936) (hE : 1 ≤ E) : plusR E s m ≤ (E + 2) * 4503599627370496 := by
  unfold plusR
  have e2 := rneS_le s 2 m
  have e3 := rneS_le s 3 m
  have p2 : (2 : Nat) ^ 2 = 4 := rfl
  have p3 : (2 : Nat) ^ 3 = 8 := rfl
  rw [p2] at e2
  rw [p3] at e3
  split <;> omega

theorem pow_split {a b : Nat} (h : a ≤ b) : (2 : Nat) ^ b = 2 ^ a * 2 ^ (b - a) := by rw [← Nat.pow_add]; congr 1; omega

theorem add_one (b : Nat) (h : b < 9218868437227405312) : double.add b 4607182418800017408 = some (pl b) := by
  have r1 : double.read 4607182418800017408 = .number false 4503599627370496 (-52) := by
    rw [rd_big _ (by omega) (by omega)]; decide
  have hE := expo_pos b
  have hm := digs_lt b
  have hp := parts b
  unfold Format.add
  rw [r1, rd_fin b h, sum_comm0 _ _ _ _ (by omega), Option.map_some, Format.write]
  unfold pl
  refine congrArg some ?_
  by_cases hc : 1023 < expo b
  · have hb := digs_big (b := b) (by omega)
    obtain ⟨d, hd⟩ : ∃ d, expo b = 1023 + d := ⟨expo b - 1023, by omega⟩
    rw [if_pos hc]
    obtain ⟨m, hmm⟩ : ∃ m, digs b = m := ⟨_, rfl⟩
    rw [hd] at hp ⊢
    rw [hmm] at hm hb hp ⊢
    have e1 : min (((1023 + d : Nat) : Int) - 1075) (-52) = -52 := by omega
    rw [e1, show ((((1023 + d : Nat) : Int) - 1075) - -52).toNat = d by omega, show ((-52 : Int) - -52).toNat = 0 by decide, Nat.pow_zero, Nat.mul_one, show 1023 + d - 1023 = d by omega]
    have hp2 : 0 < 2 ^ d := Nat.two_pow_pos _
    have hs : 4 * (m * 2 ^ d + 4503599627370496) / 2 ^ d = 4 * m + 18014398509481984 / 2 ^ d := by
      rw [Nat.mul_add, ← Nat.mul_assoc, Nat.mul_comm (4 * m), Nat.mul_add_div hp2]
    have hr : 4 * (m * 2 ^ d + 4503599627370496) % 2 ^ d = 18014398509481984 % 2 ^ d := by
      rw [Nat.mul_add, ← Nat.mul_assoc, Nat.mul_comm (4 * m), Nat.mul_add_mod]
    have hc2 : 18014398509481984 / 2 ^ d ≤ 9007199254740992 := by
      have : 2 ^ 1 ≤ 2 ^ d := Nat.pow_le_pow_right (by omega) (by omega)
      calc 18014398509481984 / 2 ^ d ≤ 18014398509481984 / 2 ^ 1 := Nat.div_le_div_left this (by decide)
        _ = 9007199254740992 := by decide
    have hn := near_round (m * 2 ^ d + 4503599627370496) d (1023 + d) _ (by omega) hs (by clear hs hr hc2; exact Nat.le_trans (by omega) (Nat.le_add_right (4 * m) _)) (by clear hs hr; exact Nat.lt_of_le_of_lt (Nat.add_le_add_left hc2 (4 * m)) (by omega))
    rw [show (((1023 + d : Nat) : Int) - 1075 - (d : Int)) = -52 by omega, hr] at hn
    rw [hn]
    clear hn hs hr
    obtain ⟨M, hM⟩ : ∃ M, decide (18014398509481984 % 2 ^ d ≠ 0) = M := ⟨_, rfl⟩
    rw [hM]
    have hp' : (1022 + d) * 4503599627370496 + m = b := by rw [← hp]; congr 2; omega
    clear hp hM
    by_cases h53 : 53 < d
    · rw [if_pos h53]
      have hc3 : 18014398509481984 / 2 ^ d ≤ 1 := by
        have : 2 ^ 54 ≤ 2 ^ d := Nat.pow_le_pow_right (by omega) (by omega)
        calc 18014398509481984 / 2 ^ d ≤ 18014398509481984 / 2 ^ 54 := Nat.div_le_div_left this (by decide)
          _ = 1 := by decide
      obtain ⟨c, hcc⟩ : ∃ c, 18014398509481984 / 2 ^ d = c := ⟨_, rfl⟩
      rw [hcc] at hc3 ⊢
      clear hcc hp2 hc2
      unfold plusR rneS
      rw [if_pos (by omega), show (2 : Nat) ^ 2 = 4 from rfl, show (2 : Nat) ^ (2 - 1) = 2 from rfl, if_neg (by omega), show (4 * m + c) / 4 = m by omega, show 1023 + d - 1 = 1022 + d by omega, Nat.add_zero, hp', Nat.min_eq_left (by omega)]
    · rw [if_neg h53]
      obtain ⟨c, hcc⟩ : ∃ c, 18014398509481984 / 2 ^ d = c := ⟨_, rfl⟩
      rw [hcc] at hc2 ⊢
      clear hcc hp2
      refine Nat.min_eq_left (Nat.le_trans (plusR_bd _ _ _ (by omega) (by omega)) (by omega))
  · obtain ⟨d, hd⟩ : ∃ d, expo b + d = 1023 := ⟨1023 - expo b, by omega⟩
    rw [if_neg hc]
    obtain ⟨E, hEE⟩ : ∃ E, expo b = E := ⟨_, rfl⟩
    obtain ⟨m, hmm⟩ : ∃ m, digs b = m := ⟨_, rfl⟩
    rw [hEE] at hd hE hc hp ⊢
    rw [hmm] at hm hp ⊢
    have e1 : min ((E : Int) - 1075) (-52) = (E : Int) - 1075 := by omega
    rw [e1, show (((E : Int) - 1075) - ((E : Int) - 1075)).toNat = 0 by omega, show ((-52 : Int) - ((E : Int) - 1075)).toNat = d by omega, Nat.pow_zero, Nat.mul_one, show 1023 - E = d by omega]
    have hp2 : 0 < 2 ^ d := Nat.two_pow_pos _
    have hs : 4 * (m + 4503599627370496 * 2 ^ d) / 2 ^ d = 18014398509481984 + 4 * m / 2 ^ d := by
      rw [Nat.mul_add, ← Nat.mul_assoc, Nat.add_comm, Nat.mul_comm (4 * 4503599627370496), Nat.mul_add_div hp2]
    have hr : 4 * (m + 4503599627370496 * 2 ^ d) % 2 ^ d = 4 * m % 2 ^ d := by
      rw [Nat.mul_add, ← Nat.mul_assoc, Nat.add_comm, Nat.mul_comm (4 * 4503599627370496), Nat.mul_add_mod]
    have hc2 : 4 * m / 2 ^ d ≤ 4 * m := Nat.div_le_self _ _
    have hn := near_round (m + 4503599627370496 * 2 ^ d) d 1023 _ (by omega) hs (by exact Nat.le_add_right _ _) (by clear hs hr; exact Nat.lt_of_le_of_lt (Nat.add_le_add_left hc2 _) (by omega))
    rw [show (((1023 : Nat) : Int) - 1075 - (d : Int)) = (E : Int) - 1075 by omega, hr] at hn
    rw [hn]
    clear hn hs hr
    exact Nat.min_eq_left (Nat.le_trans (plusR_bd _ _ _ (Nat.lt_of_le_of_lt (Nat.add_le_add_left hc2 _) (by omega)) (by omega)) (by decide))

theorem pl_fin (b : Nat) (h : b < 9218868437227405312) : pl b < 9218868437227405312 ∧ b ≤ pl b ∧ (b ≤ 4831355200913801216 → b < pl b) := by
  have hE := expo_pos b
  have hm := digs_lt b
  have hp := parts b
  unfold pl
  by_cases hc : 1023 < expo b
  · have hb := digs_big (b := b) (by omega)
    rw [if_pos hc]
    obtain ⟨d, hd⟩ : ∃ d, expo b = 1023 + d := ⟨expo b - 1023, by omega⟩
    obtain ⟨m, hmm⟩ : ∃ m, digs b = m := ⟨_, rfl⟩
    rw [hd] at hp ⊢
    rw [hmm] at hm hb hp ⊢
    rw [show 1023 + d - 1023 = d by omega]
    have hp' : (1022 + d) * 4503599627370496 + m = b := by rw [← hp]; congr 2; omega
    clear hp
    have hc2 : 18014398509481984 / 2 ^ d ≤ 9007199254740992 := by
      have : 2 ^ 1 ≤ 2 ^ d := Nat.pow_le_pow_right (by omega) (by omega)
      calc 18014398509481984 / 2 ^ d ≤ 18014398509481984 / 2 ^ 1 := Nat.div_le_div_left this (by decide)
        _ = 9007199254740992 := by decide
    by_cases h53 : 53 < d
    · rw [if_pos h53]
      clear hc2
      exact ⟨h, Nat.le_refl _, fun hx => by omega⟩
    · rw [if_neg h53]
      have hc4 : d ≤ 52 → 4 ≤ 18014398509481984 / 2 ^ d := fun hx => by
        have : 2 ^ d ≤ 2 ^ 52 := Nat.pow_le_pow_right (by omega) hx
        calc 4 = 18014398509481984 / 2 ^ 52 := by decide
          _ ≤ 18014398509481984 / 2 ^ d := Nat.div_le_div_left this (Nat.two_pow_pos _)
      obtain ⟨c, hcc⟩ : ∃ c, 18014398509481984 / 2 ^ d = c := ⟨_, rfl⟩
      obtain ⟨M, hM⟩ : ∃ M, decide (18014398509481984 % 2 ^ d ≠ 0) = M := ⟨_, rfl⟩
      rw [hcc] at hc2 hc4
      rw [hcc, hM]
      clear hcc hM
      have hbd := plusR_bd (1023 + d) (4 * m + c) M (by omega) (by omega)
      have e2 := (rneS_le (4 * m + c) 2 M).1
      have e3 := (rneS_le (4 * m + c) 3 M).1
      rw [show (2 : Nat) ^ 2 = 4 from rfl] at e2
      rw [show (2 : Nat) ^ 3 = 8 from rfl] at e3
      refine ⟨by clear e2 e3; omega, ?_⟩
      clear hbd
      obtain ⟨R2, hR2⟩ : ∃ R2, rneS (4 * m + c) 2 M = R2 := ⟨_, rfl⟩
      obtain ⟨R3, hR3⟩ : ∃ R3, rneS (4 * m + c) 3 M = R3 := ⟨_, rfl⟩
      unfold plusR
      rw [hR2] at e2 ⊢
      rw [hR3] at e3 ⊢
      rw [show 1023 + d - 1 = 1022 + d by omega]
      split
      · exact ⟨by omega, fun hx => by have := hc4 (by omega); omega⟩
      · exact ⟨by omega, fun hx => by omega⟩
  · rw [if_neg hc]
    obtain ⟨E, hEE⟩ : ∃ E, expo b = E := ⟨_, rfl⟩
    obtain ⟨m, hmm⟩ : ∃ m, digs b = m := ⟨_, rfl⟩
    rw [hEE] at hE hc hp ⊢
    rw [hmm] at hm hp ⊢
    have hc2 : 4 * m / 2 ^ (1023 - E) ≤ 4 * m := Nat.div_le_self _ _
    obtain ⟨c, hcc⟩ : ∃ c, 4 * m / 2 ^ (1023 - E) = c := ⟨_, rfl⟩
    obtain ⟨M, hM⟩ : ∃ M, decide (4 * m % 2 ^ (1023 - E) ≠ 0) = M := ⟨_, rfl⟩
    rw [hcc] at hc2
    rw [hM]
    have hbd := plusR_bd 1023 (18014398509481984 + c) M (by omega) (by omega)
    have e2 := (rneS_le (18014398509481984 + c) 2 M).1
    have e3 := (rneS_le (18014398509481984 + c) 3 M).1
    rw [show (2 : Nat) ^ 2 = 4 from rfl] at e2
    rw [show (2 : Nat) ^ 3 = 8 from rfl] at e3
    have hE3 : E = 1023 → c = 4 * m := fun hx => by rw [← hcc, hx]; simp
    rw [hcc]
    refine ⟨by omega, ?_⟩
    suffices hh : b < plusR 1023 (18014398509481984 + c) M from ⟨by omega, fun _ => hh⟩
    unfold plusR
    by_cases h3 : E = 1023
    · have := hE3 h3
      have hb := digs_big (b := b) (by omega)
      rw [if_neg (by omega)]
      omega
    · split <;> omega
end Go.Proofs.Ytnbcplpmpocbpaa
