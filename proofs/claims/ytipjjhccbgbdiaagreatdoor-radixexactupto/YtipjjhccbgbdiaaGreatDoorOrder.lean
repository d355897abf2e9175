/- Numbers that are laid in one width keep their order; what Lay answers, for a width that is reckoned. -/
import Derived.Test.YtipjjhccbgbdiaaGreatDoorWalkJ
namespace Go.Proofs.YtipjjhccbgbdiaaGreatDoor
open Go Go.RowKit
open Go.RowKit (wrap32 wrap64)

theorem layL_succ (n k : Nat) : layL n (k + 1) = UInt8.ofNat (n / 2 ^ (8 * k)) :: layL n k := by
  unfold layL
  rw [List.range_succ_eq_map, List.map_cons, List.map_map]
  congr 1
  apply List.map_congr_left
  intro i _
  show UInt8.ofNat (n / 2 ^ (8 * (k + 1 - 1 - (i + 1)))) = UInt8.ofNat (n / 2 ^ (8 * (k - 1 - i)))
  rw [show k + 1 - 1 - (i + 1) = k - 1 - i by omega]

theorem less_split (x y r s P : Nat) (hr : r < P) (hs : s < P) : (r + P * x < s + P * y) ↔ (x < y ∨ (x = y ∧ r < s)) := by
  constructor
  · intro h
    rcases Nat.lt_trichotomy x y with h1 | h1 | h1
    · exact .inl h1
    · subst h1; exact .inr ⟨rfl, by omega⟩
    · exfalso
      have := Nat.mul_le_mul_left P (show y + 1 ≤ x by omega)
      rw [Nat.mul_add] at this
      omega
  · rintro (h | ⟨rfl, h⟩)
    · have := Nat.mul_le_mul_left P (show x + 1 ≤ y by omega)
      rw [Nat.mul_add] at this
      omega
    · omega

theorem less_lay (k : Nat) : ∀ n m : Nat, Op.bytesLess (layL n k) (layL m k) = decide (n % 2 ^ (8 * k) < m % 2 ^ (8 * k)) := by
  induction k with
  | zero => intro n m; simp [layL, Op.bytesLess, Nat.mod_one]
  | succ k ih =>
    intro n m
    rw [layL_succ, layL_succ, Op.bytesLess, ih n m]
    have hP : 0 < 2 ^ (8 * k) := Nat.two_pow_pos _
    have e : 2 ^ (8 * (k + 1)) = 2 ^ (8 * k) * 256 := by rw [Nat.mul_add, Nat.pow_add]
    rw [e, Nat.mod_mul, Nat.mod_mul]
    have key := less_split (n / 2 ^ (8 * k) % 256) (m / 2 ^ (8 * k) % 256) (n % 2 ^ (8 * k)) (m % 2 ^ (8 * k)) (2 ^ (8 * k)) (Nat.mod_lt _ hP) (Nat.mod_lt _ hP)
    rw [Bool.eq_iff_iff]
    simp only [Bool.or_eq_true, Bool.and_eq_true, decide_eq_true_eq, beq_iff_eq]
    rw [key, UInt8.lt_iff_toNat_lt, ← UInt8.toNat_inj]
    simp [UInt8.toNat_ofNat']

theorem fit_lt (n k : Nat) (h : ((n : Int) / 2 ^ (8 * k) != 0) = false) : n < 2 ^ (8 * k) := by
  have hP : 0 < 2 ^ (8 * k) := Nat.two_pow_pos _
  simp only [bne_eq_false_iff_eq] at h
  have : ((n / 2 ^ (8 * k) : Nat) : Int) = 0 := by rw [Int.natCast_ediv]; simpa using h
  have h2 : n / 2 ^ (8 * k) = 0 := by omega
  rw [Nat.div_eq_zero_iff] at h2
  omega

theorem less_fit (n m k : Nat) (h1 : ((n : Int) / 2 ^ (8 * k) != 0) = false) (h2 : ((m : Int) / 2 ^ (8 * k) != 0) = false) : Op.bytesLess (layL n k) (layL m k) = decide ((n : Int) < (m : Int)) := by
  rw [less_lay, Nat.mod_eq_of_lt (fit_lt n k h1), Nat.mod_eq_of_lt (fit_lt m k h2)]
  simp

/-- Lay at a width from 1 to 8. -/
theorem lay_all (n r : Nat) (hr : r < 8) : ∀ w, Calls Tryz.prog 39 #[.int .u64 n, .int .i64 (1 + (r : Int))] w fun e w' =>
    (∃ v, e = .returned (.tuple #[v, .int .i64 0]) ∧ ((n : Int) / 2 ^ (8 * (r + 1)) != 0) = false ∧ Rd w' v (layL n (r + 1)) ∧ Below w.heap.size w w') ∨ (e = .returned (.tuple #[.slice none 0 0, .int .i64 14]) ∧ ((n : Int) / 2 ^ (8 * (r + 1)) != 0) = true ∧ w' = w) := by
  intro w
  rw [show (1 + (r : Int)) = ((r + 1 : Nat) : Int) by omega]
  cases h : ((n : Int) / 2 ^ (8 * (r + 1)) != 0) with
  | false =>
    refine (lay_rd n (r + 1) w (by omega) (by omega) h).mono ?_
    rintro e w' ⟨v, rfl, h1, h2⟩
    exact .inl ⟨v, rfl, rfl, h1, h2⟩
  | true =>
    refine (lay_no n (r + 1) w (by omega) (by omega) h).mono ?_
    rintro e w' ⟨rfl, rfl⟩
    exact .inr ⟨rfl, rfl, rfl⟩
end Go.Proofs.YtipjjhccbgbdiaaGreatDoor
