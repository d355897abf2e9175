/- The walks of turned and RotateLeft32. -/
import Derived.Test.YtmiojplbcjhggaaDoorBase
namespace Go.Proofs.YtmiojplbcjhggaaDoor
open Go Go.RowKit
open Go.RowKit (wrap32 wrap64)

theorem rot_amount (n m : Nat) (h1 : 1 ≤ n) (h2 : n ≤ 31) (hm : n + m = 32) : bits .and .u64 (IntKind.u64.wrap (-(n : Int))) 31 = (m : Int) := by
  have : ∀ k : Fin 31, bits .and .u64 (IntKind.u64.wrap (-((k.val + 1 : Nat) : Int))) 31 = ((31 - k.val : Nat) : Int) := by decide
  have h := this ⟨n - 1, by omega⟩
  simp only at h
  rw [show n - 1 + 1 = n by omega, show 31 - (n - 1) = m by omega] at h
  exact h
theorem rot_or (x n m : Nat) (hx : x < 4294967296) (hm : n + m = 32) : bits .or .u32 ((x : Int) * 2 ^ m % 4294967296) ((x : Int) / 2 ^ (32 - m)) = ((rot n x : Nat) : Int) := by
  have e0 : 32 - m = n := by omega
  have e1 : x * 2 ^ m % 4294967296 = x % 2 ^ n * 2 ^ m := by
    rw [show (4294967296 : Nat) = 2 ^ n * 2 ^ m by rw [← Nat.pow_add, hm]]
    exact Nat.mul_mod_mul_right _ _ _
  have hb : x / 2 ^ n < 2 ^ m := by
    rw [Nat.div_lt_iff_lt_mul (Nat.pow_pos (by decide)), ← Nat.pow_add, show m + n = 32 by omega]
    exact hx
  have hl : x * 2 ^ m % 4294967296 < 2 ^ 32 := Nat.mod_lt _ (by decide)
  have hr : x / 2 ^ n < 2 ^ 32 := Nat.lt_of_le_of_lt (Nat.div_le_self _ _) hx
  have h := u32_or_nat (x * 2 ^ m % 4294967296) (x / 2 ^ n) hl hr
  rw [e0]
  have c1 : ((x * 2 ^ m % 4294967296 : Nat) : Int) = (x : Int) * 2 ^ m % 4294967296 := by rw [Int.natCast_emod, Int.natCast_mul, Int.natCast_pow]; rfl
  have c2 : ((x / 2 ^ n : Nat) : Int) = (x : Int) / 2 ^ n := by rw [Int.natCast_ediv, Int.natCast_pow]; rfl
  rw [c1, c2] at h
  rw [h, e1]
  have e := Nat.shiftLeft_add_eq_or_of_lt hb (x % 2 ^ n)
  rw [Nat.shiftLeft_eq] at e
  rw [← e, rot, show 32 - n = m by omega, Nat.add_comm]
set_option maxHeartbeats 400000 in
theorem rotl_any (x n : Nat) (hx : x < 4294967296) (h1 : 1 ≤ n) (h2 : n ≤ 31) (w : World) :
    Calls Tryd.prog 49 #[.int .u32 x, .int .i64 (-(n : Int))] w fun e w' => e = .returned (.int .u32 (rot n x)) ∧ w' = w := by
  obtain ⟨m, hm⟩ : ∃ m, n + m = 32 := ⟨32 - n, by omega⟩
  have e1 := rot_amount n m h1 h2 hm
  have HR := hid (rot_or x n m hx hm)
  generalize rot n x = R at HR
  have hm0 : 0 ≤ (m : Int) := by omega
  have hm1 : (m : Int) < 32 := by omega
  clear hm
  go_enter Tryd.func49, Tryd.ntmps49
  go_wp2
  go_ret
  exact ⟨ret_int HR.out, rfl⟩
set_option maxHeartbeats 400000 in
theorem turned_any (x n : Nat) (hx : x < 4294967296) (h1 : 1 ≤ n) (h2 : n ≤ 31) (w : World) :
    Calls Tryd.prog 47 #[.int .u32 x, .int .i64 n] w fun e w' => e = .returned (.int .u32 (rot n x)) ∧ w' = w := by
  have HC := hid (rotl_any x n hx h1 h2)
  generalize rot n x = R at HC
  have h3 : (n : Int) ≤ 31 := by omega
  go_enter Tryd.func47, Tryd.ntmps47
  go_wp2_with (go_at_call 49; refine (HC.out _).mono ?_; rintro e w' ⟨rfl, rfl⟩)
  go_ret
  exact ⟨rfl, rfl⟩
end Go.Proofs.YtmiojplbcjhggaaDoor
