/- Plain facts on numbers, bits and lists of bytes for the radix package; no program is in them. -/
import Derived.Laws.BitsLemmas
namespace Go.Proofs.YtipjjhccbgbdiaaGreatDoor
open Go

theorem wraps_i64s (n : Int) (h0 : 0 ≤ n) (h1 : n < 2 ^ 32) : IntKind.i64.wrap n = n := by rw [IntKind.wrap_i64]; omega

theorem bits_low (k : IntKind) (j : Nat) (hj : j ≤ k.bits) (hk : ∀ n : Int, 0 ≤ n → n < 2 ^ j → k.wrap n = n) (i : Nat)
    (y x : Int) (hy₀ : 0 ≤ y) (hy : y < 2 ^ i) (hy₁ : y < 2 ^ j) (hx₀ : 0 ≤ x) (hx : x % 2 ^ i = 0) (hx₁ : x < 2 ^ j) : bits .or k y x = y + x := by
  have h := bits_join k j hj hk i x y hx₀ hx hx₁ hy₀ hy hy₁
  obtain ⟨a, rfl⟩ := Int.eq_ofNat_of_zero_le hx₀
  obtain ⟨b, rfl⟩ := Int.eq_ofNat_of_zero_le hy₀
  have ha : a < 2 ^ j := by exact_mod_cast hx₁
  have hb : b < 2 ^ j := by exact_mod_cast hy₁
  rw [(bits_nat k j hj hk a b ha hb).2] at h
  rw [(bits_nat k j hj hk b a hb ha).2, Nat.or_comm, h]
  omega

theorem and63 (x : Int) (h0 : 0 ≤ x) (h1 : x < 4294967296) : bits .and .i64 x 63 = x % 64 := bits_mask .i64 32 (by decide) wraps_i64s 6 (by decide) x h0 h1
theorem and15 (x : Int) (h0 : 0 ≤ x) (h1 : x < 4294967296) : bits .and .i64 x 15 = x % 16 := bits_mask .i64 32 (by decide) wraps_i64s 4 (by decide) x h0 h1
theorem and3 (x : Int) (h0 : 0 ≤ x) (h1 : x < 4294967296) : bits .and .i64 x 3 = x % 4 := bits_mask .i64 32 (by decide) wraps_i64s 2 (by decide) x h0 h1
theorem or0 (x : Int) (h0 : 0 ≤ x) (h1 : x < 4294967296) : bits .or .i64 0 x = x := by
  have := bits_low .i64 32 (by decide) wraps_i64s 0 0 x (by decide) (by decide) (by decide) h0 (by omega) h1
  omega
theorem or6 (y x : Int) (hy0 : 0 ≤ y) (hy : y < 64) (hx0 : 0 ≤ x) (hx : x % 64 = 0) (hx1 : x < 4294967296) : bits .or .i64 y x = y + x :=
  bits_low .i64 32 (by decide) wraps_i64s 6 y x hy0 hy (by omega) hx0 hx hx1
theorem or12 (y x : Int) (hy0 : 0 ≤ y) (hy : y < 4096) (hx0 : 0 ≤ x) (hx : x % 4096 = 0) (hx1 : x < 4294967296) : bits .or .i64 y x = y + x :=
  bits_low .i64 32 (by decide) wraps_i64s 12 y x hy0 hy (by omega) hx0 hx hx1
theorem or8 (y x : Int) (hy0 : 0 ≤ y) (hy : y < 256) (hx0 : 0 ≤ x) (hx : x % 256 = 0) (hx1 : x < 4294967296) : bits .or .i64 y x = y + x :=
  bits_low .i64 32 (by decide) wraps_i64s 8 y x hy0 hy (by omega) hx0 hx hx1
theorem or16 (y x : Int) (hy0 : 0 ≤ y) (hy : y < 65536) (hx0 : 0 ≤ x) (hx : x % 65536 = 0) (hx1 : x < 4294967296) : bits .or .i64 y x = y + x :=
  bits_low .i64 32 (by decide) wraps_i64s 16 y x hy0 hy (by omega) hx0 hx hx1
theorem or18r (x y : Int) (hx0 : 0 ≤ x) (hx : x % 262144 = 0) (hx1 : x < 4294967296) (hy0 : 0 ≤ y) (hy : y < 262144) : bits .or .i64 x y = x + y :=
  bits_join .i64 32 (by decide) wraps_i64s 18 x y hx0 hx hx1 hy0 hy (by omega)
theorem or4r (x y : Int) (hx0 : 0 ≤ x) (hx : x % 16 = 0) (hx1 : x < 4294967296) (hy0 : 0 ≤ y) (hy : y < 16) : bits .or .i64 x y = x + y :=
  bits_join .i64 32 (by decide) wraps_i64s 4 x y hx0 hx hx1 hy0 hy (by omega)

/-- The letter at place i of a base. -/
def lt (base : List UInt8) (i : Nat) : UInt8 := base.getD i 0

/-- Bytes as cells. -/
def cb (l : List UInt8) : List Value := l.map fun b => Value.int .u8 (b.toNat : Int)
theorem cb_length (l : List UInt8) : (cb l).length = l.length := by simp [cb]
theorem cb_append (l m : List UInt8) : cb (l ++ m) = cb l ++ cb m := by simp [cb]

/-- The text of bytes in base 64, without pads. -/
def enc (base : List UInt8) : List UInt8 → List UInt8
  | a :: b :: c :: r => lt base (a.toNat / 4) :: lt base (a.toNat % 4 * 16 + b.toNat / 16) :: lt base (b.toNat % 16 * 4 + c.toNat / 64) :: lt base (c.toNat % 64) :: enc base r
  | [a, b] => [lt base (a.toNat / 4), lt base (a.toNat % 4 * 16 + b.toNat / 16), lt base (b.toNat % 16 * 4)]
  | [a] => [lt base (a.toNat / 4), lt base (a.toNat % 4 * 16)]
  | [] => []

theorem enc_length (base : List UInt8) : ∀ l, (enc base l).length = (4 * l.length + 2) / 3
  | a :: b :: c :: r => by simp [enc, enc_length base r]; omega
  | [a, b] => by simp [enc]
  | [a] => by simp [enc]
  | [] => by simp [enc]

theorem enc_append (base : List UInt8) : ∀ l m : List UInt8, l.length % 3 = 0 → enc base (l ++ m) = enc base l ++ enc base m
  | a :: b :: c :: r, m, h => by simp only [List.cons_append, enc]; rw [enc_append base r m (by simp at h; omega)]
  | [a, b], m, h => by simp at h
  | [a], m, h => by simp at h
  | [], m, _ => by simp [enc]

theorem take_more (l : List UInt8) (k m : Nat) : l.take (k + m) = l.take k ++ (l.drop k).take m := by rw [List.take_add]

end Go.Proofs.YtipjjhccbgbdiaaGreatDoor
