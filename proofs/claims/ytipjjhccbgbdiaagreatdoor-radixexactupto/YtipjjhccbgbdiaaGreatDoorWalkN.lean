/- The walks of the law's letters and of radix's Read. -/
import Derived.Test.YtipjjhccbgbdiaaGreatDoorBackT
namespace Go.Proofs.YtipjjhccbgbdiaaGreatDoor
open Go Go.RowKit
open Go.RowKit (wrap32 wrap64)

theorem wraps_u64s (n : Int) (h0 : 0 ≤ n) (h1 : n < 2 ^ 64) : IntKind.u64.wrap n = n := by rw [IntKind.wrap_u64]; omega

set_option maxRecDepth 100000 in
set_option maxHeartbeats 400000 in
/-- Read: the number in 1 to 8 bytes. -/
theorem read_any (l : List UInt8) (a : Option Addr) (b off c : Nat) (w : World) (h1 : 1 ≤ l.length) (h8 : l.length ≤ 8)
    (ha : 0 < l.length → a = some ⟨b, off, none⟩ ∧ b < w.heap.size)
    (hcell : ∀ i (h : i < l.length), w.cell? ⟨b, off + i, none⟩ = some (.int .u8 l[i].toNat)) :
    Calls Tryz.prog 17 #[.slice a l.length c] w fun e w' => e = .returned (.tuple #[.int .u64 (beVal l), .int .i64 0]) ∧ w' = w := by
  obtain ⟨rfl, hbw⟩ := ha (by omega)
  have HC := hid hcell
  clear hcell ha
  obtain ⟨x, hx⟩ : ∃ x : Int, (l.length : Int) = x := ⟨_, rfl⟩
  have hx1 : 1 ≤ x := by omega
  have hx8 : x ≤ 8 := by omega
  have HX := hid hx
  go_enter Tryz.func17, Tryz.ntmps17
  go_wp2
  go_loop [4, 17] (fun nv iv => ∃ (k : Nat) (m : Int), k ≤ l.length ∧ iv = .int .i64 k ∧ nv = .int .u64 m ∧ Hid (m = (beVal (l.take k) : Int))) (fun _ iv => l.length - (intOf iv).toNat)
  case atStart => exact ⟨0, 0, Nat.zero_le _, rfl, rfl, hid rfl⟩
  case round =>
    obtain ⟨k, m, hk, rfl, rfl, HM⟩ := hrel
    by_cases hlt : k < l.length
    · have hlt' : (k : Int) < x := by have := HX.out; omega
      have hck := HC.out k hlt
      have bd := u8_bd l[k]
      obtain ⟨y, HY⟩ : ∃ y : Int, Hid ((l[k].toNat : Int) = y) := ⟨(l[k].toNat : Int), hid rfl⟩
      rw [HY.out] at hck bd
      have hm0 : 0 ≤ m := by have := HM.out; omega
      have hm1 : m < 72057594037927936 := by
        have h2 := beVal_lt (l.take k)
        have h3 : (l.take k).length ≤ 7 := by rw [List.length_take]; omega
        have h4 : 256 ^ (l.take k).length ≤ 256 ^ 7 := Nat.pow_le_pow_right (by decide) h3
        have h5 : (256 : Nat) ^ 7 = 72057594037927936 := by decide
        have := HM.out
        omega
      have bd1 := bd.1
      have bd2 := bd.2
      have hor : bits .or .u64 (m * 256) y = m * 256 + y := bits_join .u64 64 (by decide) wraps_u64s 8 (m * 256) y (by omega) (by omega) (by omega) bd1 (by omega) (by omega)
      clear bd
      go_wp2
      refine ⟨⟨k + 1, m * 256 + y, hlt, by go_num, rfl, hid ?_⟩, by simp [intOf]; omega⟩
      rw [List.take_succ_eq_append_getElem hlt, beVal_snoc]
      have := HM.out
      have := HY.out
      omega
    · have hge : x ≤ (k : Int) := by have := HX.out; omega
      go_wp2
      go_ret2
      have e : (beVal l : Int) = m := by
        have := HM.out
        rw [show k = l.length by have := HX.out; omega, List.take_length] at this
        exact this.symm
      rw [e]
      exact ⟨rfl, rfl⟩

theorem Rd.read {w : World} {v : Value} {l : List UInt8} (h : Rd w v l) (h1 : 1 ≤ l.length) (h8 : l.length ≤ 8) :
    Calls Tryz.prog 17 #[v] w fun e w' => e = .returned (.tuple #[.int .u64 (beVal l), .int .i64 0]) ∧ w' = w := by
  obtain ⟨a, b, off, c, rfl, hc, _, ha, hcell⟩ := h
  exact read_any l a b off c w h1 h8 ha hcell
end Go.Proofs.YtipjjhccbgbdiaaGreatDoor
