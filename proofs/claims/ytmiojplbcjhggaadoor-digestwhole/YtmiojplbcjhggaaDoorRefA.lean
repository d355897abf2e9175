/- The reference's Copy, turn, four, number, factor. -/
import Derived.Test.YtmiojplbcjhggaaDoorSameA
namespace Go.Proofs.YtmiojplbcjhggaaDoor
open Go Go.RowKit
open Go.RowKit (wrap32 wrap64)

set_option maxRecDepth 100000 in
theorem copyR_any (w : World) (v : Value) (F : Nat → Prop) (l : List UInt8) (hb : Rd w F v l) (hl : l.length ≤ 140737488351232) :
    Calls Tryd.prog 30 #[v] w fun e w' => ∃ v', e = .returned v' ∧ Out w.heap.size w' v' l ∧ w.grownBy w' none := by
  have HR := hid hb
  have HL := hid hl
  clear hb hl
  go_enter Tryd.func30, Tryd.ntmps30
  go_wp2_with (at_builtin; refine wpList_append_rdW rfl _ _ rfl w.heap.size F [] l (Out.nil _ _) HR.out (by have := HL.out; simp; omega) (Nat.le_refl _) ?_; intro v2 w2 hO2 hg2 _)
  go_ret
  exact ⟨_, rfl, by simpa using hO2, (grefl w none).andThen hg2 (fun j hj => by simp [Act.eval, Value.ownBlock] at hj)⟩

set_option maxHeartbeats 400000 in
theorem turnR2 (x : Nat) (hx : x < 4294967296) (w : World) :
    Calls Tryd.prog 45 #[.int .u32 x, .int .u64 2] w fun e w' => e = .returned (.int .u32 (rot 2 x)) ∧ w' = w := by
  have h0 : 0 ≤ (x : Int) := by omega
  have h1 : (x : Int) < 4294967296 := by omega
  go_enter Tryd.func45, Tryd.ntmps45
  go_wp2
  go_ret
  refine ⟨ret_int ?_, rfl⟩
  unfold rot
  omega
set_option maxHeartbeats 400000 in
theorem turnR6 (x : Nat) (hx : x < 4294967296) (w : World) :
    Calls Tryd.prog 45 #[.int .u32 x, .int .u64 6] w fun e w' => e = .returned (.int .u32 (rot 6 x)) ∧ w' = w := by
  have h0 : 0 ≤ (x : Int) := by omega
  have h1 : (x : Int) < 4294967296 := by omega
  go_enter Tryd.func45, Tryd.ntmps45
  go_wp2
  go_ret
  refine ⟨ret_int ?_, rfl⟩
  unfold rot
  omega
set_option maxHeartbeats 400000 in
theorem turnR7 (x : Nat) (hx : x < 4294967296) (w : World) :
    Calls Tryd.prog 45 #[.int .u32 x, .int .u64 7] w fun e w' => e = .returned (.int .u32 (rot 7 x)) ∧ w' = w := by
  have h0 : 0 ≤ (x : Int) := by omega
  have h1 : (x : Int) < 4294967296 := by omega
  go_enter Tryd.func45, Tryd.ntmps45
  go_wp2
  go_ret
  refine ⟨ret_int ?_, rfl⟩
  unfold rot
  omega
set_option maxHeartbeats 400000 in
theorem turnR11 (x : Nat) (hx : x < 4294967296) (w : World) :
    Calls Tryd.prog 45 #[.int .u32 x, .int .u64 11] w fun e w' => e = .returned (.int .u32 (rot 11 x)) ∧ w' = w := by
  have h0 : 0 ≤ (x : Int) := by omega
  have h1 : (x : Int) < 4294967296 := by omega
  go_enter Tryd.func45, Tryd.ntmps45
  go_wp2
  go_ret
  refine ⟨ret_int ?_, rfl⟩
  unfold rot
  omega
set_option maxHeartbeats 400000 in
theorem turnR13 (x : Nat) (hx : x < 4294967296) (w : World) :
    Calls Tryd.prog 45 #[.int .u32 x, .int .u64 13] w fun e w' => e = .returned (.int .u32 (rot 13 x)) ∧ w' = w := by
  have h0 : 0 ≤ (x : Int) := by omega
  have h1 : (x : Int) < 4294967296 := by omega
  go_enter Tryd.func45, Tryd.ntmps45
  go_wp2
  go_ret
  refine ⟨ret_int ?_, rfl⟩
  unfold rot
  omega
set_option maxHeartbeats 400000 in
theorem turnR17 (x : Nat) (hx : x < 4294967296) (w : World) :
    Calls Tryd.prog 45 #[.int .u32 x, .int .u64 17] w fun e w' => e = .returned (.int .u32 (rot 17 x)) ∧ w' = w := by
  have h0 : 0 ≤ (x : Int) := by omega
  have h1 : (x : Int) < 4294967296 := by omega
  go_enter Tryd.func45, Tryd.ntmps45
  go_wp2
  go_ret
  refine ⟨ret_int ?_, rfl⟩
  unfold rot
  omega
set_option maxHeartbeats 400000 in
theorem turnR18 (x : Nat) (hx : x < 4294967296) (w : World) :
    Calls Tryd.prog 45 #[.int .u32 x, .int .u64 18] w fun e w' => e = .returned (.int .u32 (rot 18 x)) ∧ w' = w := by
  have h0 : 0 ≤ (x : Int) := by omega
  have h1 : (x : Int) < 4294967296 := by omega
  go_enter Tryd.func45, Tryd.ntmps45
  go_wp2
  go_ret
  refine ⟨ret_int ?_, rfl⟩
  unfold rot
  omega
set_option maxHeartbeats 400000 in
theorem turnR19 (x : Nat) (hx : x < 4294967296) (w : World) :
    Calls Tryd.prog 45 #[.int .u32 x, .int .u64 19] w fun e w' => e = .returned (.int .u32 (rot 19 x)) ∧ w' = w := by
  have h0 : 0 ≤ (x : Int) := by omega
  have h1 : (x : Int) < 4294967296 := by omega
  go_enter Tryd.func45, Tryd.ntmps45
  go_wp2
  go_ret
  refine ⟨ret_int ?_, rfl⟩
  unfold rot
  omega
set_option maxHeartbeats 400000 in
theorem turnR22 (x : Nat) (hx : x < 4294967296) (w : World) :
    Calls Tryd.prog 45 #[.int .u32 x, .int .u64 22] w fun e w' => e = .returned (.int .u32 (rot 22 x)) ∧ w' = w := by
  have h0 : 0 ≤ (x : Int) := by omega
  have h1 : (x : Int) < 4294967296 := by omega
  go_enter Tryd.func45, Tryd.ntmps45
  go_wp2
  go_ret
  refine ⟨ret_int ?_, rfl⟩
  unfold rot
  omega
set_option maxHeartbeats 400000 in
theorem turnR25 (x : Nat) (hx : x < 4294967296) (w : World) :
    Calls Tryd.prog 45 #[.int .u32 x, .int .u64 25] w fun e w' => e = .returned (.int .u32 (rot 25 x)) ∧ w' = w := by
  have h0 : 0 ≤ (x : Int) := by omega
  have h1 : (x : Int) < 4294967296 := by omega
  go_enter Tryd.func45, Tryd.ntmps45
  go_wp2
  go_ret
  refine ⟨ret_int ?_, rfl⟩
  unfold rot
  omega

/-- the first i bytes as a number. -/
def fourN (l : List UInt8) : Nat → Nat
  | 0 => 0
  | i + 1 => 256 * fourN l i + (l.getD i 0).toNat
theorem fourN_lt (l : List UInt8) : ∀ i, fourN l i < 256 ^ i
  | 0 => by simp [fourN]
  | i + 1 => by
    have h := fourN_lt l i
    have := u8lt (l.getD i 0)
    rw [fourN, Nat.pow_succ]
    omega
theorem fourN_b4 (l : List UInt8) : fourN l 4 = b4 l 0 := by
  simp only [fourN, b4, Nat.mul_zero, Nat.zero_add]
  omega
theorem fourN_small (l : List UInt8) (i : Nat) (h : i < 4) : fourN l i < 16777216 := by
  have h1 := fourN_lt l i
  have h2 : 256 ^ i ≤ 256 ^ 3 := Nat.pow_le_pow_right (by decide) (by omega)
  omega
set_option maxRecDepth 100000 in
set_option maxHeartbeats 800000 in
theorem fourR_any (w : World) (v : Value) (F : Nat → Prop) (l : List UInt8) (hb : Rd w F v l) (h4 : 4 ≤ l.length) :
    Calls Tryd.prog 44 #[v] w fun e w' => e = .returned (.int .u32 (b4 l 0)) ∧ w' = w := by
  obtain ⟨a, b, off, c, rfl, _, _, ha, hc⟩ := hb
  obtain ⟨rfl, hlt, _⟩ := ha (by omega)
  have HC := hid hc
  obtain ⟨n, HN⟩ : ∃ n, Hid (l.length = n) := ⟨_, hid rfl⟩
  have hn4 : (4 : Int) ≤ (n : Int) := by have := HN.out; omega
  have H4 := hid h4
  obtain ⟨R, HR⟩ : ∃ R, Hid (b4 l 0 = R) := ⟨_, hid rfl⟩
  rw [HN.out, HR.out]
  clear hc ha h4
  go_enter Tryd.func44, Tryd.ntmps44
  go_wp2_with fail
  go_loopw [3, 4] (fun sv iv wr => ∃ i : Nat, iv = .int .i64 i ∧ i ≤ 4 ∧ sv = .int .u32 (fourN l i : Nat) ∧ wr = w) (fun _ iv _ => 4 - (intOf iv).toNat)
  case atStart => exact ⟨0, rfl, by omega, rfl, rfl⟩
  case round =>
    obtain ⟨i, rfl, hi, rfl, hw⟩ := hrel
    subst hw
    by_cases hlt4 : i < 4
    · have q := HC.out i (by have := H4.out; omega)
      have hx : l[i]'(by have := H4.out; omega) = l.getD i 0 := by rw [List.getD_eq_getElem?_getD, List.getElem?_eq_getElem (by have := H4.out; omega)]; rfl
      rw [hx] at q
      have HS : Hid (fourN l (i + 1) = 256 * fourN l i + (l.getD i 0).toNat) := hid rfl
      have hsm := fourN_small l i hlt4
      have hu := u8lt (l.getD i 0)
      obtain ⟨x, hxx⟩ : ∃ x : Int, ((l.getD i 0).toNat : Int) = x := ⟨_, rfl⟩
      obtain ⟨y, hyy⟩ : ∃ y : Int, (fourN l i : Int) = y := ⟨_, rfl⟩
      have x0 : 0 ≤ x := by omega
      have x1 : x < 256 := by omega
      have y0 : 0 ≤ y := by omega
      have y1 : y < 16777216 := by omega
      have i1 : (i : Int) < 4 := by omega
      have i2 : (i : Int) < (n : Int) := by omega
      have HX := hid hxx
      have HY := hid hyy
      rw [hxx] at q
      rw [hyy]
      clear hx hu hsm hxx hyy
      go_wp2_with fail
      go_roundw
      case rel => exact ⟨i + 1, by go_num, by omega, by rw [HS.out, show ((256 * fourN l i + (l.getD i 0).toNat : Nat) : Int) = 256 * y + x by have := HX.out; have := HY.out; omega], trivial⟩
      case measure => simp [intOf]; omega
    · obtain rfl : i = 4 := by omega
      rw [fourN_b4, HR.out]
      go_wp2_with fail
      go_ret
      exact ⟨rfl, rfl⟩

theorem lit_out (w : World) (B : Nat) (c : UInt8) (hB : B ≤ w.heap.size) : Out B (w.alloc (.cells #[.int .u8 c.toNat] 5)) (.slice (some ⟨w.heap.size, 0, none⟩) 1 1) [c] :=
  ⟨by simp [Lib.byteCells], .inr ⟨w.heap.size, 1, #[.int .u8 c.toNat], rfl, hB, heap_new _ _ _, Nat.le_refl _, by unfold maxLen; omega, rfl, by simp [Lib.byteCells]⟩⟩
theorem be_succ (n i : Nat) : be n (i + 1) = UInt8.ofNat (n / 256 ^ i) :: be n i := by
  unfold be
  rw [List.range_succ_eq_map, List.map_cons, List.map_map]
  refine List.cons_eq_cons.2 ⟨by simp, List.map_congr_left fun j hj => ?_⟩
  have := List.mem_range.1 hj
  show UInt8.ofNat (n / 256 ^ (i + 1 - 1 - (j + 1))) = _
  rw [show i + 1 - 1 - (j + 1) = i - 1 - j by omega]
theorem be_len (n i : Nat) : (be n i).length = i := by simp [be]
set_option maxRecDepth 100000 in
set_option maxHeartbeats 800000 in
theorem numberR_any (w : World) (n : Nat) (hn : n < 18446744073709551616) :
    Calls Tryd.prog 31 #[.int .u64 n] w fun e w' => ∃ v', e = .returned v' ∧ Out w.heap.size w' v' (be n 8) ∧ w.grownBy w' none := by
  have HN := hid hn
  clear hn
  go_enter Tryd.func31, Tryd.ntmps31
  go_wp2_with fail
  go_loopw [0, 3, 4] (fun nv lv iv wr => ∃ i m : Nat, iv = .int .i64 i ∧ i ≤ 8 ∧ nv = .int .u64 m ∧ Hid (m = n / 256 ^ i) ∧ Hid (Out w.heap.size wr lv (be n i)) ∧ Hid (w.grownBy wr none)) (fun _ _ iv _ => 8 - (intOf iv).toNat)
  case atStart => exact ⟨0, n, rfl, by omega, rfl, hid (by simp), hid (Out.nil _ _), hid (grefl _ _)⟩
  case round =>
    obtain ⟨i, m, rfl, hi, rfl, HM, HO, HG⟩ := hrel
    by_cases hlt : i < 8
    · have i1 : (i : Int) < 8 := by omega
      have hm : m < 18446744073709551616 := by rw [HM.out]; exact Nat.lt_of_le_of_lt (Nat.div_le_self _ _) HN.out
      have m0 : 0 ≤ (m : Int) := by omega
      have m1 : (m : Int) < 18446744073709551616 := by omega
      obtain ⟨c, HC⟩ : ∃ c : UInt8, Hid (UInt8.ofNat m = c) := ⟨_, hid rfl⟩
      have hc : (m : Int) % 256 = (c.toNat : Int) := by rw [← HC.out, UInt8.toNat_ofNat']; omega
      have HBe : Hid (be n (i + 1) = [c] ++ be n i) := hid (by rw [be_succ, ← HM.out, HC.out]; rfl)
      have HMn : Hid (m / 256 = n / 256 ^ (i + 1)) := hid (by rw [HM.out, Nat.div_div_eq_div_mul, Nat.pow_succ])
      have hcb := u8_bd c
      have hsz := HG.out.size
      clear hm
      go_wp2_with (at_builtin; refine wpList_append_rdW rfl _ _ rfl w.heap.size _ [c] (be n i) (lit_out wr _ c hsz) (HO.out.keep (galloc wr _ none)).rd (by rw [be_len]; simp; omega) (by simp; omega) ?_; intro v3 w3 hO3 hg3 _)
      go_roundw
      case rel => exact ⟨i + 1, m / 256, by go_num, by omega, by rw [show ((m / 256 : Nat) : Int) = (m : Int) / 256 by omega], HMn, hid (by rw [HBe.out]; exact hO3), hid ((gtrans HG.out (galloc wr _ none)).andThen hg3 (fun j hj => .inl ((lit_out wr _ c hsz).block j hj)))⟩
      case measure => simp [intOf]; omega
    · obtain rfl : i = 8 := by omega
      go_wp2_with fail
      go_ret
      exact ⟨_, rfl, HO.out, HG.out⟩
end Go.Proofs.YtmiojplbcjhggaaDoor
