/- The walks of record's Sum, number, appendNumber, and of small functions. -/
import Derived.Test.YtpbiofnncdneoaaDoorRBase
namespace Go.Proofs.YtpbiofnncdneoaaDoor
open Go Go.RowKit
open Go.RowKit (wrap32 wrap64)

theorem take_snocL (l : List UInt8) (k : Nat) (h : k < l.length) : l.take (k + 1) = l.take k ++ [l[k]] := by
  rw [List.take_succ_eq_append_getElem h]
theorem and15 (n : Nat) (h : n < 2 ^ 32) : bits .and .u32 (n : Int) 15 = ((n % 16 : Nat) : Int) := by
  have := u32_and_nat n 15 (by omega) (by decide)
  rw [show (15 : Nat) = 2 ^ 4 - 1 by decide, Nat.and_two_pow_sub_one_eq_mod] at this
  exact this
theorem nib_int (n : Nat) (h : n < 2 ^ 32) : bits .xor .u32 ((n : Int) / 16) ((tb (n % 16) : Nat) : Int) = ((nib n : Nat) : Int) := by
  have := u32_xor_nat (n / 16) (tb (n % 16)) (by omega) (tb_lt _)
  rw [show ((n / 16 : Nat) : Int) = (n : Int) / 16 by omega] at this
  exact this

set_option maxHeartbeats 400000 in
theorem sum_any (l : List UInt8) (F : Nat → Prop) (v : Value) (w : World) (hl : l.length ≤ 140737488355328) (hr : Rd w F v l) (ht : Tab w) :
    Calls Tryd.prog 62 #[v] w fun e w' => e = .returned (.int .u32 (sumL l)) ∧ w' = w := by
  obtain ⟨a, b, off, c, rfl, hc, hn, ha, hcell⟩ := hr
  have HC := hid hcell
  have HT := hid ht
  have HA := hid ha
  clear hcell ht ha hn
  have HS : Hid (sumL l = 4294967295 - crcL 4294967295 (l.take l.length)) := by rw [List.take_length]; exact rfl
  generalize sumL l = R at HS
  go_enter Tryd.func62, Tryd.ntmps62
  go_wp2
  go_loop [3, 8] (fun sv iv => ∃ k : Nat, k ≤ l.length ∧ iv = .int .i64 k ∧ sv = .int .u32 (crcL 4294967295 (l.take k))) (fun _ iv => l.length - (intOf iv).toNat)
  case atStart => exact ⟨0, Nat.zero_le _, rfl, rfl⟩
  case round =>
    obtain ⟨k, hk, rfl, rfl⟩ := hrel
    have hs := crcL_lt (l.take k) 4294967295 (by decide)
    obtain ⟨S, HSS⟩ : ∃ S, Hid (crcL 4294967295 (l.take k) = S) := ⟨_, hid rfl⟩
    rw [HSS.out] at hs ⊢
    by_cases hlt : k < l.length
    · obtain ⟨rfl, hb, _⟩ := HA.out (by omega)
      have hck := HC.out k hlt
      obtain ⟨x, HX⟩ : ∃ x, Hid (l[k] = x) := ⟨_, hid rfl⟩
      rw [HX.out] at hck
      have hxb := u8_bd x
      have hX : S ^^^ x.toNat < 2 ^ 32 := Nat.xor_lt_two_pow hs (u8_lt32 x)
      have e1 := u32_xor_nat S x.toNat hs (u8_lt32 x)
      obtain ⟨X, HXX⟩ : ∃ X, Hid (S ^^^ x.toNat = X) := ⟨_, hid rfl⟩
      rw [HXX.out] at hX e1
      have e2 := and15 X hX
      have e3 := nib_int X hX
      have hY := nib_lt X hX
      obtain ⟨Y, HY⟩ : ∃ Y, Hid (nib X = Y) := ⟨_, hid rfl⟩
      rw [HY.out] at hY e3
      have e4 := and15 Y hY
      have e5 := nib_int Y hY
      obtain ⟨Z, HZ⟩ : ∃ Z, Hid (nib Y = Z) := ⟨_, hid rfl⟩
      rw [HZ.out] at e5
      have t1 := HT.out.2 (X % 16) (Nat.mod_lt _ (by decide))
      have t2 := HT.out.2 (Y % 16) (Nat.mod_lt _ (by decide))
      have j1 : X % 16 < 16 := Nat.mod_lt _ (by decide)
      have j2 : Y % 16 < 16 := Nat.mod_lt _ (by decide)
      generalize X % 16 = J1 at e2 e3 t1 j1
      generalize Y % 16 = J2 at e4 e5 t2 j2
      generalize tb J1 = T1 at e3 t1
      generalize tb J2 = T2 at e5 t2
      have HB := hid (show crcL 4294967295 (l.take (k + 1)) = Z by
        rw [take_snocL l k hlt, crcL_snoc, HSS.out, HX.out, crcB, HXX.out, HY.out, HZ.out])
      go_wp2
      go_round
      case rel => exact ⟨k + 1, by omega, by go_num, by rw [HB.out]⟩
      case measure => simp [intOf]; omega
    · have hkl : k = l.length := by omega
      have HR : Hid (R = 4294967295 - S) := by rw [HS.out, ← HSS.out, hkl]; exact rfl
      clear hkl
      go_wp2
      go_ret
      exact ⟨ret_int (by
        have e := u32_xor_nat 4294967295 S (by decide) hs
        rw [HR.out, sub_xor S hs]
        exact e), rfl⟩

theorem or8 (n : Nat) (x : UInt8) (h : n < 72057594037927936) : bits .or .u64 ((n : Int) * 256) (x.toNat : Int) = ((n * 256 + x.toNat : Nat) : Int) := by
  have hx := x.toNat_lt
  have := u64_or_nat (n * 256) x.toNat (by omega) (by omega)
  rw [show ((n * 256 : Nat) : Int) = (n : Int) * 256 by omega] at this
  rw [this]
  have e := Nat.shiftLeft_add_eq_or_of_lt (i := 8) (b := x.toNat) hx n
  rw [Nat.shiftLeft_eq] at e
  rw [show n * 256 = n * 2 ^ 8 by rfl, ← e]

set_option maxHeartbeats 400000 in
theorem number_any (l : List UInt8) (F : Nat → Prop) (v : Value) (w : World) (hl : l.length ≤ 8) (hr : Rd w F v l) :
    Calls Tryd.prog 65 #[v] w fun e w' => e = .returned (.int .u64 (numL l)) ∧ w' = w := by
  obtain ⟨a, b, off, c, rfl, hc, hn, ha, hcell⟩ := hr
  have HC := hid hcell
  have HA := hid ha
  clear hcell ha hn
  have HS : Hid (numL l = numL (l.take l.length)) := by rw [List.take_length]; exact rfl
  generalize numL l = R at HS
  go_enter Tryd.func65, Tryd.ntmps65
  go_wp2
  go_loop [3, 8] (fun sv iv => ∃ k : Nat, k ≤ l.length ∧ iv = .int .i64 k ∧ sv = .int .u64 (numL (l.take k))) (fun _ iv => l.length - (intOf iv).toNat)
  case atStart => exact ⟨0, Nat.zero_le _, rfl, rfl⟩
  case round =>
    obtain ⟨k, hk, rfl, rfl⟩ := hrel
    have hs := numL_lt k (l.take k) (by rw [List.length_take]; omega)
    obtain ⟨S, HSS⟩ : ∃ S, Hid (numL (l.take k) = S) := ⟨_, hid rfl⟩
    rw [HSS.out] at hs ⊢
    by_cases hlt : k < l.length
    · obtain ⟨rfl, hb, _⟩ := HA.out (by omega)
      have hck := HC.out k hlt
      obtain ⟨x, HX⟩ : ∃ x, Hid (l[k] = x) := ⟨_, hid rfl⟩
      rw [HX.out] at hck
      have hxb := u8_bd x
      have h7 : S < 72057594037927936 := by
        have : (256 : Nat) ^ k ≤ 256 ^ 7 := Nat.pow_le_pow_right (by decide) (by omega)
        have : (256 : Nat) ^ 7 = 72057594037927936 := by decide
        omega
      have e1 := or8 S x h7
      obtain ⟨Z, HZ⟩ : ∃ Z, Hid (S * 256 + x.toNat = Z) := ⟨_, hid rfl⟩
      rw [HZ.out] at e1
      have HB := hid (show numL (l.take (k + 1)) = Z by
        rw [take_snocL l k hlt, numL_snoc, HSS.out, HX.out, HZ.out])
      clear hs
      go_wp2
      go_round
      case rel => exact ⟨k + 1, by omega, by go_num, by rw [HB.out]⟩
      case measure => simp [intOf]; omega
    · have hkl : k = l.length := by omega
      have HR : Hid (R = S) := by rw [HS.out, ← HSS.out, hkl]; exact rfl
      clear hkl hs
      go_wp2
      go_ret
      exact ⟨ret_int (by rw [HR.out]), rfl⟩
end Go.Proofs.YtpbiofnncdneoaaDoor
