/- hexed, known. -/
import Derived.Test.YtmiojplbcjhggabDoorKn
import Derived.Outline
namespace Go.Proofs.YtmiojplbcjhggabDoor
open Go Go.RowKit
open Go.RowKit (wrap32 wrap64)

theorem hexL_length (d : List UInt8) : (hexL d).length = 2 * d.length := by
  induction d with
  | nil => rfl
  | cons a r ih => rw [hexL, List.flatMap_cons, List.length_append]; show 2 + (hexL r).length = _; rw [ih, List.length_cons]; omega
theorem hexL_snoc (d : List UInt8) (b : UInt8) : hexL (d ++ [b]) = hexL d ++ [dg (b.toNat / 16), dg (b.toNat % 16)] := by simp [hexL]
def sb (l : List UInt8) : ByteArray := ⟨l.toArray⟩
theorem dgc0 (w : World) : (convert 5 9 (.int .u8 48)).run Tryd.prog w = .ok (.string (sb [48])) w := by kernel_rfl
theorem dgi0 (w : World) : (Instr.index 9 (.string { data := #[48, 49, 50, 51, 52, 53, 54, 55, 56, 57, 97, 98, 99, 100, 101, 102] }) (.int .u8 0)).run Tryd.prog w = .ok (.int .u8 48) w := by kernel_rfl
theorem dgc1 (w : World) : (convert 5 9 (.int .u8 49)).run Tryd.prog w = .ok (.string (sb [49])) w := by kernel_rfl
theorem dgi1 (w : World) : (Instr.index 9 (.string { data := #[48, 49, 50, 51, 52, 53, 54, 55, 56, 57, 97, 98, 99, 100, 101, 102] }) (.int .u8 1)).run Tryd.prog w = .ok (.int .u8 49) w := by kernel_rfl
theorem dgc2 (w : World) : (convert 5 9 (.int .u8 50)).run Tryd.prog w = .ok (.string (sb [50])) w := by kernel_rfl
theorem dgi2 (w : World) : (Instr.index 9 (.string { data := #[48, 49, 50, 51, 52, 53, 54, 55, 56, 57, 97, 98, 99, 100, 101, 102] }) (.int .u8 2)).run Tryd.prog w = .ok (.int .u8 50) w := by kernel_rfl
theorem dgc3 (w : World) : (convert 5 9 (.int .u8 51)).run Tryd.prog w = .ok (.string (sb [51])) w := by kernel_rfl
theorem dgi3 (w : World) : (Instr.index 9 (.string { data := #[48, 49, 50, 51, 52, 53, 54, 55, 56, 57, 97, 98, 99, 100, 101, 102] }) (.int .u8 3)).run Tryd.prog w = .ok (.int .u8 51) w := by kernel_rfl
theorem dgc4 (w : World) : (convert 5 9 (.int .u8 52)).run Tryd.prog w = .ok (.string (sb [52])) w := by kernel_rfl
theorem dgi4 (w : World) : (Instr.index 9 (.string { data := #[48, 49, 50, 51, 52, 53, 54, 55, 56, 57, 97, 98, 99, 100, 101, 102] }) (.int .u8 4)).run Tryd.prog w = .ok (.int .u8 52) w := by kernel_rfl
theorem dgc5 (w : World) : (convert 5 9 (.int .u8 53)).run Tryd.prog w = .ok (.string (sb [53])) w := by kernel_rfl
theorem dgi5 (w : World) : (Instr.index 9 (.string { data := #[48, 49, 50, 51, 52, 53, 54, 55, 56, 57, 97, 98, 99, 100, 101, 102] }) (.int .u8 5)).run Tryd.prog w = .ok (.int .u8 53) w := by kernel_rfl
theorem dgc6 (w : World) : (convert 5 9 (.int .u8 54)).run Tryd.prog w = .ok (.string (sb [54])) w := by kernel_rfl
theorem dgi6 (w : World) : (Instr.index 9 (.string { data := #[48, 49, 50, 51, 52, 53, 54, 55, 56, 57, 97, 98, 99, 100, 101, 102] }) (.int .u8 6)).run Tryd.prog w = .ok (.int .u8 54) w := by kernel_rfl
theorem dgc7 (w : World) : (convert 5 9 (.int .u8 55)).run Tryd.prog w = .ok (.string (sb [55])) w := by kernel_rfl
theorem dgi7 (w : World) : (Instr.index 9 (.string { data := #[48, 49, 50, 51, 52, 53, 54, 55, 56, 57, 97, 98, 99, 100, 101, 102] }) (.int .u8 7)).run Tryd.prog w = .ok (.int .u8 55) w := by kernel_rfl
theorem dgc8 (w : World) : (convert 5 9 (.int .u8 56)).run Tryd.prog w = .ok (.string (sb [56])) w := by kernel_rfl
theorem dgi8 (w : World) : (Instr.index 9 (.string { data := #[48, 49, 50, 51, 52, 53, 54, 55, 56, 57, 97, 98, 99, 100, 101, 102] }) (.int .u8 8)).run Tryd.prog w = .ok (.int .u8 56) w := by kernel_rfl
theorem dgc9 (w : World) : (convert 5 9 (.int .u8 57)).run Tryd.prog w = .ok (.string (sb [57])) w := by kernel_rfl
theorem dgi9 (w : World) : (Instr.index 9 (.string { data := #[48, 49, 50, 51, 52, 53, 54, 55, 56, 57, 97, 98, 99, 100, 101, 102] }) (.int .u8 9)).run Tryd.prog w = .ok (.int .u8 57) w := by kernel_rfl
theorem dgc10 (w : World) : (convert 5 9 (.int .u8 97)).run Tryd.prog w = .ok (.string (sb [97])) w := by kernel_rfl
theorem dgi10 (w : World) : (Instr.index 9 (.string { data := #[48, 49, 50, 51, 52, 53, 54, 55, 56, 57, 97, 98, 99, 100, 101, 102] }) (.int .u8 10)).run Tryd.prog w = .ok (.int .u8 97) w := by kernel_rfl
theorem dgc11 (w : World) : (convert 5 9 (.int .u8 98)).run Tryd.prog w = .ok (.string (sb [98])) w := by kernel_rfl
theorem dgi11 (w : World) : (Instr.index 9 (.string { data := #[48, 49, 50, 51, 52, 53, 54, 55, 56, 57, 97, 98, 99, 100, 101, 102] }) (.int .u8 11)).run Tryd.prog w = .ok (.int .u8 98) w := by kernel_rfl
theorem dgc12 (w : World) : (convert 5 9 (.int .u8 99)).run Tryd.prog w = .ok (.string (sb [99])) w := by kernel_rfl
theorem dgi12 (w : World) : (Instr.index 9 (.string { data := #[48, 49, 50, 51, 52, 53, 54, 55, 56, 57, 97, 98, 99, 100, 101, 102] }) (.int .u8 12)).run Tryd.prog w = .ok (.int .u8 99) w := by kernel_rfl
theorem dgc13 (w : World) : (convert 5 9 (.int .u8 100)).run Tryd.prog w = .ok (.string (sb [100])) w := by kernel_rfl
theorem dgi13 (w : World) : (Instr.index 9 (.string { data := #[48, 49, 50, 51, 52, 53, 54, 55, 56, 57, 97, 98, 99, 100, 101, 102] }) (.int .u8 13)).run Tryd.prog w = .ok (.int .u8 100) w := by kernel_rfl
theorem dgc14 (w : World) : (convert 5 9 (.int .u8 101)).run Tryd.prog w = .ok (.string (sb [101])) w := by kernel_rfl
theorem dgi14 (w : World) : (Instr.index 9 (.string { data := #[48, 49, 50, 51, 52, 53, 54, 55, 56, 57, 97, 98, 99, 100, 101, 102] }) (.int .u8 14)).run Tryd.prog w = .ok (.int .u8 101) w := by kernel_rfl
theorem dgc15 (w : World) : (convert 5 9 (.int .u8 102)).run Tryd.prog w = .ok (.string (sb [102])) w := by kernel_rfl
theorem dgi15 (w : World) : (Instr.index 9 (.string { data := #[48, 49, 50, 51, 52, 53, 54, 55, 56, 57, 97, 98, 99, 100, 101, 102] }) (.int .u8 15)).run Tryd.prog w = .ok (.int .u8 102) w := by kernel_rfl
theorem dg_conv (n : Nat) (h : n < 16) (w : World) : (convert 5 9 (.int .u8 ((dg n).toNat : Int))).run Tryd.prog w = .ok (.string (sb [dg n])) w := by
  have hk : n = 0 ∨ n = 1 ∨ n = 2 ∨ n = 3 ∨ n = 4 ∨ n = 5 ∨ n = 6 ∨ n = 7 ∨ n = 8 ∨ n = 9 ∨ n = 10 ∨ n = 11 ∨ n = 12 ∨ n = 13 ∨ n = 14 ∨ n = 15 := by omega
  rcases hk with rfl | rfl | rfl | rfl | rfl | rfl | rfl | rfl | rfl | rfl | rfl | rfl | rfl | rfl | rfl | rfl
  · exact dgc0 w
  · exact dgc1 w
  · exact dgc2 w
  · exact dgc3 w
  · exact dgc4 w
  · exact dgc5 w
  · exact dgc6 w
  · exact dgc7 w
  · exact dgc8 w
  · exact dgc9 w
  · exact dgc10 w
  · exact dgc11 w
  · exact dgc12 w
  · exact dgc13 w
  · exact dgc14 w
  · exact dgc15 w
theorem dg_index (n : Nat) (h : n < 16) (w : World) : (Instr.index 9 (.string { data := #[48, 49, 50, 51, 52, 53, 54, 55, 56, 57, 97, 98, 99, 100, 101, 102] }) (.int .u8 (n : Int))).run Tryd.prog w = .ok (.int .u8 ((dg n).toNat : Int)) w := by
  have hk : n = 0 ∨ n = 1 ∨ n = 2 ∨ n = 3 ∨ n = 4 ∨ n = 5 ∨ n = 6 ∨ n = 7 ∨ n = 8 ∨ n = 9 ∨ n = 10 ∨ n = 11 ∨ n = 12 ∨ n = 13 ∨ n = 14 ∨ n = 15 := by omega
  rcases hk with rfl | rfl | rfl | rfl | rfl | rfl | rfl | rfl | rfl | rfl | rfl | rfl | rfl | rfl | rfl | rfl
  · exact dgi0 w
  · exact dgi1 w
  · exact dgi2 w
  · exact dgi3 w
  · exact dgi4 w
  · exact dgi5 w
  · exact dgi6 w
  · exact dgi7 w
  · exact dgi8 w
  · exact dgi9 w
  · exact dgi10 w
  · exact dgi11 w
  · exact dgi12 w
  · exact dgi13 w
  · exact dgi14 w
  · exact dgi15 w
set_option maxRecDepth 100000 in
set_option maxHeartbeats 800000 in
theorem hexed_any (d : List UInt8) (hd : d.length = 32) (w : World) : Calls Tryd.prog 21 #[.agg (Lib.byteCells d).toArray] w fun e w' => e = .returned (.string (sb (hexL d))) ∧ w.grownBy w' none := by
  obtain ⟨cs, HCS⟩ : ∃ cs, Hid (Lib.byteCells d = cs) := ⟨_, hid rfl⟩
  have HD := hid hd
  rw [HCS.out]
  obtain ⟨R, HR⟩ : ∃ R, Hid (∀ n, n = 32 → sb (hexL (d.take n)) = R) := ⟨_, hid (fun n hn => by rw [hn])⟩
  have e0 : sb (hexL d) = R := by rw [← HR.out 32 rfl, List.take_of_length_le (by omega)]
  rw [e0]
  clear hd e0
  go_enter Tryd.func21, Tryd.ntmps21
  go_wp2_with (refine wpList_box_row rfl 26 _ rfl cs rfl ?_; intro w1 B1 s1 g1; have HB1 := hid B1; have HG1 := hid g1; clear B1 g1 s1)
  go_loopw [3, 4] (fun sv iv wr => ∃ k : Nat, k ≤ 32 ∧ iv = .int .i64 k ∧ sv = .string (sb (hexL (d.take k))) ∧ Hid (w1.grownBy wr none)) (fun _ iv _ => 32 - (intOf iv).toNat)
  case atStart => exact ⟨0, by omega, rfl, rfl, hid (grefl _ _)⟩
  case round =>
    obtain ⟨k, hk, rfl, rfl, HW⟩ := hrel
    by_cases hlt : k < 32
    · have hlt' : (k : Int) < 32 := by omega
      obtain ⟨x, HX⟩ : ∃ x, Hid (d.getD k 0 = x) := ⟨_, hid rfl⟩
      have cx : wr.cell? ⟨w.heap.size, k, none⟩ = some (.int .u8 x.toNat) := by
        rw [(HB1.out.keep HW.out).cell, ← HCS.out, bcs_get d k (by rw [HD.out]; exact hlt), HX.out]
      have hx := u8_bd x
      obtain ⟨q, hq⟩ : ∃ q, q = x.toNat / 16 := ⟨_, rfl⟩
      obtain ⟨r, hr⟩ : ∃ r, r = x.toNat % 16 := ⟨_, rfl⟩
      have e1 : (x.toNat : Int) / 16 = (q : Int) := by omega
      have e2 : (x.toNat : Int) % 16 = (r : Int) := by omega
      have i1 := dg_index q (by omega)
      have i2 := dg_index r (by omega)
      have c1 := dg_conv q (by omega)
      have c2 := dg_conv r (by omega)
      obtain ⟨S, HS⟩ : ∃ S, Hid (sb (hexL (d.take k)) = S) := ⟨_, hid rfl⟩
      have HSz : Hid (S.size = 2 * k) := hid (by rw [← HS.out]; show (hexL (d.take k)).toArray.size = _; rw [List.size_toArray, hexL_length, List.length_take, HD.out]; omega)
      rw [HS.out]
      have HN : Hid (sb (hexL (d.take (k + 1))) = S ++ sb [dg q] ++ sb [dg r]) := hid (by
        rw [← HS.out, List.take_succ_eq_append_getElem (by rw [HD.out]; exact hlt), hexL_snoc, hq, hr]
        have : d[k]'(by rw [HD.out]; exact hlt) = x := by rw [← HX.out, List.getD_eq_getElem?_getD, List.getElem?_eq_getElem (by rw [HD.out]; exact hlt)]; rfl
        rw [this]
        simp [sb, ByteArray.ext_iff, ByteArray.data_append])
      have s1 : ¬ 9223372036854775807 < S.size + (sb [dg q]).size := by have := HSz.out; show ¬ 9223372036854775807 < S.size + 1; omega
      have s2 : ¬ 9223372036854775807 < (S ++ sb [dg q]).size + (sb [dg r]).size := by have := HSz.out; rw [ByteArray.size_append]; show ¬ 9223372036854775807 < S.size + 1 + 1; omega
      clear hq hr
      go_wp2_with fail
      go_quiet (fail)
      go_wp2_with fail
      go_roundw
      case rel => exact ⟨k + 1, by omega, by go_num, by rw [HN.out], hid (gtrans HW.out (gdrew _ _ _))⟩
      case measure => simp [intOf]; omega
    · obtain rfl : k = 32 := by omega
      rw [HR.out 32 rfl]
      go_wp2_with fail
      go_ret
      exact ⟨rfl, gtrans HG1.out HW.out⟩
set_option maxRecDepth 100000 in
theorem known0 (w : World) : Calls Tryd.prog 22 #[.int .i64 0] w fun e w' => e = .returned (.string (sb (hexL (sumL (aaa 0))))) ∧ w' = w := by
  rw [kh0]
  go_enter Tryd.func22, Tryd.ntmps22
  go_wp2
  go_ret
  exact ⟨rfl, rfl⟩
set_option maxRecDepth 100000 in
theorem known1 (w : World) : Calls Tryd.prog 22 #[.int .i64 1] w fun e w' => e = .returned (.string (sb (hexL (sumL (aaa 1))))) ∧ w' = w := by
  rw [kh1]
  go_enter Tryd.func22, Tryd.ntmps22
  go_wp2
  go_ret
  exact ⟨rfl, rfl⟩
set_option maxRecDepth 100000 in
theorem known55 (w : World) : Calls Tryd.prog 22 #[.int .i64 55] w fun e w' => e = .returned (.string (sb (hexL (sumL (aaa 55))))) ∧ w' = w := by
  rw [kh55]
  go_enter Tryd.func22, Tryd.ntmps22
  go_wp2
  go_ret
  exact ⟨rfl, rfl⟩
set_option maxRecDepth 100000 in
theorem known56 (w : World) : Calls Tryd.prog 22 #[.int .i64 56] w fun e w' => e = .returned (.string (sb (hexL (sumL (aaa 56))))) ∧ w' = w := by
  rw [kh56]
  go_enter Tryd.func22, Tryd.ntmps22
  go_wp2
  go_ret
  exact ⟨rfl, rfl⟩
set_option maxRecDepth 100000 in
theorem known64 (w : World) : Calls Tryd.prog 22 #[.int .i64 64] w fun e w' => e = .returned (.string (sb (hexL (sumL (aaa 64))))) ∧ w' = w := by
  rw [kh64]
  go_enter Tryd.func22, Tryd.ntmps22
  go_wp2
  go_ret
  exact ⟨rfl, rfl⟩
end Go.Proofs.YtmiojplbcjhggabDoor
