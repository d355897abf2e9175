/- The walks of numberBytes, bytesOf. -/
import Derived.Test.YtmiojplbcjhggaaDoorWalkC
namespace Go.Proofs.YtmiojplbcjhggaaDoor
open Go Go.RowKit
open Go.RowKit (wrap32 wrap64)

/-- A row of m bytes with the first k of L laid. -/
def prt (L : List UInt8) (m k : Nat) : List Value := Lib.byteCells (L.take k) ++ List.replicate (m - k) (.int .u8 0)
theorem prt_zero (L : List UInt8) (m : Nat) : prt L m 0 = List.replicate m (.int .u8 0) := by simp [prt, Lib.byteCells]
theorem prt_length (L : List UInt8) (m k : Nat) (hL : L.length = m) (h : k ≤ m) : (prt L m k).length = m := by simp [prt, byteCells_length, hL]; omega
theorem prt_at (L : List UInt8) (m k : Nat) (hL : L.length = m) (h : k < m) : (prt L m k)[k]? = some (.int .u8 0) := by
  have e : (Lib.byteCells (L.take k)).length = k := by rw [byteCells_length, List.length_take]; omega
  rw [prt, List.getElem?_append_right (by omega), e, List.getElem?_replicate]
  simp
  omega
theorem prt_step (L : List UInt8) (m k : Nat) (hL : L.length = m) (h : k < m) : (prt L m k).set k (.int .u8 (L.getD k 0).toNat) = prt L m (k + 1) := by
  have e : (Lib.byteCells (L.take k)).length = k := by rw [byteCells_length, List.length_take]; omega
  have e1 : Lib.byteCells (L.take (k + 1)) = Lib.byteCells (L.take k) ++ [.int .u8 (L.getD k 0).toNat] := by
    rw [List.take_succ_eq_append_getElem (by omega), byteCells_append, List.getD_eq_getElem?_getD, List.getElem?_eq_getElem (by omega)]
    rfl
  have e2 : List.replicate (m - k) (Value.int .u8 0) = .int .u8 0 :: List.replicate (m - (k + 1)) (.int .u8 0) := by
    rw [show m - k = (m - (k + 1)) + 1 by omega, List.replicate_succ]
  unfold prt
  rw [e1, e2, List.set_append_right _ _ (by omega), e, Nat.sub_self, List.append_assoc]
  rfl
theorem prt_full (L : List UInt8) (m : Nat) (hL : L.length = m) : prt L m m = Lib.byteCells L := by
  rw [prt, List.take_of_length_le (by omega), Nat.sub_self]
  simp
theorem be_get (n m k : Nat) (h : k < m) : (be n m).getD k 0 = UInt8.ofNat (n / 256 ^ (m - 1 - k)) := by
  rw [List.getD_eq_getElem?_getD, be, List.getElem?_map, List.getElem?_range h]
  rfl
theorem byte_int (n m : Nat) : (n : Int) / 2 ^ (8 * m) % 256 = ((UInt8.ofNat (n / 256 ^ m)).toNat : Int) := by
  have e : (2 : Nat) ^ (8 * m) = 256 ^ m := by rw [Nat.pow_mul]
  have c : (n : Int) / 2 ^ (8 * m) % 256 = ((n / 2 ^ (8 * m) % 256 : Nat) : Int) := by
    rw [Int.natCast_emod, Int.natCast_ediv, Int.natCast_pow]; rfl
  rw [c, e, UInt8.toNat_ofNat']
theorem one_y8 : ∀ v ∈ y8, v.oneCell' = true := by intro v hv; rw [List.eq_of_mem_replicate hv]; rfl
theorem one_y32 : ∀ v ∈ y32, v.oneCell' = true := by intro v hv; rw [List.eq_of_mem_replicate hv]; rfl
theorem one_y64 : ∀ v ∈ y64, v.oneCell' = true := by intro v hv; rw [List.eq_of_mem_replicate hv]; rfl

set_option maxRecDepth 100000 in
set_option maxHeartbeats 1600000 in
theorem numberBytes_any (n : Nat) (_hn : n < 18446744073709551616) (w : World) :
    Calls Tryd.prog 48 #[.int .u64 n] w fun e w' => e = .returned (.agg (Lib.byteCells (be n 8)).toArray) ∧ w.grownBy w' none := by
  obtain ⟨L, HLe⟩ : ∃ L, Hid (be n 8 = L) := ⟨_, hid rfl⟩
  rw [HLe.out]
  have HLL : Hid (L.length = 8) := hid (by rw [← HLe.out, be_length])
  obtain ⟨R, HRe⟩ : ∃ R, Hid (Lib.byteCells L = R) := ⟨_, hid rfl⟩
  rw [HRe.out]
  go_enter Tryd.func48, Tryd.ntmps48
  go_wp2_with (first
    | (have := HB1; clear this; refine wpList_alloc_row rfl 90 rfl y8 Tryd.zero90 ?_; intro w2 B2 s2 g2; have HB2 := hid B2; have HG2 := hid g2; have HS2 := hid s2; clear B2 g2 s2)
    | (refine wpList_alloc_row rfl 90 rfl y8 Tryd.zero90 ?_; intro w1 B1 s1 g1; have HB1 := hid B1; have HG1 := hid g1; have HS1 := hid s1; clear B1 g1 s1)
    | (refine wpList_build_row rfl 90 rfl y8 Tryd.built90 ?_)
    | (refine wpList_store_all rfl 90 _ _ rfl _ y8 y8 90 rfl rfl HB2.out rfl Tryd.size90 one_y8 ?_; intro w4 B4 g4 s4; have HB4 := hid B4; have HG4 := hid g4; have HS4 := hid s4; clear B4 g4 s4))
  obtain ⟨b1, hb1⟩ : ∃ b1, b1 = w.heap.size := ⟨_, rfl⟩
  obtain ⟨b2, hb2⟩ : ∃ b2, b2 = w1.heap.size := ⟨_, rfl⟩
  rw [← hb1, ← hb2]
  rw [← hb1] at HB1
  rw [← hb2] at HB2 HB4 HG4
  have HN := hid (show b1 ≠ b2 ∧ w.heap.size ≤ b2 ∧ w.heap.size ≤ b1 by have := HS1.out; omega)
  have HG := hid ((gtrans HG1.out HG2.out).andThen HG4.out (fun j hj => .inl (by injection hj with hj; have := HN.out; omega)))
  have HB14 := hid ((HB1.out.keep HG2.out).on HG4.out (by simp; exact fun e => HN.out.1 e.symm))
  clear hb1 hb2 HG1 HG2 HG4 HS1 HS2 HS4 HB1 HB2
  go_loopw [6] (fun iv wr => ∃ k : Nat, k ≤ 8 ∧ iv = .int .i64 k ∧ Hid (Blk wr b2 (prt L 8 k) 90) ∧ Hid (w4.grownBy wr (some b2))) (fun iv _ => 8 - (intOf iv).toNat)
  case atStart => exact ⟨0, by omega, rfl, hid (by rw [prt_zero]; exact HB4.out), hid (grefl _ _)⟩
  case round =>
    obtain ⟨k, hk, rfl, HK, HW⟩ := hrel
    by_cases hlt : k < 8
    · have cw := HK.out.cell k
      rw [prt_at _ _ _ HLL.out hlt] at cw
      have cf := HK.out.frozen k
      have HV3 := hid (prt_step L 8 k HLL.out hlt)
      have HV : Hid (L.getD k 0 = UInt8.ofNat (n / 256 ^ (7 - k))) := hid (by rw [← HLe.out]; exact be_get n 8 k hlt)
      have HVI := hid (byte_int n (7 - k))
      go_wp2_with fail
      go_roundw
      case rel => exact ⟨k + 1, by omega, by go_num, hid (by rw [HVI.out, ← HV.out, ← HV3.out]; exact HK.out.set _ _), hid (gtrans HW.out (gset _ _ _))⟩
      case measure => simp [intOf]; omega
    · obtain rfl : k = 8 := by omega
      have HF := hid HK.out
      rw [prt_full _ _ HLL.out] at HF
      have HB1r := hid (HB14.out.on HW.out (by simp; exact fun e => HN.out.1 e.symm))
      have HRL : Hid ((Lib.byteCells L).length = 8) := hid (by rw [byteCells_length, HLL.out])
      have HR1 := hid (bcs_one L)
      rw [HRe.out] at HF HRL HR1
      clear HK
      go_wp2_with (first
        | (refine wpList_load_part rfl 90 _ rfl b2 0 R _ rfl HF.out.whole Tryd.underlying90 rfl (by rw [HRL.out]; exact Tryd.size90) ?_)
        | (refine wpList_store_all rfl 90 _ _ rfl b1 y8 R 90 rfl rfl HB1r.out (by rw [HRL.out]; rfl) (by rw [HRL.out]; exact Tryd.size90) HR1.out ?_; intro w6 B6 g6 s6; have HB6 := hid B6; have HG6 := hid g6; clear B6 g6 s6))
      refine bodyPost_ret (results_blk rfl _ b1 90 R _ rfl HB6.out Tryd.underlying90 rfl (by rw [HRL.out]; exact Tryd.size90)) rfl ?_
      exact ⟨rfl, (HG.out.andThen HW.out (fun j hj => .inl (by injection hj with hj; have := HN.out; omega))).andThen HG6.out (fun j hj => .inl (by injection hj with hj; have := HN.out; omega))⟩

theorem bytes_get (s : S8) (k : Nat) (h : k < 32) : s.bytes.getD k 0 = UInt8.ofNat (s.list.getD (k / 4) 0 / 256 ^ (3 - k % 4)) := by
  have hk : k = 0 ∨ k = 1 ∨ k = 2 ∨ k = 3 ∨ k = 4 ∨ k = 5 ∨ k = 6 ∨ k = 7 ∨ k = 8 ∨ k = 9 ∨ k = 10 ∨ k = 11 ∨ k = 12 ∨ k = 13 ∨ k = 14 ∨ k = 15 ∨ k = 16 ∨ k = 17 ∨ k = 18 ∨ k = 19 ∨ k = 20 ∨ k = 21 ∨ k = 22 ∨ k = 23 ∨ k = 24 ∨ k = 25 ∨ k = 26 ∨ k = 27 ∨ k = 28 ∨ k = 29 ∨ k = 30 ∨ k = 31 := by omega
  rcases hk with rfl | rfl | rfl | rfl | rfl | rfl | rfl | rfl | rfl | rfl | rfl | rfl | rfl | rfl | rfl | rfl | rfl | rfl | rfl | rfl | rfl | rfl | rfl | rfl | rfl | rfl | rfl | rfl | rfl | rfl | rfl | rfl <;> rfl
theorem list_lt {s : S8} (h : s.Ok) (i : Nat) : s.list.getD i 0 < 4294967296 := by
  refine getD_lt ?_ i
  intro x hx
  simp only [S8.list, List.mem_cons, List.not_mem_nil, or_false] at hx
  rcases hx with rfl | rfl | rfl | rfl | rfl | rfl | rfl | rfl
  · exact h.a
  · exact h.b
  · exact h.c
  · exact h.d
  · exact h.e
  · exact h.f
  · exact h.g
  · exact h.h
theorem byte_int4 (n m : Nat) (h : m < 4) : (n : Int) / 2 ^ (24 - 8 * m) % 256 = ((UInt8.ofNat (n / 256 ^ (3 - m))).toNat : Int) := by
  rw [show 24 - 8 * m = 8 * (3 - m) by omega]
  exact byte_int n (3 - m)

set_option maxRecDepth 100000 in
set_option maxHeartbeats 1600000 in
theorem bytesOf_any (s : S8) (ok : s.Ok) (w : World) :
    Calls Tryd.prog 37 #[.agg s.cells.toArray] w fun e w' => e = .returned (.agg (Lib.byteCells s.bytes).toArray) ∧ w.grownBy w' none := by
  obtain ⟨L, HLe⟩ : ∃ L, Hid (s.bytes = L) := ⟨_, hid rfl⟩
  obtain ⟨ss, HSS⟩ : ∃ ss, Hid (s.cells = ss) := ⟨_, hid rfl⟩
  have HOk := hid ok
  rw [HLe.out, HSS.out]
  have HLL : Hid (L.length = 32) := hid (by rw [← HLe.out, bytes_length])
  obtain ⟨R, HRe⟩ : ∃ R, Hid (Lib.byteCells L = R) := ⟨_, hid rfl⟩
  rw [HRe.out]
  clear ok
  go_enter Tryd.func37, Tryd.ntmps37
  go_wp2_with (first
    | (refine wpList_box_row rfl 72 _ rfl ss rfl ?_; intro w0 B0 s0 g0; have HB0 := hid B0; have HG0 := hid g0; have HS0 := hid s0; clear B0 g0 s0)
    | (have := HB1; clear this; refine wpList_alloc_row rfl 24 rfl y32 Tryd.zero24 ?_; intro w2 B2 s2 g2; have HB2 := hid B2; have HG2 := hid g2; have HS2 := hid s2; clear B2 g2 s2)
    | (refine wpList_alloc_row rfl 24 rfl y32 Tryd.zero24 ?_; intro w1 B1 s1 g1; have HB1 := hid B1; have HG1 := hid g1; have HS1 := hid s1; clear B1 g1 s1)
    | (refine wpList_build_row rfl 24 rfl y32 Tryd.built24 ?_)
    | (refine wpList_store_all rfl 24 _ _ rfl _ y32 y32 24 rfl rfl HB2.out rfl Tryd.size24 one_y32 ?_; intro w4 B4 g4 s4; have HB4 := hid B4; have HG4 := hid g4; have HS4 := hid s4; clear B4 g4 s4))
  obtain ⟨b0, hb0⟩ : ∃ b0, b0 = w.heap.size := ⟨_, rfl⟩
  obtain ⟨b1, hb1⟩ : ∃ b1, b1 = w0.heap.size := ⟨_, rfl⟩
  obtain ⟨b2, hb2⟩ : ∃ b2, b2 = w1.heap.size := ⟨_, rfl⟩
  rw [← hb0, ← hb1, ← hb2]
  rw [← hb0] at HB0
  rw [← hb1] at HB1
  rw [← hb2] at HB2 HB4 HG4
  have HN := hid (show b1 ≠ b2 ∧ b0 ≠ b2 ∧ w.heap.size ≤ b2 ∧ w.heap.size ≤ b1 by have := HS0.out; have := HS1.out; omega)
  have HG := hid ((gtrans HG0.out (gtrans HG1.out HG2.out)).andThen HG4.out (fun j hj => .inl (by injection hj with hj; have := HN.out; omega)))
  have HB14 := hid ((HB1.out.keep HG2.out).on HG4.out (by simp; exact fun e => HN.out.1 e.symm))
  have HB04 := hid (((HB0.out.keep HG1.out).keep HG2.out).on HG4.out (by simp; exact fun e => HN.out.2.1 e.symm))
  clear hb0 hb1 hb2 HG0 HG1 HG2 HG4 HS0 HS1 HS2 HS4 HB0 HB1 HB2
  go_loopw [6] (fun iv wr => ∃ k : Nat, k ≤ 32 ∧ iv = .int .i64 k ∧ Hid (Blk wr b2 (prt L 32 k) 24) ∧ Hid (w4.grownBy wr (some b2))) (fun iv _ => 32 - (intOf iv).toNat)
  case atStart => exact ⟨0, by omega, rfl, hid (by rw [prt_zero]; exact HB4.out), hid (grefl _ _)⟩
  case round =>
    obtain ⟨k, hk, rfl, HK, HW⟩ := hrel
    by_cases hlt : k < 32
    · have cw := HK.out.cell k
      rw [prt_at _ _ _ HLL.out hlt] at cw
      have cf := HK.out.frozen k
      have HV3 := hid (prt_step L 32 k HLL.out hlt)
      have HV : Hid (L.getD k 0 = UInt8.ofNat (s.list.getD (k / 4) 0 / 256 ^ (3 - k % 4))) := hid (by rw [← HLe.out]; exact bytes_get s k hlt)
      have cs := (HB04.out.on HW.out (by simp; exact fun e => HN.out.2.1 e.symm)).cell (k / 4)
      rw [← HSS.out, S8.cells, wcs_get _ _ (by show k / 4 < 8; omega)] at cs
      have hl4 := list_lt HOk.out (k / 4)
      generalize s.list.getD (k / 4) 0 = X at HV cs hl4
      have hk4 : k / 4 < 8 := by omega
      have hm4 : k % 4 < 4 := by omega
      have HVI := hid (byte_int4 X (k % 4) hm4)
      go_wp2_with fail
      go_roundw
      case rel => exact ⟨k + 1, by omega, by go_num, hid (by rw [HVI.out, ← HV.out, ← HV3.out]; exact HK.out.set _ _), hid (gtrans HW.out (gset _ _ _))⟩
      case measure => simp [intOf]; omega
    · obtain rfl : k = 32 := by omega
      have HF := hid HK.out
      rw [prt_full _ _ HLL.out] at HF
      have HB1r := hid (HB14.out.on HW.out (by simp; exact fun e => HN.out.1 e.symm))
      have HRL : Hid ((Lib.byteCells L).length = 32) := hid (by rw [byteCells_length, HLL.out])
      have HR1 := hid (bcs_one L)
      rw [HRe.out] at HF HRL HR1
      clear HK
      go_wp2_with (first
        | (refine wpList_load_part rfl 24 _ rfl b2 0 R _ rfl HF.out.whole Tryd.underlying24 rfl (by rw [HRL.out]; exact Tryd.size24) ?_)
        | (refine wpList_store_all rfl 24 _ _ rfl b1 y32 R 24 rfl rfl HB1r.out (by rw [HRL.out]; rfl) (by rw [HRL.out]; exact Tryd.size24) HR1.out ?_; intro w6 B6 g6 s6; have HB6 := hid B6; have HG6 := hid g6; clear B6 g6 s6))
      refine bodyPost_ret (results_blk rfl _ b1 24 R _ rfl HB6.out Tryd.underlying24 rfl (by rw [HRL.out]; exact Tryd.size24)) rfl ?_
      exact ⟨rfl, (HG.out.andThen HW.out (fun j hj => .inl (by injection hj with hj; have := HN.out; omega))).andThen HG6.out (fun j hj => .inl (by injection hj with hj; have := HN.out; omega))⟩
end Go.Proofs.YtmiojplbcjhggaaDoor
