/- The walk of DigestPass. -/
import Derived.Test.YtmiojplbcjhggaaDoorRefP
import Derived.Test.YtmiojplbcjhggaaDoorExA
namespace Go.Proofs.YtmiojplbcjhggaaDoor
open Go Go.RowKit
open Go.RowKit (wrap32 wrap64)

/-- a word's cells. -/
def wdc (salt : List UInt8) (s : ByteArray) (r : Int) : List Value := Lib.byteCells salt ++ [.string s, .int .i64 r]
theorem wdc_length (salt : List UInt8) (s : ByteArray) (r : Int) (h : salt.length = 16) : (wdc salt s r).length = 18 := by simp [wdc, byteCells_length, h]
theorem wdc_one (salt : List UInt8) (s : ByteArray) (r : Int) : ∀ v ∈ wdc salt s r, v.oneCell' = true := by
  intro v hv
  unfold wdc at hv
  rcases List.mem_append.1 hv with h | h
  · exact bcs_one _ v h
  · simp at h
    rcases h with rfl | rfl <;> rfl
theorem wdc_16 (salt : List UInt8) (s : ByteArray) (r : Int) (h : salt.length = 16) : (wdc salt s r)[16]? = some (.string s) := by
  unfold wdc
  rw [List.getElem?_append_right (by rw [byteCells_length, h]; exact Nat.le_refl _), byteCells_length, h]
  rfl
theorem wdc_17 (salt : List UInt8) (s : ByteArray) (r : Int) (h : salt.length = 16) : (wdc salt s r)[17]? = some (.int .i64 r) := by
  unfold wdc
  rw [List.getElem?_append_right (by rw [byteCells_length, h]; omega), byteCells_length, h]
  rfl
def zwd : List Value := y16 ++ [.string ⟨#[]⟩, .int .i64 0]
theorem Tryd.zero55 : (Tryd.prog.info? 55).map (fun i => i.zero) = some (some (.agg zwd.toArray)) := by kernel_rfl
theorem Tryd.size55 : (Tryd.prog.info? 55).map (·.size) = some 18 := by kernel_rfl
/-- a row of words. -/
def RowsWd (W : World) (a : Option Addr) (b o n : Nat) (S : Nat → List UInt8) (T : Nat → ByteArray) (R : Nat → Int) : Prop :=
  (0 < n → a = some ⟨b, o, none⟩ ∧ b < W.heap.size) ∧ ∀ i, i < n → (S i).length = 16 ∧ (T i).size ≤ 140737488355328 ∧ -9223372036854775808 ≤ R i ∧ R i < 9223372036854775808 ∧ W.rangeAt b (o + i * 18) (wdc (S i) (T i) (R i))
theorem range_on {W u : World} {b o : Nat} {vs : List Value} (h : W.rangeAt b o vs) (hb : b < W.heap.size) (hg : W.grownBy u none) : u.rangeAt b o vs := fun j v hv => by
  rw [cell_at hg hb (by simp)]
  exact h j v hv
theorem RowsWd.on {W u : World} {a : Option Addr} {b o n : Nat} {S : Nat → List UInt8} {T : Nat → ByteArray} {R : Nat → Int} (h : RowsWd W a b o n S T R) (hg : W.grownBy u none) : RowsWd u a b o n S T R :=
  ⟨fun h0 => ⟨(h.1 h0).1, Nat.lt_of_lt_of_le (h.1 h0).2 hg.size⟩, fun i hi => ⟨(h.2 i hi).1, (h.2 i hi).2.1, (h.2 i hi).2.2.1, (h.2 i hi).2.2.2.1, range_on (h.2 i hi).2.2.2.2 (h.1 (by omega)).2 hg⟩⟩

set_option maxRecDepth 100000 in
set_option maxHeartbeats 1600000 in
theorem pass_walk (w : World) (a : Option Addr) (b o n c : Nat) (S0 : Nat → List UInt8) (T0 : Nat → ByteArray) (R0 : Nat → Int) (hG : Glob w) (hn : n ≤ 140737488355328)
    (hA : RowsWd w a b o n S0 T0 R0) :
    Calls Tryd.prog 7 #[.slice a n c] w fun e w' => e = .returned (.bool true) ∧ w.grownBy w' none := by
  have HWk : Hid (∀ u, w.grownBy u none → Calls Tryd.prog 15 #[] u fun e w' => e = .returned (.bool true) ∧ u.grownBy w' none) := fun u hu => wakes_any u (hG.keep hu)
  have HA : Hid (∀ u, w.grownBy u none → RowsWd u a b o n S0 T0 R0) := fun u hu => hA.on hu
  have HGl : Hid (∀ u, w.grownBy u none → Glob u) := fun u hu => hG.keep hu
  clear hA hG
  go_enter Tryd.func7, Tryd.ntmps7
  go_wp2_with fail
  go_loopw [3, 4] (fun sv iv wr => ∃ (s i : Nat), sv = .int .i64 s ∧ iv = .int .i64 i ∧ i ≤ n ∧ Hid (s ≤ 12000) ∧ Hid (w.grownBy wr none)) (fun _ iv _ => n - (intOf iv).toNat)
  case atStart => exact ⟨0, 0, rfl, rfl, Nat.zero_le _, hid (Nat.zero_le _), hid (grefl _ _)⟩
  case round =>
    obtain ⟨s, i, rfl, rfl, hi, HS20, HG⟩ := hrel
    by_cases hlt : i < n
    · have i1 : (i : Int) < (n : Int) := by omega
      obtain ⟨rfl, hb0⟩ := (HA.out w (grefl _ _)).1 (by omega)
      obtain ⟨hsl, htl, hr0, hr1, -⟩ := (HA.out w (grefl _ _)).2 i hlt
      have HRg : Hid (∀ u, w.grownBy u none → u.rangeAt b (o + i * 18) (wdc (S0 i) (T0 i) (R0 i))) := fun u hu => ((HA.out u hu).2 i hlt).2.2.2.2
      obtain ⟨salt, HSa⟩ : ∃ x, Hid (S0 i = x) := ⟨_, hid rfl⟩
      obtain ⟨tx, HTx⟩ : ∃ x, Hid (T0 i = x) := ⟨_, hid rfl⟩
      obtain ⟨r, HRx⟩ : ∃ x, Hid (R0 i = x) := ⟨_, hid rfl⟩
      rw [HSa.out] at hsl
      rw [HTx.out] at htl
      rw [HRx.out] at hr0 hr1
      rw [HSa.out, HTx.out, HRx.out] at HRg
      clear HSa HTx HRx
      have HWL := hid (wdc_length salt tx r hsl)
      have HW1 := hid (wdc_one salt tx r)
      obtain ⟨CS, HCS⟩ : ∃ x, Hid (wdc salt tx r = x) := ⟨_, hid rfl⟩
      obtain ⟨S, HSe⟩ : ∃ x, Hid (Lib.byteCells salt = x) := ⟨_, hid rfl⟩
      have HSL : Hid (S.length = 16) := hid (by rw [← HSe.out, byteCells_length]; exact hsl)
      have HBc : Hid (∀ (u : World) (bb : Nat), Blk u bb CS 55 → u.cell? ⟨bb, 16, none⟩ = some (.string tx) ∧ u.cell? ⟨bb, 17, none⟩ = some (.int .i64 r)) := hid (fun u bb h => by
        rw [← HCS.out] at h
        exact ⟨by rw [h.cell]; exact wdc_16 _ _ _ hsl, by rw [h.cell]; exact wdc_17 _ _ _ hsl⟩)
      have HBr : Hid (∀ (u : World) (bb : Nat), Blk u bb CS 55 → u.rangeAt bb 0 S) := hid (fun u bb h => by
        rw [← HCS.out] at h
        rw [← HSe.out]
        exact h.range [] (Lib.byteCells salt) [.string tx, .int .i64 r] 0 rfl rfl)
      rw [HCS.out] at HRg HWL HW1
      have HSl := hid hsl
      obtain ⟨N, HN⟩ : ∃ N, Hid (tx.size = N) := ⟨_, hid rfl⟩
      have hNs : tx.size = N := HN.out
      rw [hNs] at htl
      obtain ⟨Y, hY⟩ : ∃ x : Int, (N : Int) = x := ⟨_, rfl⟩
      obtain ⟨T, hT⟩ : ∃ x : Int, (s : Int) = x := ⟨_, rfl⟩
      have t0 : 0 ≤ T := by omega
      have t1 : T ≤ 12000 := by have := HS20.out; omega
      have w0 : 0 ≤ Y := by omega
      have w1 : Y ≤ 140737488355328 := by omega
      clear hsl htl
      have HYe := hid hY
      by_cases hbig : 1048576 < Y
      · skip
        go_wp2_with (first
          | (refine wpList_load_part rfl 55 _ rfl b (o + i * 18) CS _ rfl (HRg.out _ HG.out) Tryd.underlying55 rfl (by rw [HWL.out]; exact Tryd.size55) ?_)
          | (refine wpList_alloc_row rfl 55 rfl zwd Tryd.zero55 ?_; intro u2 B2 s2 g2; have HB2 := hid B2; have HU2 := hid (gtrans HG.out g2); have HS2 := hid s2; clear B2 g2 s2)
          | (refine wpList_store_all rfl 55 _ _ rfl _ zwd CS 55 rfl rfl HB2.out (by rw [HWL.out]; rfl) (by rw [HWL.out]; exact Tryd.size55) HW1.out ?_; intro u3 B3 g3 s3; have HB3 := hid B3; have HU3 := hid (HU2.out.andThen g3 (fun j hj => .inl (by injection hj with hj; have := HG.out.size; omega))); have HS3 := hid s3; clear B3 g3 s3; obtain ⟨y16, y17⟩ := HBc.out _ _ HB3.out))
        go_roundw
        case rel => exact ⟨s, i + 1, by rw [hT], by go_num, by omega, HS20, HU3⟩
        case measure => simp [intOf]; omega
      · have hsm : Y ≤ 1048576 := by omega
        have HN20 : Hid (N ≤ 1048576) := hid (by have := HYe.out; omega)
        by_cases hr1' : 0 < r
        · by_cases hr2' : r ≤ 4096
          · by_cases hsum : 12000 < T + r + Y / 64
            · skip
              go_wp2_with (first
                | (refine wpList_load_part rfl 55 _ rfl b (o + i * 18) CS _ rfl (HRg.out _ HG.out) Tryd.underlying55 rfl (by rw [HWL.out]; exact Tryd.size55) ?_)
                | (refine wpList_alloc_row rfl 55 rfl zwd Tryd.zero55 ?_; intro u2 B2 s2 g2; have HB2 := hid B2; have HU2 := hid (gtrans HG.out g2); have HS2 := hid s2; clear B2 g2 s2)
                | (refine wpList_store_all rfl 55 _ _ rfl _ zwd CS 55 rfl rfl HB2.out (by rw [HWL.out]; rfl) (by rw [HWL.out]; exact Tryd.size55) HW1.out ?_; intro u3 B3 g3 s3; have HB3 := hid B3; have HU3 := hid (HU2.out.andThen g3 (fun j hj => .inl (by injection hj with hj; have := HG.out.size; omega))); have HS3 := hid s3; clear B3 g3 s3; obtain ⟨y16, y17⟩ := HBc.out _ _ HB3.out)
                | (go_at_call 15; (with_reducible refine (HWk.out _ HU3.out).mono ?_); rintro e w9 ⟨rfl, hg9⟩; have HG9 := hid hg9; clear hg9))
              go_ret
              exact ⟨rfl, gtrans HU3.out HG9.out⟩
            · obtain ⟨rn, hrn⟩ : ∃ rn : Nat, r = (rn : Int) := ⟨r.toNat, by omega⟩
              obtain ⟨P, HP⟩ : ∃ x, Hid (passN salt tx.data.toList (rn - 1) = x) := ⟨_, hid rfl⟩
              have HCl : Hid (P.length = 32) := hid (by rw [← HP.out]; exact passN_length _ _ _)
              obtain ⟨C, HCe⟩ : ∃ x, Hid (Lib.byteCells P = x) := ⟨_, hid rfl⟩
              have HPr : Hid (∀ u, w.grownBy u none → Calls Tryd.prog 26 #[.agg S.toArray, .string tx, .int .i64 r] u fun e w' => e = .returned (.tuple #[.agg C.toArray, .int .i64 0]) ∧ u.grownBy w' none) := fun u hu => by
                rw [← HCe.out, ← HP.out, ← HSe.out, hrn]
                exact passR_ok u salt tx rn (by omega) (by omega) HSl.out (by rw [HN.out]; exact HN20.out)
              have HPd : Hid (∀ u, w.grownBy u none → Calls Tryd.prog 27 #[.agg S.toArray, .string tx, .int .i64 r] u fun e w' => e = .returned (.tuple #[.agg C.toArray, .int .i64 0]) ∧ u.grownBy w' none) := fun u hu => by
                rw [← HCe.out, ← HP.out, ← HSe.out, hrn]
                exact pass_ok u salt tx rn (by omega) (by omega) HSl.out (HGl.out u hu) (by rw [HN.out]; have := HN20.out; omega)
              have HRN := hid hrn
              clear hrn
              have HNe : Hid (∀ (x y : Operand) (u : World), (do eqGuard .neq 24 x y (.agg C.toArray) (.agg C.toArray); binOp .neq 24 (.agg C.toArray) (.agg C.toArray) : Sem Value).run Tryd.prog u = .ok (.bool false) u) := fun x y u => by
                rw [← HCe.out, neqG_32]
                exact neq_self _ HCl.out u
              have HCL : Hid (C.length = 32) := hid (by rw [← HCe.out, byteCells_length]; exact HCl.out)
              have HC1 : Hid (∀ v ∈ C, v.oneCell' = true) := hid (by rw [← HCe.out]; exact bcs_one _)
              go_wp2_with (first
                | (refine wpList_load_part rfl 55 _ rfl b (o + i * 18) CS _ rfl (HRg.out _ HG.out) Tryd.underlying55 rfl (by rw [HWL.out]; exact Tryd.size55) ?_)
                | (refine wpList_alloc_row rfl 55 rfl zwd Tryd.zero55 ?_; intro u2 B2 s2 g2; have HB2 := hid B2; have HU2 := hid (gtrans HG.out g2); have HS2 := hid s2; clear B2 g2 s2)
                | (refine wpList_store_all rfl 55 _ _ rfl _ zwd CS 55 rfl rfl HB2.out (by rw [HWL.out]; rfl) (by rw [HWL.out]; exact Tryd.size55) HW1.out ?_; intro u3 B3 g3 s3; have HB3 := hid B3; have HU3 := hid (HU2.out.andThen g3 (fun j hj => .inl (by injection hj with hj; have := HG.out.size; omega))); have HS3 := hid s3; clear B3 g3 s3; obtain ⟨y16, y17⟩ := HBc.out _ _ HB3.out)
                | (refine wpList_load_part rfl 53 _ rfl wr.heap.size 0 S _ rfl (HBr.out _ _ HB3.out) Tryd.underlying53 rfl (by rw [HSL.out]; exact Tryd.size53) ?_)
                | (have := HU3; clear this; go_at_call 26; (refine (HPr.out _ HU3.out).mono ?_); rintro e u4 ⟨rfl, hg4⟩; have HU4 := hid (gtrans HU3.out hg4); have HB4 := hid (HB3.out.keep hg4); obtain ⟨y16, y17⟩ := HBc.out _ _ HB4.out; clear hg4)
                | (refine wpList_alloc_row rfl 24 rfl y32 Tryd.zero24 ?_; intro u5 B5 s5 g5; have HD5 := hid B5; have HU5 := hid (gtrans HU4.out g5); have HB5 := hid (HB4.out.keep g5); have HS5 := hid s5; clear B5 g5 s5)
                | (refine wpList_store_all rfl 24 _ _ rfl u4.heap.size y32 C 24 rfl rfl HD5.out (by rw [HCL.out]; rfl) (by rw [HCL.out]; exact Tryd.size24) HC1.out ?_; intro u6 B6 g6 s6; have HD6 := hid B6; have HU6 := hid (HU5.out.andThen g6 (fun j hj => .inl (by injection hj with hj; have := HU4.out.size; omega))); have HB6 := hid (HB5.out.on g6 (fun e => by have e' : u4.heap.size = wr.heap.size := Option.some.inj e; have := HB4.out.lt; omega)); have HS6 := hid s6; obtain ⟨y16, y17⟩ := HBc.out _ _ HB6.out; clear B6 g6 s6)
                | (have := HU6; clear this; refine wpList_load_part rfl 53 _ rfl wr.heap.size 0 S _ rfl (HBr.out _ _ HB6.out) Tryd.underlying53 rfl (by rw [HSL.out]; exact Tryd.size53) ?_)
                | (have := HU6; clear this; go_at_call 27; (refine (HPd.out _ HU6.out).mono ?_); rintro e u7 ⟨rfl, hg7⟩; have HU7 := hid (gtrans HU6.out hg7); have HD7 := hid (HD6.out.keep hg7); clear hg7)
                | (have := HU7; clear this; refine wpList_alloc_row rfl 24 rfl y32 Tryd.zero24 ?_; intro u8 B8 s8 g8; have HE8 := hid B8; have HU8 := hid (gtrans HU7.out g8); have HD8 := hid (HD7.out.keep g8); clear B8 g8 s8)
                | (have := HU8; clear this; refine wpList_store_all rfl 24 _ _ rfl u7.heap.size y32 C 24 rfl rfl HE8.out (by rw [HCL.out]; rfl) (by rw [HCL.out]; exact Tryd.size24) HC1.out ?_; intro u9 B9 g9 s9; have HE9 := hid B9; have HU9 := hid (HU8.out.andThen g9 (fun j hj => .inl (by injection hj with hj; have := HU7.out.size; omega))); have HD9 := hid (HD8.out.on g9 (fun e => by have e' : u7.heap.size = u4.heap.size := Option.some.inj e; have := HD7.out.lt; omega)); clear B9 g9 s9)
                | (refine wpList_load_part rfl 24 _ rfl u7.heap.size 0 C _ rfl HE9.out.whole Tryd.underlying24 rfl (by rw [HCL.out]; exact Tryd.size24) ?_)
                | (refine wpList_load_part rfl 24 _ rfl u4.heap.size 0 C _ rfl HD9.out.whole Tryd.underlying24 rfl (by rw [HCL.out]; exact Tryd.size24) ?_)
                | (with_reducible refine wpList_bin (by with_unfolding_all rfl) .neq 24 _ _ _ (by with_unfolding_all rfl) _ _ _ (by with_unfolding_all rfl) (by with_unfolding_all rfl) (HNe.out _ _ _) ?_)
                | (go_at_call 28; refine (num_any _ _).mono ?_; rintro e w' ⟨rfl, hw⟩; have hw' := hw.symm; clear hw; subst hw'))
              go_roundw
              case rel => exact ⟨(T + r + Y / 64).toNat, i + 1, by rw [show (((T + r + Y / 64).toNat : Nat) : Int) = T + r + Y / 64 by omega], by go_num, by omega, hid (by omega), HU9⟩
              case measure => simp [intOf]; omega
          · skip
            have HCl : Hid ((List.replicate 32 (0 : UInt8)).length = 32) := hid rfl
            obtain ⟨C, HCe⟩ : ∃ x, Hid (Lib.byteCells (List.replicate 32 (0 : UInt8)) = x) := ⟨_, hid rfl⟩
            have HPr : Hid (∀ u, w.grownBy u none → Calls Tryd.prog 26 #[.agg S.toArray, .string tx, .int .i64 r] u fun e w' => e = .returned (.tuple #[.agg C.toArray, .int .i64 40]) ∧ u.grownBy w' none) := fun u hu => by
              rw [← HCe.out, ← HSe.out]
              exact passR_no u salt tx r (by omega)
            have HPd : Hid (∀ u, w.grownBy u none → Calls Tryd.prog 27 #[.agg S.toArray, .string tx, .int .i64 r] u fun e w' => e = .returned (.tuple #[.agg C.toArray, .int .i64 40]) ∧ u.grownBy w' none) := fun u hu => by
              rw [← HCe.out, ← HSe.out]
              exact pass_no u salt tx r (by omega)
            have HNe : Hid (∀ (x y : Operand) (u : World), (do eqGuard .neq 24 x y (.agg C.toArray) (.agg C.toArray); binOp .neq 24 (.agg C.toArray) (.agg C.toArray) : Sem Value).run Tryd.prog u = .ok (.bool false) u) := fun x y u => by
              rw [← HCe.out, neqG_32]
              exact neq_self _ HCl.out u
            have HCL : Hid (C.length = 32) := hid (by rw [← HCe.out, byteCells_length]; exact HCl.out)
            have HC1 : Hid (∀ v ∈ C, v.oneCell' = true) := hid (by rw [← HCe.out]; exact bcs_one _)
            go_wp2_with (first
              | (refine wpList_load_part rfl 55 _ rfl b (o + i * 18) CS _ rfl (HRg.out _ HG.out) Tryd.underlying55 rfl (by rw [HWL.out]; exact Tryd.size55) ?_)
              | (refine wpList_alloc_row rfl 55 rfl zwd Tryd.zero55 ?_; intro u2 B2 s2 g2; have HB2 := hid B2; have HU2 := hid (gtrans HG.out g2); have HS2 := hid s2; clear B2 g2 s2)
              | (refine wpList_store_all rfl 55 _ _ rfl _ zwd CS 55 rfl rfl HB2.out (by rw [HWL.out]; rfl) (by rw [HWL.out]; exact Tryd.size55) HW1.out ?_; intro u3 B3 g3 s3; have HB3 := hid B3; have HU3 := hid (HU2.out.andThen g3 (fun j hj => .inl (by injection hj with hj; have := HG.out.size; omega))); have HS3 := hid s3; clear B3 g3 s3; obtain ⟨y16, y17⟩ := HBc.out _ _ HB3.out)
              | (refine wpList_load_part rfl 53 _ rfl wr.heap.size 0 S _ rfl (HBr.out _ _ HB3.out) Tryd.underlying53 rfl (by rw [HSL.out]; exact Tryd.size53) ?_)
              | (have := HU3; clear this; go_at_call 26; (refine (HPr.out _ HU3.out).mono ?_); rintro e u4 ⟨rfl, hg4⟩; have HU4 := hid (gtrans HU3.out hg4); have HB4 := hid (HB3.out.keep hg4); obtain ⟨y16, y17⟩ := HBc.out _ _ HB4.out; clear hg4)
              | (refine wpList_alloc_row rfl 24 rfl y32 Tryd.zero24 ?_; intro u5 B5 s5 g5; have HD5 := hid B5; have HU5 := hid (gtrans HU4.out g5); have HB5 := hid (HB4.out.keep g5); have HS5 := hid s5; clear B5 g5 s5)
              | (refine wpList_store_all rfl 24 _ _ rfl u4.heap.size y32 C 24 rfl rfl HD5.out (by rw [HCL.out]; rfl) (by rw [HCL.out]; exact Tryd.size24) HC1.out ?_; intro u6 B6 g6 s6; have HD6 := hid B6; have HU6 := hid (HU5.out.andThen g6 (fun j hj => .inl (by injection hj with hj; have := HU4.out.size; omega))); have HB6 := hid (HB5.out.on g6 (fun e => by have e' : u4.heap.size = wr.heap.size := Option.some.inj e; have := HB4.out.lt; omega)); have HS6 := hid s6; obtain ⟨y16, y17⟩ := HBc.out _ _ HB6.out; clear B6 g6 s6)
              | (have := HU6; clear this; refine wpList_load_part rfl 53 _ rfl wr.heap.size 0 S _ rfl (HBr.out _ _ HB6.out) Tryd.underlying53 rfl (by rw [HSL.out]; exact Tryd.size53) ?_)
              | (have := HU6; clear this; go_at_call 27; (refine (HPd.out _ HU6.out).mono ?_); rintro e u7 ⟨rfl, hg7⟩; have HU7 := hid (gtrans HU6.out hg7); have HD7 := hid (HD6.out.keep hg7); clear hg7)
              | (have := HU7; clear this; refine wpList_alloc_row rfl 24 rfl y32 Tryd.zero24 ?_; intro u8 B8 s8 g8; have HE8 := hid B8; have HU8 := hid (gtrans HU7.out g8); have HD8 := hid (HD7.out.keep g8); clear B8 g8 s8)
              | (have := HU8; clear this; refine wpList_store_all rfl 24 _ _ rfl u7.heap.size y32 C 24 rfl rfl HE8.out (by rw [HCL.out]; rfl) (by rw [HCL.out]; exact Tryd.size24) HC1.out ?_; intro u9 B9 g9 s9; have HE9 := hid B9; have HU9 := hid (HU8.out.andThen g9 (fun j hj => .inl (by injection hj with hj; have := HU7.out.size; omega))); have HD9 := hid (HD8.out.on g9 (fun e => by have e' : u7.heap.size = u4.heap.size := Option.some.inj e; have := HD7.out.lt; omega)); clear B9 g9 s9)
              | (refine wpList_load_part rfl 24 _ rfl u7.heap.size 0 C _ rfl HE9.out.whole Tryd.underlying24 rfl (by rw [HCL.out]; exact Tryd.size24) ?_)
              | (refine wpList_load_part rfl 24 _ rfl u4.heap.size 0 C _ rfl HD9.out.whole Tryd.underlying24 rfl (by rw [HCL.out]; exact Tryd.size24) ?_)
              | (with_reducible refine wpList_bin (by with_unfolding_all rfl) .neq 24 _ _ _ (by with_unfolding_all rfl) _ _ _ (by with_unfolding_all rfl) (by with_unfolding_all rfl) (HNe.out _ _ _) ?_)
              | (go_at_call 28; refine (num_any _ _).mono ?_; rintro e w' ⟨rfl, hw⟩; have hw' := hw.symm; clear hw; subst hw'))
            go_roundw
            case rel => exact ⟨s, i + 1, by rw [show ((s : Nat) : Int) = T by omega], by go_num, by omega, hid (by omega), HU9⟩
            case measure => simp [intOf]; omega
        · skip
          have HCl : Hid ((List.replicate 32 (0 : UInt8)).length = 32) := hid rfl
          obtain ⟨C, HCe⟩ : ∃ x, Hid (Lib.byteCells (List.replicate 32 (0 : UInt8)) = x) := ⟨_, hid rfl⟩
          have HPr : Hid (∀ u, w.grownBy u none → Calls Tryd.prog 26 #[.agg S.toArray, .string tx, .int .i64 r] u fun e w' => e = .returned (.tuple #[.agg C.toArray, .int .i64 40]) ∧ u.grownBy w' none) := fun u hu => by
            rw [← HCe.out, ← HSe.out]
            exact passR_no u salt tx r (by omega)
          have HPd : Hid (∀ u, w.grownBy u none → Calls Tryd.prog 27 #[.agg S.toArray, .string tx, .int .i64 r] u fun e w' => e = .returned (.tuple #[.agg C.toArray, .int .i64 40]) ∧ u.grownBy w' none) := fun u hu => by
            rw [← HCe.out, ← HSe.out]
            exact pass_no u salt tx r (by omega)
          have HNe : Hid (∀ (x y : Operand) (u : World), (do eqGuard .neq 24 x y (.agg C.toArray) (.agg C.toArray); binOp .neq 24 (.agg C.toArray) (.agg C.toArray) : Sem Value).run Tryd.prog u = .ok (.bool false) u) := fun x y u => by
            rw [← HCe.out, neqG_32]
            exact neq_self _ HCl.out u
          have HCL : Hid (C.length = 32) := hid (by rw [← HCe.out, byteCells_length]; exact HCl.out)
          have HC1 : Hid (∀ v ∈ C, v.oneCell' = true) := hid (by rw [← HCe.out]; exact bcs_one _)
          go_wp2_with (first
            | (refine wpList_load_part rfl 55 _ rfl b (o + i * 18) CS _ rfl (HRg.out _ HG.out) Tryd.underlying55 rfl (by rw [HWL.out]; exact Tryd.size55) ?_)
            | (refine wpList_alloc_row rfl 55 rfl zwd Tryd.zero55 ?_; intro u2 B2 s2 g2; have HB2 := hid B2; have HU2 := hid (gtrans HG.out g2); have HS2 := hid s2; clear B2 g2 s2)
            | (refine wpList_store_all rfl 55 _ _ rfl _ zwd CS 55 rfl rfl HB2.out (by rw [HWL.out]; rfl) (by rw [HWL.out]; exact Tryd.size55) HW1.out ?_; intro u3 B3 g3 s3; have HB3 := hid B3; have HU3 := hid (HU2.out.andThen g3 (fun j hj => .inl (by injection hj with hj; have := HG.out.size; omega))); have HS3 := hid s3; clear B3 g3 s3; obtain ⟨y16, y17⟩ := HBc.out _ _ HB3.out)
            | (refine wpList_load_part rfl 53 _ rfl wr.heap.size 0 S _ rfl (HBr.out _ _ HB3.out) Tryd.underlying53 rfl (by rw [HSL.out]; exact Tryd.size53) ?_)
            | (have := HU3; clear this; go_at_call 26; (refine (HPr.out _ HU3.out).mono ?_); rintro e u4 ⟨rfl, hg4⟩; have HU4 := hid (gtrans HU3.out hg4); have HB4 := hid (HB3.out.keep hg4); obtain ⟨y16, y17⟩ := HBc.out _ _ HB4.out; clear hg4)
            | (refine wpList_alloc_row rfl 24 rfl y32 Tryd.zero24 ?_; intro u5 B5 s5 g5; have HD5 := hid B5; have HU5 := hid (gtrans HU4.out g5); have HB5 := hid (HB4.out.keep g5); have HS5 := hid s5; clear B5 g5 s5)
            | (refine wpList_store_all rfl 24 _ _ rfl u4.heap.size y32 C 24 rfl rfl HD5.out (by rw [HCL.out]; rfl) (by rw [HCL.out]; exact Tryd.size24) HC1.out ?_; intro u6 B6 g6 s6; have HD6 := hid B6; have HU6 := hid (HU5.out.andThen g6 (fun j hj => .inl (by injection hj with hj; have := HU4.out.size; omega))); have HB6 := hid (HB5.out.on g6 (fun e => by have e' : u4.heap.size = wr.heap.size := Option.some.inj e; have := HB4.out.lt; omega)); have HS6 := hid s6; obtain ⟨y16, y17⟩ := HBc.out _ _ HB6.out; clear B6 g6 s6)
            | (have := HU6; clear this; refine wpList_load_part rfl 53 _ rfl wr.heap.size 0 S _ rfl (HBr.out _ _ HB6.out) Tryd.underlying53 rfl (by rw [HSL.out]; exact Tryd.size53) ?_)
            | (have := HU6; clear this; go_at_call 27; (refine (HPd.out _ HU6.out).mono ?_); rintro e u7 ⟨rfl, hg7⟩; have HU7 := hid (gtrans HU6.out hg7); have HD7 := hid (HD6.out.keep hg7); clear hg7)
            | (have := HU7; clear this; refine wpList_alloc_row rfl 24 rfl y32 Tryd.zero24 ?_; intro u8 B8 s8 g8; have HE8 := hid B8; have HU8 := hid (gtrans HU7.out g8); have HD8 := hid (HD7.out.keep g8); clear B8 g8 s8)
            | (have := HU8; clear this; refine wpList_store_all rfl 24 _ _ rfl u7.heap.size y32 C 24 rfl rfl HE8.out (by rw [HCL.out]; rfl) (by rw [HCL.out]; exact Tryd.size24) HC1.out ?_; intro u9 B9 g9 s9; have HE9 := hid B9; have HU9 := hid (HU8.out.andThen g9 (fun j hj => .inl (by injection hj with hj; have := HU7.out.size; omega))); have HD9 := hid (HD8.out.on g9 (fun e => by have e' : u7.heap.size = u4.heap.size := Option.some.inj e; have := HD7.out.lt; omega)); clear B9 g9 s9)
            | (refine wpList_load_part rfl 24 _ rfl u7.heap.size 0 C _ rfl HE9.out.whole Tryd.underlying24 rfl (by rw [HCL.out]; exact Tryd.size24) ?_)
            | (refine wpList_load_part rfl 24 _ rfl u4.heap.size 0 C _ rfl HD9.out.whole Tryd.underlying24 rfl (by rw [HCL.out]; exact Tryd.size24) ?_)
            | (with_reducible refine wpList_bin (by with_unfolding_all rfl) .neq 24 _ _ _ (by with_unfolding_all rfl) _ _ _ (by with_unfolding_all rfl) (by with_unfolding_all rfl) (HNe.out _ _ _) ?_)
            | (go_at_call 28; refine (num_any _ _).mono ?_; rintro e w' ⟨rfl, hw⟩; have hw' := hw.symm; clear hw; subst hw'))
          go_roundw
          case rel => exact ⟨s, i + 1, by rw [show ((s : Nat) : Int) = T by omega], by go_num, by omega, hid (by omega), HU9⟩
          case measure => simp [intOf]; omega
    · have hge : ¬ (i : Int) < (n : Int) := by omega
      go_wp2_with (go_at_call 15; (with_reducible refine (HWk.out _ HG.out).mono ?_); rintro e w9 ⟨rfl, hg9⟩; have HG9 := hid hg9; clear hg9)
      go_ret
      exact ⟨rfl, gtrans HG.out HG9.out⟩
end Go.Proofs.YtmiojplbcjhggaaDoor
