/- The walk of spread. -/
import Derived.Test.YtmiojplbcjhggaaDoorWalkA
import Derived.Test.YtmiojplbcjhggaaDoorAgg
import Derived.Outline
namespace Go.Proofs.YtmiojplbcjhggaaDoor
open Go Go.RowKit
open Go.RowKit (wrap32 wrap64)

theorem one_z64 : ∀ v ∈ z64, v.oneCell' = true := by intro v hv; rw [List.eq_of_mem_replicate hv]; rfl
/-- The words' array with k of them laid. -/
def arr (l : List UInt8) (k : Nat) : List Value := wcs (wsN l k) ++ List.replicate (64 - k) (.int .u32 0)
theorem arr_zero (l : List UInt8) : arr l 0 = z64 := rfl
theorem arr_length (l : List UInt8) (k : Nat) (h : k ≤ 64) : (arr l k).length = 64 := by simp [arr, wcs_length, wsN_length]; omega
theorem arr_get (l : List UInt8) (k i : Nat) (h : i < k) : (arr l k)[i]? = some (.int .u32 ((wsN l k).getD i 0 : Nat)) := by
  have hi : i < (wsN l k).length := by rw [wsN_length]; exact h
  rw [arr, List.getElem?_append_left (by rw [wcs_length]; exact hi), wcs, List.getElem?_map, List.getElem?_eq_getElem hi, List.getD_eq_getElem?_getD, List.getElem?_eq_getElem hi]
  rfl
theorem arr_at (l : List UInt8) (k : Nat) (h : k < 64) : (arr l k)[k]? = some (.int .u32 0) := by
  rw [arr, List.getElem?_append_right (by rw [wcs_length, wsN_length]; exact Nat.le_refl _), wcs_length, wsN_length, List.getElem?_replicate]
  simp
  omega
theorem arr_step (l : List UInt8) (k : Nat) (h : k < 64) : (arr l k).set k (.int .u32 ((wsN l (k + 1)).getD k 0 : Nat)) = arr l (k + 1) := by
  have e1 : wcs (wsN l (k + 1)) = wcs (wsN l k) ++ [.int .u32 ((wsN l (k + 1)).getD k 0 : Nat)] := by
    have hk := wsN_getD_last l k
    rw [hk]
    show wcs (wsX l k (wsN l k)) = _
    simp [wsX, wcs]
  have e2 : List.replicate (64 - k) (Value.int .u32 0) = .int .u32 0 :: List.replicate (64 - (k + 1)) (.int .u32 0) := by
    rw [show 64 - k = (64 - (k + 1)) + 1 by omega, List.replicate_succ]
  unfold arr
  rw [e1, e2, List.set_append_right _ _ (by rw [wcs_length, wsN_length]; exact Nat.le_refl _), wcs_length, wsN_length, Nat.sub_self, List.append_assoc]
  rfl
theorem arr_full (l : List UInt8) : arr l 64 = wcs (wsN l 64) := by simp [arr]
theorem bcs_get (l : List UInt8) (i : Nat) (h : i < l.length) : (Lib.byteCells l)[i]? = some (.int .u8 (l.getD i 0).toNat) := by
  rw [Lib.byteCells, List.getElem?_map, List.getElem?_eq_getElem h, List.getD_eq_getElem?_getD, List.getElem?_eq_getElem h]
  rfl
theorem or_sum (i a b : Nat) (hb : b < 2 ^ i) : a * 2 ^ i ||| b = a * 2 ^ i + b := by
  have := Nat.shiftLeft_add_eq_or_of_lt hb a
  rw [Nat.shiftLeft_eq] at this
  exact this.symm
theorem b4_nat (a b c d : Nat) (hb : b < 256) (hc : c < 256) (hd : d < 256) : a * 2 ^ 24 ||| b * 2 ^ 16 ||| c * 2 ^ 8 ||| d = a * 2 ^ 24 + b * 2 ^ 16 + c * 2 ^ 8 + d := by
  rw [or_sum 24 a (b * 2 ^ 16) (by omega)]
  rw [show a * 2 ^ 24 + b * 2 ^ 16 = (a * 2 ^ 8 + b) * 2 ^ 16 by omega, or_sum 16 _ (c * 2 ^ 8) (by omega)]
  rw [show (a * 2 ^ 8 + b) * 2 ^ 16 + c * 2 ^ 8 = ((a * 2 ^ 8 + b) * 2 ^ 8 + c) * 2 ^ 8 by omega, or_sum 8 _ d (by omega)]
theorem b4_int (a b c d A B C : Nat) (hA : A = a * 2 ^ 24) (hB : B = b * 2 ^ 16) (hC : C = c * 2 ^ 8) (ha : a < 256) (hb : b < 256) (hc : c < 256) (hd : d < 256) : bits .or .u32 (bits .or .u32 (bits .or .u32 (A : Int) (B : Int)) (C : Int)) (d : Int) = ((A + B + C + d : Nat) : Int) := by
  have h0 : A < 2 ^ 32 := by omega
  have h1 : B < 2 ^ 32 := by omega
  have h2 : C < 2 ^ 32 := by omega
  have h3 : d < 2 ^ 32 := by omega
  rw [u32_or_nat A B h0 h1, u32_or_nat (A ||| B) C (Nat.or_lt_two_pow h0 h1) h2, u32_or_nat (A ||| B ||| C) d (Nat.or_lt_two_pow (Nat.or_lt_two_pow h0 h1) h2) h3]
  rw [hA, hB, hC, b4_nat a b c d hb hc hd]
theorem b4_or (a b c d : UInt8) : bits .or .u32 (bits .or .u32 (bits .or .u32 ((a.toNat : Int) * 16777216) ((b.toNat : Int) * 65536)) ((c.toNat : Int) * 256)) (d.toNat : Int) = ((a.toNat * 16777216 + b.toNat * 65536 + c.toNat * 256 + d.toNat : Nat) : Int) :=
  b4_int a.toNat b.toNat c.toNat d.toNat (a.toNat * 16777216) (b.toNat * 65536) (c.toNat * 256) rfl rfl rfl (u8lt a) (u8lt b) (u8lt c) (u8lt d)
theorem wrapi (x : Int) (h0 : -9223372036854775808 ≤ x) (h1 : x < 9223372036854775808) : IntKind.i64.wrap x = x := by
  rw [IntKind.wrap_i64]; omega
theorem wrapu (n : Nat) (h1 : n < 4294967296) : IntKind.u32.wrap (n : Int) = n := by
  rw [IntKind.wrap_u32]; omega
theorem Blk.drw {w : World} {b : Nat} {cs : List Value} {t : TypeId} (h : Blk w b cs t) : Blk w.drew b cs t := h
theorem gdrew1 (w : World) (row : Option Nat) : w.grownBy w.drew row := ⟨rfl, rfl, rfl, Nat.le_refl _, fun _ _ _ => rfl⟩
theorem nextW_int (a b c d p q u v : Nat) (hb : b < 4294967296) (hp : p = rot 7 b) (hq : q = rot 18 b) (hu : u = rot 17 d) (hv : v = rot 19 d) (hd : d < 4294967296) :
    ((((a : Int) + bits .xor .u32 (bits .xor .u32 (p : Int) (q : Int)) ((b : Int) / 8)) % 4294967296 + (c : Int)) % 4294967296 + bits .xor .u32 (bits .xor .u32 (u : Int) (v : Int)) ((d : Int) / 1024)) % 4294967296 = ((a32 (a32 (a32 a (sg0 b)) c) (sg1 d) : Nat) : Int) := by
  have lp : p < 2 ^ 32 := by rw [hp]; exact rot_lt _ _ (by decide) hb
  have lq : q < 2 ^ 32 := by rw [hq]; exact rot_lt _ _ (by decide) hb
  have ls : b / 8 < 2 ^ 32 := div_lt hb
  have lu : u < 2 ^ 32 := by rw [hu]; exact rot_lt _ _ (by decide) hd
  have lv : v < 2 ^ 32 := by rw [hv]; exact rot_lt _ _ (by decide) hd
  have lt : d / 1024 < 2 ^ 32 := div_lt hd
  have c1 : (b : Int) / 8 = ((b / 8 : Nat) : Int) := by omega
  have c2 : (d : Int) / 1024 = ((d / 1024 : Nat) : Int) := by omega
  rw [c1, c2, u32_xor_nat p q lp lq, u32_xor_nat (p ^^^ q) _ (Nat.xor_lt_two_pow lp lq) ls, u32_xor_nat u v lu lv, u32_xor_nat (u ^^^ v) _ (Nat.xor_lt_two_pow lu lv) lt]
  have e0 : p ^^^ q ^^^ (b / 8) = sg0 b := by rw [hp, hq]; rfl
  have e1 : u ^^^ v ^^^ (d / 1024) = sg1 d := by rw [hu, hv]; rfl
  rw [e0, e1]
  unfold a32
  omega
set_option maxHeartbeats 800000 in
theorem spread_any (l : List UInt8) (hl : l.length = 64) (w : World) :
    Calls Tryd.prog 46 #[.agg (Lib.byteCells l).toArray] w fun e w' => e = .returned (.agg (wcs (wsN l 64)).toArray) ∧ w.grownBy w' none := by
  obtain ⟨cs, HCS⟩ : ∃ cs, Hid (Lib.byteCells l = cs) := ⟨_, hid rfl⟩
  obtain ⟨R, HR⟩ : ∃ R, Hid (∀ n, n = 64 → wcs (wsN l n) = R) := ⟨_, hid (fun n hn => by rw [hn])⟩
  have HL := hid hl
  rw [HCS.out, HR.out 64 rfl]
  clear hl
  go_enter Tryd.func46, Tryd.ntmps46
  go_wp2_with (first
    | (refine wpList_box_row rfl 73 _ rfl cs rfl ?_; intro w1 B1 s1 g1; have HB1 := hid B1; have HG1 := hid g1; have HS1 := hid s1; clear B1 g1 s1)
    | (have := HB2; clear this; refine wpList_alloc_row rfl 84 rfl z64 Tryd.zero84 ?_; intro w3 B3 s3 g3; have HB3 := hid B3; have HG3 := hid g3; have HS3 := hid s3; clear B3 g3 s3)
    | (refine wpList_alloc_row rfl 84 rfl z64 Tryd.zero84 ?_; intro w2 B2 s2 g2; have HB2 := hid B2; have HG2 := hid g2; have HS2 := hid s2; clear B2 g2 s2)
    | (refine wpList_build_row rfl 84 rfl z64 Tryd.built84 ?_)
    | (refine wpList_store_all rfl 84 _ _ rfl _ z64 z64 84 rfl rfl HB3.out rfl Tryd.size84 one_z64 ?_; intro w4 B4 g4 s4; have HB4 := hid B4; have HG4 := hid g4; have HS4 := hid s4; clear B4 g4 s4))
  obtain ⟨b1, hb1⟩ : ∃ b1, b1 = w.heap.size := ⟨_, rfl⟩
  obtain ⟨b2, hb2⟩ : ∃ b2, b2 = w1.heap.size := ⟨_, rfl⟩
  obtain ⟨b3, hb3⟩ : ∃ b3, b3 = w2.heap.size := ⟨_, rfl⟩
  rw [← hb1, ← hb2, ← hb3]
  rw [← hb1] at HB1
  rw [← hb2] at HB2
  rw [← hb3] at HB3 HB4 HG4
  have HG := hid ((gtrans HG1.out (gtrans HG2.out HG3.out)).andThen HG4.out (fun j hj => .inl (by injection hj with hj; have := HG1.out.size; have := HG2.out.size; omega)))
  have HN := hid (show b1 ≠ b3 ∧ b2 ≠ b3 ∧ w.heap.size ≤ b3 ∧ w.heap.size ≤ b2 by have := HS1.out; have := HS2.out; omega)
  have HB14 := hid ((((HB1.out.keep HG2.out).keep HG3.out).on HG4.out (by simp; exact fun e => HN.out.1 e.symm)))
  have HB24 := hid (((HB2.out.keep HG3.out).on HG4.out (by simp; exact fun e => HN.out.2.1 e.symm)))
  clear hb1 hb2 hb3
  go_loopw [9] (fun iv wr => ∃ k : Nat, k ≤ 16 ∧ iv = .int .i64 k ∧ Hid (Blk wr b3 (arr l k) 84) ∧ Hid (w4.grownBy wr (some b3))) (fun iv _ => 16 - (intOf iv).toNat)
  case atStart => exact ⟨0, by omega, rfl, HB4, hid (grefl _ _)⟩
  case round =>
    obtain ⟨k, hk, rfl, HK, HW⟩ := hrel
    by_cases hlt : k < 16
    · have hB := (HB14.out.on HW.out (by simp; exact fun e => HN.out.1 e.symm))
      rw [← HCS.out] at hB
      obtain ⟨i0, hi0⟩ : ∃ i, i = 4 * k := ⟨_, rfl⟩
      have c0 := hB.cell i0
      obtain ⟨i1, hi1⟩ : ∃ i, i = i0 + 1 := ⟨_, rfl⟩
      obtain ⟨i2, hi2⟩ : ∃ i, i = i0 + 2 := ⟨_, rfl⟩
      obtain ⟨i3, hi3⟩ : ∃ i, i = i0 + 3 := ⟨_, rfl⟩
      have c1 := hB.cell i1
      have c2 := hB.cell i2
      have c3 := hB.cell i3
      rw [bcs_get _ _ (by rw [HL.out]; omega)] at c0 c1 c2 c3
      have cw := HK.out.cell k
      rw [arr_at _ _ (by omega)] at cw
      have cf := HK.out.frozen k
      have HV := hid (b4_or (l.getD i0 0) (l.getD i1 0) (l.getD i2 0) (l.getD i3 0))
      have HV2 : Hid ((wsN l (k + 1)).getD k 0 = b4 l k) := by rw [wsN_getD_last, if_pos hlt]; exact hid rfl
      have HV3 := hid (arr_step l k (by omega))
      have hb0 := u8_bd (l.getD i0 0)
      have hb1 := u8_bd (l.getD i1 0)
      have hb2 := u8_bd (l.getD i2 0)
      have hb3 := u8_bd (l.getD i3 0)
      obtain ⟨x0, hx0⟩ : ∃ x, l.getD i0 0 = x := ⟨_, rfl⟩
      obtain ⟨x1, hx1⟩ : ∃ x, l.getD i1 0 = x := ⟨_, rfl⟩
      obtain ⟨x2, hx2⟩ : ∃ x, l.getD i2 0 = x := ⟨_, rfl⟩
      obtain ⟨x3, hx3⟩ : ∃ x, l.getD i3 0 = x := ⟨_, rfl⟩
      rw [hx0] at c0 HV hb0
      rw [hx1] at c1 HV hb1
      rw [hx2] at c2 HV hb2
      rw [hx3] at c3 HV hb3
      have HVB : Hid (b4 l k = x0.toNat * 16777216 + x1.toNat * 65536 + x2.toNat * 256 + x3.toNat) := by rw [← hx0, ← hx1, ← hx2, ← hx3, hi1, hi2, hi3, hi0]; exact hid rfl
      have q0 : IntKind.i64.wrap (4 * (k : Int)) = (i0 : Int) := by rw [wrapi _ (by omega) (by omega)]; omega
      have r0 : (i0 : Int) < 64 := by omega
      have q1 : IntKind.i64.wrap ((i0 : Int) + 1) = (i1 : Int) := by rw [wrapi _ (by omega) (by omega)]; omega
      have q2 : IntKind.i64.wrap ((i0 : Int) + 2) = (i2 : Int) := by rw [wrapi _ (by omega) (by omega)]; omega
      have q3 : IntKind.i64.wrap ((i0 : Int) + 3) = (i3 : Int) := by rw [wrapi _ (by omega) (by omega)]; omega
      have r1 : (i1 : Int) < 64 := by omega
      have r2 : (i2 : Int) < 64 := by omega
      have r3 : (i3 : Int) < 64 := by omega
      have r4 : (k : Int) < 64 := by omega
      clear hx0 hx1 hx2 hx3 hB hi0 hi1 hi2 hi3
      have HKP : Hid (∀ (o : Nat) (v : Value), (wr.setCell ⟨b3, k, none⟩ v).drew.cell? ⟨b1, o, none⟩ = wr.cell? ⟨b1, o, none⟩) := fun o v => World.cell?_setCell_other _ _ _ _ (fun e => HN.out.1 (by injection e with e1; exact e1.symm))
      go_wp2_with fail
      go_region_held3 (fun u => u.cell? ⟨b1, i0, none⟩ = some (.int .u8 x0.toNat) ∧ u.cell? ⟨b1, i1, none⟩ = some (.int .u8 x1.toNat) ∧ u.cell? ⟨b1, i2, none⟩ = some (.int .u8 x2.toNat) ∧ u.cell? ⟨b1, i3, none⟩ = some (.int .u8 x3.toNat)) (first | assumption | exact ⟨c0, c1, c2, c3⟩ | (simp only [HKP.out]; exact ⟨c0, c1, c2, c3⟩)) (fail)
      go_wp2_with fail
      go_roundw
      case rel => exact ⟨k + 1, by omega, by go_num, hid (by rw [HV.out, ← HVB.out, ← HV2.out, ← HV3.out]; exact (HK.out.set _ _).drw), hid (gtrans HW.out (gtrans (gset _ _ _) (gdrew1 _ _)))⟩
      case measure => simp [intOf]; omega
    · obtain rfl : k = 16 := by omega
      obtain ⟨w5, hw5⟩ : ∃ w5, w5 = wr := ⟨_, rfl⟩
      rw [← hw5] at HK HW ⊢
      clear hw5 hlt hk
      go_wp2_with fail
      go_loopw [5] (fun iv wr => ∃ k : Nat, 16 ≤ k ∧ k ≤ 64 ∧ iv = .int .i64 k ∧ Hid (Blk wr b3 (arr l k) 84) ∧ Hid (w4.grownBy wr (some b3))) (fun iv _ => 64 - (intOf iv).toNat)
      case atStart => exact ⟨16, by omega, by omega, rfl, HK, HW⟩
      case round =>
        obtain ⟨k, hk, hk2, rfl, HK, HW⟩ := hrel
        by_cases hlt : k < 64
        · obtain ⟨i16, j16⟩ : ∃ i, i = k - 16 := ⟨_, rfl⟩
          obtain ⟨i15, j15⟩ : ∃ i, i = k - 15 := ⟨_, rfl⟩
          obtain ⟨i7, j7⟩ : ∃ i, i = k - 7 := ⟨_, rfl⟩
          obtain ⟨i2, j2⟩ : ∃ i, i = k - 2 := ⟨_, rfl⟩
          have q16 : IntKind.i64.wrap ((k : Int) - 16) = (i16 : Int) := by rw [wrapi _ (by omega) (by omega)]; omega
          have q15 : IntKind.i64.wrap ((k : Int) - 15) = (i15 : Int) := by rw [wrapi _ (by omega) (by omega)]; omega
          have q7 : IntKind.i64.wrap ((k : Int) - 7) = (i7 : Int) := by rw [wrapi _ (by omega) (by omega)]; omega
          have q2 : IntKind.i64.wrap ((k : Int) - 2) = (i2 : Int) := by rw [wrapi _ (by omega) (by omega)]; omega
          have p16 : (k : Int) - 16 = (i16 : Int) := by omega
          have p15 : (k : Int) - 15 = (i15 : Int) := by omega
          have p7 : (k : Int) - 7 = (i7 : Int) := by omega
          have p2 : (k : Int) - 2 = (i2 : Int) := by omega
          have v16 : IntKind.i64.wrap (i16 : Int) = (i16 : Int) := wrapi _ (by omega) (by omega)
          have v7 : IntKind.i64.wrap (i7 : Int) = (i7 : Int) := wrapi _ (by omega) (by omega)
          have r16 : (i16 : Int) < 64 := by omega
          have r15 : (i15 : Int) < 64 := by omega
          have r7 : (i7 : Int) < 64 := by omega
          have r2 : (i2 : Int) < 64 := by omega
          have r0 : (k : Int) < 64 := by omega
          have c16 := HK.out.cell i16
          have c15 := HK.out.cell i15
          have c7 := HK.out.cell i7
          have c2 := HK.out.cell i2
          rw [arr_get _ _ _ (by omega)] at c16 c15 c7 c2
          have b16 := wsN_getD_lt l k i16
          have b15 := wsN_getD_lt l k i15
          have b7 := wsN_getD_lt l k i7
          have b2' := wsN_getD_lt l k i2
          have HV2 : Hid ((wsN l (k + 1)).getD k 0 = a32 (a32 (a32 ((wsN l k).getD i16 0) (sg0 ((wsN l k).getD i15 0))) ((wsN l k).getD i7 0)) (sg1 ((wsN l k).getD i2 0))) := by rw [wsN_getD_last, if_neg (by omega), j16, j15, j7, j2]; exact hid rfl
          generalize (wsN l k).getD i16 0 = x16 at c16 b16 HV2
          generalize (wsN l k).getD i15 0 = x15 at c15 b15 HV2
          generalize (wsN l k).getD i7 0 = x7 at c7 b7 HV2
          generalize (wsN l k).getD i2 0 = x2 at c2 b2' HV2
          have HT7 : Hid (∀ u, Calls Tryd.prog 47 #[.int .u32 (x15 : Nat), .int .i64 7] u fun e w' => e = .returned (.int .u32 (rot 7 x15 : Nat)) ∧ w' = u) := fun u => turned_any x15 7 b15 (by decide) (by decide) u
          have HT18 : Hid (∀ u, Calls Tryd.prog 47 #[.int .u32 (x15 : Nat), .int .i64 18] u fun e w' => e = .returned (.int .u32 (rot 18 x15 : Nat)) ∧ w' = u) := fun u => turned_any x15 18 b15 (by decide) (by decide) u
          have HT17 : Hid (∀ u, Calls Tryd.prog 47 #[.int .u32 (x2 : Nat), .int .i64 17] u fun e w' => e = .returned (.int .u32 (rot 17 x2 : Nat)) ∧ w' = u) := fun u => turned_any x2 17 b2' (by decide) (by decide) u
          have HT19 : Hid (∀ u, Calls Tryd.prog 47 #[.int .u32 (x2 : Nat), .int .i64 19] u fun e w' => e = .returned (.int .u32 (rot 19 x2 : Nat)) ∧ w' = u) := fun u => turned_any x2 19 b2' (by decide) (by decide) u
          have HV := hid (nextW_int x16 x15 x7 x2 _ _ _ _ b15 rfl rfl rfl rfl b2')
          generalize rot 7 x15 = t7 at HT7 HV
          generalize rot 18 x15 = t18 at HT18 HV
          generalize rot 17 x2 = t17 at HT17 HV
          generalize rot 19 x2 = t19 at HT19 HV
          have HV3 := hid (arr_step l k (by omega))
          have cw := HK.out.cell k
          rw [arr_at _ _ (by omega)] at cw
          have cf := HK.out.frozen k
          have HNE : Hid (i16 ≠ k ∧ i7 ≠ k) := hid (by omega)
          have HKP : Hid (∀ (u : World) (o : Nat) (v : Value), o ≠ k → (u.setCell ⟨b3, k, none⟩ v).cell? ⟨b3, o, none⟩ = u.cell? ⟨b3, o, none⟩) := fun u o v hne => World.cell?_setCell_other _ _ _ _ (fun e => hne (by injection e with _ e2; exact e2.symm))
          clear j16 j15 j7 j2
          go_wp2_with fail
          go_quiet (fail)
          have d16 : (wr.drewN nq).cell? ⟨b3, i16, none⟩ = some (.int .u32 x16) := c16
          have d7 : (wr.drewN nq).cell? ⟨b3, i7, none⟩ = some (.int .u32 x7) := c7
          have dw : (wr.drewN nq).cell? ⟨b3, k, none⟩ = some (.int .u32 0) := cw
          have df : (wr.drewN nq).frozen? ⟨b3, k, none⟩ = false := cf
          have HKd := hid (show Blk (wr.drewN nq) b3 (arr l k) 84 from HK.out)
          have HWd := hid (gtrans HW.out (gdrew wr nq _))
          generalize wr.drewN nq = wd at d16 d7 dw df HKd HWd ⊢
          clear HK HW c16 c15 c7 c2 cw cf
          go_wp2_with fail
          go_region_held3 (fun u => u.cell? ⟨b3, i16, none⟩ = some (.int .u32 x16) ∧ u.cell? ⟨b3, i7, none⟩ = some (.int .u32 x7)) (first | assumption | exact ⟨d16, d7⟩ | exact ⟨(HKP.out _ _ _ HNE.out.1).trans d16, (HKP.out _ _ _ HNE.out.2).trans d7⟩) (first
            | (go_at_call 47; with_reducible refine (HT7.out _).mono ?_; rintro e w' ⟨rfl, hw⟩; have hw' := hw.symm; clear hw; subst hw')
            | (go_at_call 47; with_reducible refine (HT18.out _).mono ?_; rintro e w' ⟨rfl, hw⟩; have hw' := hw.symm; clear hw; subst hw')
            | (go_at_call 47; with_reducible refine (HT17.out _).mono ?_; rintro e w' ⟨rfl, hw⟩; have hw' := hw.symm; clear hw; subst hw')
            | (go_at_call 47; with_reducible refine (HT19.out _).mono ?_; rintro e w' ⟨rfl, hw⟩; have hw' := hw.symm; clear hw; subst hw'))
          go_wp2_with fail
          go_roundw
          case rel =>
            (repeat apply Exists.intro)
            refine ⟨?r, ?f⟩
            case f => rfl
            case r => exact ⟨k + 1, by omega, by omega, by go_num, hid (by rw [HV.out, ← HV2.out, ← HV3.out]; exact (HKd.out.set _ _).drw), hid (gtrans HWd.out (gtrans (gset _ _ _) (gdrew1 _ _)))⟩
          case measure => simp [intOf]; omega
        · obtain rfl : k = 64 := by omega
          have HF := hid (HK.out)
          rw [arr_full, HR.out 64 rfl] at HF
          have HB2r := hid (HB24.out.on HW.out (by simp; exact fun e => HN.out.2.1 e.symm))
          have HRL : Hid (R.length = 64) := hid (by rw [← HR.out 64 rfl, wcs_length, wsN_length])
          have HR1 : Hid (∀ v ∈ R, v.oneCell' = true) := hid (by rw [← HR.out 64 rfl]; exact wcs_one _)
          clear HK
          go_wp2_with (first
            | (refine wpList_load_part rfl 84 _ rfl b3 0 R _ rfl HF.out.whole Tryd.underlying84 rfl (by rw [HRL.out]; exact Tryd.size84) ?_)
            | (refine wpList_store_all rfl 84 _ _ rfl b2 z64 R 84 rfl rfl HB2r.out (by rw [HRL.out]; rfl) (by rw [HRL.out]; exact Tryd.size84) HR1.out ?_; intro w6 B6 g6 s6; have HB6 := hid B6; have HG6 := hid g6; clear B6 g6 s6))
          refine bodyPost_ret (results_blk rfl _ b2 84 R _ rfl HB6.out Tryd.underlying84 rfl (by rw [HRL.out]; exact Tryd.size84)) rfl ?_
          exact ⟨rfl, (HG.out.andThen HW.out (fun j hj => .inl (by injection hj with hj; have := HN.out; omega))).andThen HG6.out (fun j hj => .inl (by injection hj with hj; have := HN.out; omega))⟩
end Go.Proofs.YtmiojplbcjhggaaDoor
