/- unlocks, Wait. -/
import Derived.Test.YtnbcplpmpocbpaaWd
namespace Go.Proofs.Ytnbcplpmpocbpaa
open Go Go.RowKit
open Go.RowKit (wrap32 wrap64)

theorem between_raw (a b : Int) (w : World) : Calls Try.prog 28 #[.int .i64 a, .int .i64 b] w fun r w' => ∃ D : Int, r = .returned (.int .u64 D) ∧ 0 ≤ D ∧ (-9223372036854775808 ≤ a → b ≤ 9223372036854775807 → a ≤ b → D = b - a) ∧ w' = w := by
  go_enter Try.func28, Try.ntmps28
  go_wp2
  go_ret
  exact ⟨_, rfl, by rw [u64w]; omega, fun ha hb hab => bet_eq ha hb hab, rfl⟩
def unlB (H ta : Int) (k : Nat) : Bool := decide (ta + k * max H 1 ≤ 9223372036854775807)
def unlX (H ta : Int) (k : Nat) : Int := if unlB H ta k = true then ta + k * max H 1 else 0
theorem gtr64 {x y : Operand} {D M : Int} (u : World) : (do eqGuard .gtr 26 x y (.int .u64 D) (.int .u64 M); binOp .gtr 26 (.int .u64 D) (.int .u64 M) : Sem Value).run Try.prog u = .ok (.bool (decide (M < D))) u := by
  go_simp
set_option maxRecDepth 100000 in
set_option maxHeartbeats 800000 in
theorem unlocks_any (H : Int) (l s : Nat) (ta : Int) (w : World) (hH : H ≤ 9223372036854775807) (hA : -9223372036854775808 ≤ ta) (hA2 : ta ≤ 9223372036854775807) :
    Calls Try.prog 36 #[.agg #[.int .i64 H, .int .u64 (l : Int)], .agg #[.int .u64 (s : Int), .int .i64 ta]] w fun e w' => ∃ k : Nat, k ≤ 2100 ∧ e = .returned (.tuple #[.int .i64 (unlX H ta k), .bool (unlB H ta k)]) ∧ (Fnt s → Fnt l → 0 < l → isHB l s k) ∧ w.grownBy w' none := by
  have HCH := hid (fun u => halfLife_any H l u hH)
  have HCB := hid (fun u => between_any ta 9223372036854775807 u hA (by omega) hA2)
  have HXX : Hid (∀ k : Nat, unlX H ta k = if unlB H ta k = true then ta + k * max H 1 else 0) := hid (fun k => rfl)
  have HBB : Hid (∀ k : Nat, unlB H ta k = decide ((k : Int) ≤ (9223372036854775807 - ta) / max H 1)) := hid (fun k => by
    unfold unlB
    refine decide_eq_decide.2 ?_
    rw [Int.le_ediv_iff_mul_le (by omega)]
    omega)
  have HM0 : Hid (0 < max H 1) := hid (by omega)
  obtain ⟨M, hM⟩ : ∃ M, max H 1 = M := ⟨_, rfl⟩
  rw [hM] at HCH HXX HBB HM0
  have HQ : Hid (∀ (x y : Operand) (u : World), (do eqGuard .quo 26 x y (.int .u64 (9223372036854775807 - ta)) (.int .u64 M); binOp .quo 26 (.int .u64 (9223372036854775807 - ta)) (.int .u64 M) : Sem Value).run Try.prog u = .ok (.int .u64 ((9223372036854775807 - ta) / M)) u) := hid (fun x y u => quo64 (by omega) HM0.out (by omega) u)
  have HAb : Hid (-9223372036854775808 ≤ ta ∧ ta ≤ 9223372036854775807) := hid ⟨hA, hA2⟩
  have HDD : Hid (∀ k : Nat, (k : Int) ≤ (9223372036854775807 - ta) / M → (k : Int) * M ≤ 9223372036854775807 - ta) := hid (fun k h => (Int.le_ediv_iff_mul_le HM0.out).1 h)
  obtain ⟨D, hD⟩ : ∃ D, 9223372036854775807 - ta = D := ⟨_, rfl⟩
  obtain ⟨Qv, hQv⟩ : ∃ Qv, D / M = Qv := ⟨_, rfl⟩
  have HDv := hid hD
  rw [hD] at HCB HQ HBB HDD
  rw [hQv] at HQ HBB HDD
  clear hM hD hQv hH hA hA2
  go_enter Try.func36, Try.ntmps36
  go_upto_region 1 with (first
    | (have := HG1; clear this; (with_reducible refine wpList_box_row (by with_unfolding_all rfl) 37 _ (by with_unfolding_all rfl) [.int .u64 (s : Int), .int .i64 ta] (by with_unfolding_all rfl) ?_); intro w2 B2 s2 g2; have HB2 := hid B2; have HC2 := hid (HB1.out.keep g2); have HG2 := hid (gtrans HG1.out g2); clear B2 s2 g2)
    | ((with_reducible refine wpList_box_row (by with_unfolding_all rfl) 28 _ (by with_unfolding_all rfl) [.int .i64 H, .int .u64 (l : Int)] (by with_unfolding_all rfl) ?_); intro w1 B1 s1 g1; have HB1 := hid B1; have HG1 := hid g1; clear B1 s1 g1))
  obtain ⟨p2, hp2⟩ : ∃ x, w.heap.size = x := ⟨_, rfl⟩
  obtain ⟨p3, hp3⟩ : ∃ x, w1.heap.size = x := ⟨_, rfl⟩
  rw [hp2] at HC2
  rw [hp3] at HB2
  simp only [hp2, hp3]
  clear hp2 hp3 HB1 HG1
  go_wp2_with fail
  refine wp_region_list (by kernel_rfl) [fun v _ => v = (Value.pointer (some ⟨p2, 1, none⟩)), fun v _ => v = (Value.int .u64 (l : Int)), fun v _ => v = (Value.float .f64 l), fun v _ => v = (Value.agg [Value.int .u64 (s : Int), Value.int .i64 ta].toArray), fun v _ => v = (Value.float .f64 s), fun v _ => ∃ k : Nat, v = Value.int .u64 (k : Int) ∧ k ≤ 2100 ∧ (Fnt s → Fnt l → 0 < l → isHB l s k), fun v _ => ∃ k : Nat, v = Value.int .u64 (k : Int) ∧ k ≤ 2100 ∧ (Fnt s → Fnt l → 0 < l → isHB l s k)] (none) (fun _ => none) 7 (by kernel_rfl) (by kernel_rfl) (by kernel_rfl) (by kernel_rfl) (by decide) noRow_one (fun _ => .inl rfl) ⟨fun i v u u' hki h hg => h, fun i v u u' hki h hg => h, fun i v u u' hki h hg => h, fun i v u u' hki h hg => h, fun i v u u' hki h hg => h, fun i v u u' hki h hg => h, fun i v u u' hki h hg => h, trivial⟩ ⟨?_, ?_, ?_, ?_, ?_, ?_, ?_, trivial⟩ ?_
  · intro A u hu hpu hsz hout hdeps
    have e2 : A.eval (.tmp 2) = (.pointer (some ⟨p2, 0, none⟩)) := (hout 2 (by kernel_rfl)).trans rfl
    refine ifw_none rfl ?_
    with_reducible refine shown_q (Value.pointer (some ⟨p2, 1, none⟩)) ?qq_1_0 (fun _ _ => ?qr_1_0)
    case qr_1_0 => exact (rfl : (Value.pointer (some ⟨p2, 1, none⟩)) = (Value.pointer (some ⟨p2, 1, none⟩)))
    with_reducible refine quietAt_field 28 (.tmp 2) 1 ?h0_1_0 ⟨p2, 0, none⟩ ⟨p2, 1, none⟩ ?h1_1_0 ?h2_1_0
    case h0_1_0 => rfl
    case h1_1_0 => exact e2
    case h2_1_0 => kernel_rfl
  · intro A u hu hpu hsz hout hdeps
    have e7 : A.eval (.tmp 7) = (.pointer (some ⟨p2, 1, none⟩)) := by have h := depL hdeps 0 (by kernel_rfl) 7 (by kernel_rfl); exact h
    refine ifw_none rfl ?_
    with_reducible refine shown_q (Value.int .u64 (l : Int)) ?qq_1_1 (fun _ _ => ?qr_1_1)
    case qr_1_1 => exact (rfl : (Value.int .u64 (l : Int)) = (Value.int .u64 (l : Int)))
    with_reducible refine quietAt_ld 26 (.tmp 7) (Value.pointer (some ⟨p2, 1, none⟩)) (Value.int .u64 (l : Int)) ?h0_1_1 ?h1_1_1 ?h2_1_1
    case h0_1_1 => rfl
    case h1_1_1 => exact e7
    case h2_1_1 => exact ld26 ((HC2.out.keep hu).cell 1)
  · intro A u hu hpu hsz hout hdeps
    have e8 : A.eval (.tmp 8) = (.int .u64 (l : Int)) := by have h := depL hdeps 1 (by kernel_rfl) 8 (by kernel_rfl); exact h
    refine ifw_none rfl ?_
    with_reducible refine shown_q (Value.float .f64 l) ?qq_1_2 (fun _ _ => ?qr_1_2)
    case qr_1_2 => exact (rfl : (Value.float .f64 l) = (Value.float .f64 l))
    with_reducible refine quietAt_ext 25 #[.tmp 8] #[26] ?h0_1_2 (Value.float .f64 l) #[(Value.int .u64 (l : Int))] ?h1_1_2 ?h2_1_2
    case h0_1_2 => rfl
    case h1_1_2 => exact map1 _ _ _ e8
    case h2_1_2 => exact (call25 l u)
  · intro A u hu hpu hsz hout hdeps
    have e3 : A.eval (.tmp 3) = (.pointer (some ⟨p3, 0, none⟩)) := (hout 3 (by kernel_rfl)).trans rfl
    refine ifw_none rfl ?_
    with_reducible refine shown_q (Value.agg [Value.int .u64 (s : Int), Value.int .i64 ta].toArray) ?qq_1_3 (fun _ _ => ?qr_1_3)
    case qr_1_3 => exact (rfl : (Value.agg [Value.int .u64 (s : Int), Value.int .i64 ta].toArray) = (Value.agg [Value.int .u64 (s : Int), Value.int .i64 ta].toArray))
    with_reducible refine quietAt_load 37 (.tmp 3) ?h0_1_3 p3 0 [Value.int .u64 (s : Int), Value.int .i64 ta] (.struct (Try.prog.fieldsOf 37)) ?h1_1_3 ?h2_1_3 ?h3_1_3 ?h4_1_3 ?h5_1_3
    case h0_1_3 => rfl
    case h1_1_3 => exact e3
    case h2_1_3 => exact (HB2.out.keep hu).whole
    case h3_1_3 => exact Try.underlying37
    case h4_1_3 => rfl
    case h5_1_3 => exact Try.size37
  · intro A u hu hpu hsz hout hdeps
    have e10 : A.eval (.tmp 10) = (.agg [.int .u64 (s : Int), .int .i64 ta].toArray) := by have h := depL hdeps 3 (by kernel_rfl) 10 (by kernel_rfl); exact h
    refine ifw_none rfl ?_
    with_reducible refine shown_q (Value.float .f64 s) ?qq_1_4 (fun _ _ => ?qr_1_4)
    case qr_1_4 => exact (rfl : (Value.float .f64 s) = (Value.float .f64 s))
    with_reducible refine quietAt_call 32 Try.f32 ?h0_1_4 ?h1_1_4 ?h2_1_4 #[.tmp 10] #[37] ?h3_1_4 (Value.float .f64 s) #[(Value.agg [Value.int .u64 (s : Int), Value.int .i64 ta].toArray)] ?h4_1_4 ?h5_1_4
    case h0_1_4 => exact Try.func32
    case h1_1_4 => kernel_rfl
    case h2_1_4 => kernel_rfl
    case h3_1_4 => rfl
    case h4_1_4 => exact map1 _ _ _ e10
    case h5_1_4 => exact scoreOf_nat s ta u
  · intro A u hu hpu hsz hout hdeps
    have e9 : A.eval (.tmp 9) = (.float .f64 l) := by have h := depL hdeps 2 (by kernel_rfl) 9 (by kernel_rfl); exact h
    have e11 : A.eval (.tmp 11) = (.float .f64 s) := by have h := depL hdeps 4 (by kernel_rfl) 11 (by kernel_rfl); exact h
    refine ifw_none rfl ?_
    with_reducible refine shown_call 40 Try.f40 ?h0_1_5 ?h1_1_5 ?h2_1_5 #[.tmp 9, .tmp 11] #[49, 49] ?h3_1_5 #[(Value.float .f64 l), (Value.float .f64 s)] ?h4_1_5 ?h5_1_5
    case h0_1_5 => exact Try.func40
    case h1_1_5 => kernel_rfl
    case h2_1_5 => kernel_rfl
    case h3_1_5 => rfl
    case h4_1_5 => exact map2 _ _ _ _ _ e9 e11
    case h5_1_5 => exact (halvings_any l s u).mono (fun e w' h => by obtain ⟨k, h1, h2, h3, h4⟩ := h; exact ⟨_, h1, h4, k, rfl, h2, h3⟩)
  · intro A u hu hpu hsz hout hdeps
    have f12 : (fun v _ => ∃ k : Nat, v = Value.int .u64 (k : Int) ∧ k ≤ 2100 ∧ (Fnt s → Fnt l → 0 < l → isHB l s k)) (A.eval (.tmp 12)) u := by have h := depL hdeps 5 (by kernel_rfl) 12 (by kernel_rfl); exact h
    obtain ⟨k, e12, hk1, hk2⟩ := f12
    refine ifw_none rfl ?_
    exact shown_q _ (quietAt_as (.tmp 12) _ rfl e12) (fun u' hg => ⟨k, rfl, hk1, hk2⟩)
  · intro A w4 listed hh hall
    have hA := hh.frame
    have HU := hid hh.grown
    obtain ⟨x7, hx7⟩ : ∃ x, A.eval (.tmp 7) = x := ⟨_, rfl⟩
    have f7 : (fun v _ => v = (Value.pointer (some ⟨p2, 1, none⟩))) x7 w4 := by rw [← hx7]; exact hh.got 0 _ 7 rfl rfl (hall 0 (by decide))
    obtain ⟨x8, hx8⟩ : ∃ x, A.eval (.tmp 8) = x := ⟨_, rfl⟩
    have f8 : (fun v _ => v = (Value.int .u64 (l : Int))) x8 w4 := by rw [← hx8]; exact hh.got 1 _ 8 rfl rfl (hall 1 (by decide))
    obtain ⟨x9, hx9⟩ : ∃ x, A.eval (.tmp 9) = x := ⟨_, rfl⟩
    have f9 : (fun v _ => v = (Value.float .f64 l)) x9 w4 := by rw [← hx9]; exact hh.got 2 _ 9 rfl rfl (hall 2 (by decide))
    obtain ⟨x10, hx10⟩ : ∃ x, A.eval (.tmp 10) = x := ⟨_, rfl⟩
    have f10 : (fun v _ => v = (Value.agg [Value.int .u64 (s : Int), Value.int .i64 ta].toArray)) x10 w4 := by rw [← hx10]; exact hh.got 3 _ 10 rfl rfl (hall 3 (by decide))
    obtain ⟨x11, hx11⟩ : ∃ x, A.eval (.tmp 11) = x := ⟨_, rfl⟩
    have f11 : (fun v _ => v = (Value.float .f64 s)) x11 w4 := by rw [← hx11]; exact hh.got 4 _ 11 rfl rfl (hall 4 (by decide))
    obtain ⟨x12, hx12⟩ : ∃ x, A.eval (.tmp 12) = x := ⟨_, rfl⟩
    have f12 : (fun v _ => ∃ k : Nat, v = Value.int .u64 (k : Int) ∧ k ≤ 2100 ∧ (Fnt s → Fnt l → 0 < l → isHB l s k)) x12 w4 := by rw [← hx12]; exact hh.got 5 _ 12 rfl rfl (hall 5 (by decide))
    obtain ⟨x6, hx6⟩ : ∃ x, A.eval (.tmp 6) = x := ⟨_, rfl⟩
    have f6 : (fun v _ => ∃ k : Nat, v = Value.int .u64 (k : Int) ∧ k ≤ 2100 ∧ (Fnt s → Fnt l → 0 < l → isHB l s k)) x6 w4 := by rw [← hx6]; exact hh.got 6 _ 6 rfl rfl (hall 6 (by decide))
    dsimp only [wrote, List.foldl] at hA
    rw [hx7, hx8, hx9, hx10, hx11, hx12, hx6] at hA
    clear hh hall hx7 hx8 hx9 hx10 hx11 hx12 hx6
    replace f7 := (f7 : x7 = (.pointer (some ⟨p2, 1, none⟩)))
    subst f7
    replace f8 := (f8 : x8 = (.int .u64 (l : Int)))
    subst f8
    replace f9 := (f9 : x9 = (.float .f64 l))
    subst f9
    replace f10 := (f10 : x10 = (.agg [.int .u64 (s : Int), .int .i64 ta].toArray))
    subst f10
    replace f11 := (f11 : x11 = (.float .f64 s))
    subst f11
    obtain ⟨k, e12, hk1, hk2⟩ := f12
    subst e12
    obtain ⟨k, e6, hk1, hk2⟩ := f6
    subst e6
    subst hA
    show wpList _ _ _ [] _ _
    unfold wpList
    simp only [Act.put, List.setIfInBounds_toArray, List.set_cons_succ, List.set_cons_zero]
    have HC3 := hid (HC2.out.keep HU.out)
    have HB3 := hid (HB2.out.keep HU.out)
    have HG3 := hid (gtrans HG2.out HU.out)
    clear HC2 HB2 HG2 HU
    by_cases hgt : Qv < (k : Int)
    · have HGt : Hid (∀ (x y : Operand) (u : World), (do eqGuard .gtr 26 x y (.int .u64 (k : Int)) (.int .u64 Qv); binOp .gtr 26 (.int .u64 (k : Int)) (.int .u64 Qv) : Sem Value).run Try.prog u = .ok (.bool true) u) := hid (fun x y u => by rw [gtr64, decide_eq_true hgt])
      go_wp2_with fail
      refine wp_region_list (by kernel_rfl) [fun v _ => v = (Value.int .u64 (k : Int)), fun v _ => v = (Value.pointer (some ⟨p3, 1, none⟩)), fun v _ => v = (Value.int .i64 ta), fun v _ => v = (Value.int .u64 D), fun v _ => v = (Value.agg [Value.int .i64 H, Value.int .u64 (l : Int)].toArray), fun v _ => v = (Value.int .u64 M), fun v _ => v = (Value.int .u64 Qv), fun v _ => v = (Value.bool true)] (none) (fun _ => none) 8 (by kernel_rfl) (by kernel_rfl) (by kernel_rfl) (by kernel_rfl) (by decide) noRow_one (fun _ => .inl rfl) ⟨fun i v u u' hki h hg => h, fun i v u u' hki h hg => h, fun i v u u' hki h hg => h, fun i v u u' hki h hg => h, fun i v u u' hki h hg => h, fun i v u u' hki h hg => h, fun i v u u' hki h hg => h, fun i v u u' hki h hg => h, trivial⟩ ⟨?_, ?_, ?_, ?_, ?_, ?_, ?_, ?_, trivial⟩ ?_
      · intro A u hu hpu hsz hout hdeps
        have e6 : A.eval (.tmp 6) = (.int .u64 (k : Int)) := (hout 6 (by kernel_rfl)).trans rfl
        refine ifw_none rfl ?_
        with_reducible refine shown_q (Value.int .u64 (k : Int)) ?qq_2_0 (fun _ _ => ?qr_2_0)
        case qr_2_0 => exact (rfl : (Value.int .u64 (k : Int)) = (Value.int .u64 (k : Int)))
        with_reducible refine quietAt_mv (.tmp 6) (Value.int .u64 (k : Int)) ?h0_2_0 ?h1_2_0
        case h0_2_0 => rfl
        case h1_2_0 => exact e6
      · intro A u hu hpu hsz hout hdeps
        have e3 : A.eval (.tmp 3) = (.pointer (some ⟨p3, 0, none⟩)) := (hout 3 (by kernel_rfl)).trans rfl
        refine ifw_none rfl ?_
        with_reducible refine shown_q (Value.pointer (some ⟨p3, 1, none⟩)) ?qq_2_1 (fun _ _ => ?qr_2_1)
        case qr_2_1 => exact (rfl : (Value.pointer (some ⟨p3, 1, none⟩)) = (Value.pointer (some ⟨p3, 1, none⟩)))
        with_reducible refine quietAt_field 37 (.tmp 3) 1 ?h0_2_1 ⟨p3, 0, none⟩ ⟨p3, 1, none⟩ ?h1_2_1 ?h2_2_1
        case h0_2_1 => rfl
        case h1_2_1 => exact e3
        case h2_2_1 => kernel_rfl
      · intro A u hu hpu hsz hout hdeps
        have e14 : A.eval (.tmp 14) = (.pointer (some ⟨p3, 1, none⟩)) := by have h := depL hdeps 1 (by kernel_rfl) 14 (by kernel_rfl); exact h
        refine ifw_none rfl ?_
        with_reducible refine shown_q (Value.int .i64 ta) ?qq_2_2 (fun _ _ => ?qr_2_2)
        case qr_2_2 => exact (rfl : (Value.int .i64 ta) = (Value.int .i64 ta))
        with_reducible refine quietAt_ld 2 (.tmp 14) (Value.pointer (some ⟨p3, 1, none⟩)) (Value.int .i64 ta) ?h0_2_2 ?h1_2_2 ?h2_2_2
        case h0_2_2 => rfl
        case h1_2_2 => exact e14
        case h2_2_2 => exact ld2 ((HB3.out.keep hu).cell 1)
      · intro A u hu hpu hsz hout hdeps
        have e15 : A.eval (.tmp 15) = (.int .i64 ta) := by have h := depL hdeps 2 (by kernel_rfl) 15 (by kernel_rfl); exact h
        refine ifw_none rfl ?_
        with_reducible refine shown_q (Value.int .u64 D) ?qq_2_3 (fun _ _ => ?qr_2_3)
        case qr_2_3 => exact (rfl : (Value.int .u64 D) = (Value.int .u64 D))
        with_reducible refine quietAt_call 28 Try.f28 ?h0_2_3 ?h1_2_3 ?h2_2_3 #[.tmp 15, .const (.int .i64 9223372036854775807)] #[2, 2] ?h3_2_3 (Value.int .u64 D) #[(Value.int .i64 ta), (Value.int .i64 9223372036854775807)] ?h4_2_3 ?h5_2_3
        case h0_2_3 => exact Try.func28
        case h1_2_3 => kernel_rfl
        case h2_2_3 => kernel_rfl
        case h3_2_3 => rfl
        case h4_2_3 => exact map2 _ _ _ _ _ e15 rfl
        case h5_2_3 => exact HCB.out u |>.mono (fun e w' h => ⟨h.1, by rw [h.2]; exact grefl _ _⟩)
      · intro A u hu hpu hsz hout hdeps
        have e2 : A.eval (.tmp 2) = (.pointer (some ⟨p2, 0, none⟩)) := (hout 2 (by kernel_rfl)).trans rfl
        refine ifw_none rfl ?_
        with_reducible refine shown_q (Value.agg [Value.int .i64 H, Value.int .u64 (l : Int)].toArray) ?qq_2_4 (fun _ _ => ?qr_2_4)
        case qr_2_4 => exact (rfl : (Value.agg [Value.int .i64 H, Value.int .u64 (l : Int)].toArray) = (Value.agg [Value.int .i64 H, Value.int .u64 (l : Int)].toArray))
        with_reducible refine quietAt_load 28 (.tmp 2) ?h0_2_4 p2 0 [Value.int .i64 H, Value.int .u64 (l : Int)] (.struct (Try.prog.fieldsOf 28)) ?h1_2_4 ?h2_2_4 ?h3_2_4 ?h4_2_4 ?h5_2_4
        case h0_2_4 => rfl
        case h1_2_4 => exact e2
        case h2_2_4 => exact (HC3.out.keep hu).whole
        case h3_2_4 => exact Try.underlying28
        case h4_2_4 => rfl
        case h5_2_4 => exact Try.size28
      · intro A u hu hpu hsz hout hdeps
        have e17 : A.eval (.tmp 17) = (.agg [.int .i64 H, .int .u64 (l : Int)].toArray) := by have h := depL hdeps 4 (by kernel_rfl) 17 (by kernel_rfl); exact h
        refine ifw_none rfl ?_
        with_reducible refine shown_q (Value.int .u64 M) ?qq_2_5 (fun _ _ => ?qr_2_5)
        case qr_2_5 => exact (rfl : (Value.int .u64 M) = (Value.int .u64 M))
        with_reducible refine quietAt_call 29 Try.f29 ?h0_2_5 ?h1_2_5 ?h2_2_5 #[.tmp 17] #[28] ?h3_2_5 (Value.int .u64 M) #[(Value.agg [Value.int .i64 H, Value.int .u64 (l : Int)].toArray)] ?h4_2_5 ?h5_2_5
        case h0_2_5 => exact Try.func29
        case h1_2_5 => kernel_rfl
        case h2_2_5 => kernel_rfl
        case h3_2_5 => rfl
        case h4_2_5 => exact map1 _ _ _ e17
        case h5_2_5 => exact HCH.out u
      · intro A u hu hpu hsz hout hdeps
        have e16 : A.eval (.tmp 16) = (.int .u64 D) := by have h := depL hdeps 3 (by kernel_rfl) 16 (by kernel_rfl); exact h
        have e18 : A.eval (.tmp 18) = (.int .u64 M) := by have h := depL hdeps 5 (by kernel_rfl) 18 (by kernel_rfl); exact h
        refine ifw_none rfl ?_
        with_reducible refine shown_q (Value.int .u64 Qv) ?qq_2_6 (fun _ _ => ?qr_2_6)
        case qr_2_6 => exact (rfl : (Value.int .u64 Qv) = (Value.int .u64 Qv))
        with_reducible refine quietAt_bin .quo 26 (.tmp 16) (.tmp 18) 26 (Value.int .u64 D) (Value.int .u64 M) (Value.int .u64 Qv) ?h0_2_6 ?h1_2_6 ?h2_2_6 ?h3_2_6
        case h0_2_6 => rfl
        case h1_2_6 => exact e16
        case h2_2_6 => exact e18
        case h3_2_6 => exact HQ.out _ _ u
      · intro A u hu hpu hsz hout hdeps
        have e13 : A.eval (.tmp 13) = (.int .u64 (k : Int)) := by have h := depL hdeps 0 (by kernel_rfl) 13 (by kernel_rfl); exact h
        have e19 : A.eval (.tmp 19) = (.int .u64 Qv) := by have h := depL hdeps 6 (by kernel_rfl) 19 (by kernel_rfl); exact h
        refine ifw_none rfl ?_
        with_reducible refine shown_q (Value.bool true) ?qq_2_7 (fun _ _ => ?qr_2_7)
        case qr_2_7 => exact (rfl : (Value.bool true) = (Value.bool true))
        with_reducible refine quietAt_bin .gtr 26 (.tmp 13) (.tmp 19) 26 (Value.int .u64 (k : Int)) (Value.int .u64 Qv) (Value.bool true) ?h0_2_7 ?h1_2_7 ?h2_2_7 ?h3_2_7
        case h0_2_7 => rfl
        case h1_2_7 => exact e13
        case h2_2_7 => exact e19
        case h3_2_7 => exact HGt.out _ _ u
      · intro A w5 listed hh hall
        have hA := hh.frame
        have HU := hid hh.grown
        obtain ⟨x13, hx13⟩ : ∃ x, A.eval (.tmp 13) = x := ⟨_, rfl⟩
        have f13 : (fun v _ => v = (Value.int .u64 (k : Int))) x13 w5 := by rw [← hx13]; exact hh.got 0 _ 13 rfl rfl (hall 0 (by decide))
        obtain ⟨x14, hx14⟩ : ∃ x, A.eval (.tmp 14) = x := ⟨_, rfl⟩
        have f14 : (fun v _ => v = (Value.pointer (some ⟨p3, 1, none⟩))) x14 w5 := by rw [← hx14]; exact hh.got 1 _ 14 rfl rfl (hall 1 (by decide))
        obtain ⟨x15, hx15⟩ : ∃ x, A.eval (.tmp 15) = x := ⟨_, rfl⟩
        have f15 : (fun v _ => v = (Value.int .i64 ta)) x15 w5 := by rw [← hx15]; exact hh.got 2 _ 15 rfl rfl (hall 2 (by decide))
        obtain ⟨x16, hx16⟩ : ∃ x, A.eval (.tmp 16) = x := ⟨_, rfl⟩
        have f16 : (fun v _ => v = (Value.int .u64 D)) x16 w5 := by rw [← hx16]; exact hh.got 3 _ 16 rfl rfl (hall 3 (by decide))
        obtain ⟨x17, hx17⟩ : ∃ x, A.eval (.tmp 17) = x := ⟨_, rfl⟩
        have f17 : (fun v _ => v = (Value.agg [Value.int .i64 H, Value.int .u64 (l : Int)].toArray)) x17 w5 := by rw [← hx17]; exact hh.got 4 _ 17 rfl rfl (hall 4 (by decide))
        obtain ⟨x18, hx18⟩ : ∃ x, A.eval (.tmp 18) = x := ⟨_, rfl⟩
        have f18 : (fun v _ => v = (Value.int .u64 M)) x18 w5 := by rw [← hx18]; exact hh.got 5 _ 18 rfl rfl (hall 5 (by decide))
        obtain ⟨x19, hx19⟩ : ∃ x, A.eval (.tmp 19) = x := ⟨_, rfl⟩
        have f19 : (fun v _ => v = (Value.int .u64 Qv)) x19 w5 := by rw [← hx19]; exact hh.got 6 _ 19 rfl rfl (hall 6 (by decide))
        obtain ⟨x20, hx20⟩ : ∃ x, A.eval (.tmp 20) = x := ⟨_, rfl⟩
        have f20 : (fun v _ => v = (Value.bool true)) x20 w5 := by rw [← hx20]; exact hh.got 7 _ 20 rfl rfl (hall 7 (by decide))
        dsimp only [wrote, List.foldl] at hA
        rw [hx13, hx14, hx15, hx16, hx17, hx18, hx19, hx20] at hA
        clear hh hall hx13 hx14 hx15 hx16 hx17 hx18 hx19 hx20
        replace f13 := (f13 : x13 = (.int .u64 (k : Int)))
        subst f13
        replace f14 := (f14 : x14 = (.pointer (some ⟨p3, 1, none⟩)))
        subst f14
        replace f15 := (f15 : x15 = (.int .i64 ta))
        subst f15
        replace f16 := (f16 : x16 = (.int .u64 D))
        subst f16
        replace f17 := (f17 : x17 = (.agg [.int .i64 H, .int .u64 (l : Int)].toArray))
        subst f17
        replace f18 := (f18 : x18 = (.int .u64 M))
        subst f18
        replace f19 := (f19 : x19 = (.int .u64 Qv))
        subst f19
        replace f20 := (f20 : x20 = (.bool true))
        subst f20
        subst hA
        show wpList _ _ _ [] _ _
        unfold wpList
        simp only [Act.put, List.setIfInBounds_toArray, List.set_cons_succ, List.set_cons_zero]
        go_wp2_with fail
        have e1 := HBB.out k
        rw [decide_eq_false (by omega)] at e1
        have e2 := HXX.out k
        rw [e1, if_neg (by decide)] at e2
        go_ret2
        exact ⟨k, hk1, by rw [e2, e1]; rfl, hk2, gtrans HG3.out HU.out⟩
    · have HGt : Hid (∀ (x y : Operand) (u : World), (do eqGuard .gtr 26 x y (.int .u64 (k : Int)) (.int .u64 Qv); binOp .gtr 26 (.int .u64 (k : Int)) (.int .u64 Qv) : Sem Value).run Try.prog u = .ok (.bool false) u) := hid (fun x y u => by rw [gtr64, decide_eq_false hgt])
      go_wp2_with fail
      refine wp_region_list (by kernel_rfl) [fun v _ => v = (Value.int .u64 (k : Int)), fun v _ => v = (Value.pointer (some ⟨p3, 1, none⟩)), fun v _ => v = (Value.int .i64 ta), fun v _ => v = (Value.int .u64 D), fun v _ => v = (Value.agg [Value.int .i64 H, Value.int .u64 (l : Int)].toArray), fun v _ => v = (Value.int .u64 M), fun v _ => v = (Value.int .u64 Qv), fun v _ => v = (Value.bool false)] (none) (fun _ => none) 8 (by kernel_rfl) (by kernel_rfl) (by kernel_rfl) (by kernel_rfl) (by decide) noRow_one (fun _ => .inl rfl) ⟨fun i v u u' hki h hg => h, fun i v u u' hki h hg => h, fun i v u u' hki h hg => h, fun i v u u' hki h hg => h, fun i v u u' hki h hg => h, fun i v u u' hki h hg => h, fun i v u u' hki h hg => h, fun i v u u' hki h hg => h, trivial⟩ ⟨?_, ?_, ?_, ?_, ?_, ?_, ?_, ?_, trivial⟩ ?_
      · intro A u hu hpu hsz hout hdeps
        have e6 : A.eval (.tmp 6) = (.int .u64 (k : Int)) := (hout 6 (by kernel_rfl)).trans rfl
        refine ifw_none rfl ?_
        with_reducible refine shown_q (Value.int .u64 (k : Int)) ?qq_3_0 (fun _ _ => ?qr_3_0)
        case qr_3_0 => exact (rfl : (Value.int .u64 (k : Int)) = (Value.int .u64 (k : Int)))
        with_reducible refine quietAt_mv (.tmp 6) (Value.int .u64 (k : Int)) ?h0_3_0 ?h1_3_0
        case h0_3_0 => rfl
        case h1_3_0 => exact e6
      · intro A u hu hpu hsz hout hdeps
        have e3 : A.eval (.tmp 3) = (.pointer (some ⟨p3, 0, none⟩)) := (hout 3 (by kernel_rfl)).trans rfl
        refine ifw_none rfl ?_
        with_reducible refine shown_q (Value.pointer (some ⟨p3, 1, none⟩)) ?qq_3_1 (fun _ _ => ?qr_3_1)
        case qr_3_1 => exact (rfl : (Value.pointer (some ⟨p3, 1, none⟩)) = (Value.pointer (some ⟨p3, 1, none⟩)))
        with_reducible refine quietAt_field 37 (.tmp 3) 1 ?h0_3_1 ⟨p3, 0, none⟩ ⟨p3, 1, none⟩ ?h1_3_1 ?h2_3_1
        case h0_3_1 => rfl
        case h1_3_1 => exact e3
        case h2_3_1 => kernel_rfl
      · intro A u hu hpu hsz hout hdeps
        have e14 : A.eval (.tmp 14) = (.pointer (some ⟨p3, 1, none⟩)) := by have h := depL hdeps 1 (by kernel_rfl) 14 (by kernel_rfl); exact h
        refine ifw_none rfl ?_
        with_reducible refine shown_q (Value.int .i64 ta) ?qq_3_2 (fun _ _ => ?qr_3_2)
        case qr_3_2 => exact (rfl : (Value.int .i64 ta) = (Value.int .i64 ta))
        with_reducible refine quietAt_ld 2 (.tmp 14) (Value.pointer (some ⟨p3, 1, none⟩)) (Value.int .i64 ta) ?h0_3_2 ?h1_3_2 ?h2_3_2
        case h0_3_2 => rfl
        case h1_3_2 => exact e14
        case h2_3_2 => exact ld2 ((HB3.out.keep hu).cell 1)
      · intro A u hu hpu hsz hout hdeps
        have e15 : A.eval (.tmp 15) = (.int .i64 ta) := by have h := depL hdeps 2 (by kernel_rfl) 15 (by kernel_rfl); exact h
        refine ifw_none rfl ?_
        with_reducible refine shown_q (Value.int .u64 D) ?qq_3_3 (fun _ _ => ?qr_3_3)
        case qr_3_3 => exact (rfl : (Value.int .u64 D) = (Value.int .u64 D))
        with_reducible refine quietAt_call 28 Try.f28 ?h0_3_3 ?h1_3_3 ?h2_3_3 #[.tmp 15, .const (.int .i64 9223372036854775807)] #[2, 2] ?h3_3_3 (Value.int .u64 D) #[(Value.int .i64 ta), (Value.int .i64 9223372036854775807)] ?h4_3_3 ?h5_3_3
        case h0_3_3 => exact Try.func28
        case h1_3_3 => kernel_rfl
        case h2_3_3 => kernel_rfl
        case h3_3_3 => rfl
        case h4_3_3 => exact map2 _ _ _ _ _ e15 rfl
        case h5_3_3 => exact HCB.out u |>.mono (fun e w' h => ⟨h.1, by rw [h.2]; exact grefl _ _⟩)
      · intro A u hu hpu hsz hout hdeps
        have e2 : A.eval (.tmp 2) = (.pointer (some ⟨p2, 0, none⟩)) := (hout 2 (by kernel_rfl)).trans rfl
        refine ifw_none rfl ?_
        with_reducible refine shown_q (Value.agg [Value.int .i64 H, Value.int .u64 (l : Int)].toArray) ?qq_3_4 (fun _ _ => ?qr_3_4)
        case qr_3_4 => exact (rfl : (Value.agg [Value.int .i64 H, Value.int .u64 (l : Int)].toArray) = (Value.agg [Value.int .i64 H, Value.int .u64 (l : Int)].toArray))
        with_reducible refine quietAt_load 28 (.tmp 2) ?h0_3_4 p2 0 [Value.int .i64 H, Value.int .u64 (l : Int)] (.struct (Try.prog.fieldsOf 28)) ?h1_3_4 ?h2_3_4 ?h3_3_4 ?h4_3_4 ?h5_3_4
        case h0_3_4 => rfl
        case h1_3_4 => exact e2
        case h2_3_4 => exact (HC3.out.keep hu).whole
        case h3_3_4 => exact Try.underlying28
        case h4_3_4 => rfl
        case h5_3_4 => exact Try.size28
      · intro A u hu hpu hsz hout hdeps
        have e17 : A.eval (.tmp 17) = (.agg [.int .i64 H, .int .u64 (l : Int)].toArray) := by have h := depL hdeps 4 (by kernel_rfl) 17 (by kernel_rfl); exact h
        refine ifw_none rfl ?_
        with_reducible refine shown_q (Value.int .u64 M) ?qq_3_5 (fun _ _ => ?qr_3_5)
        case qr_3_5 => exact (rfl : (Value.int .u64 M) = (Value.int .u64 M))
        with_reducible refine quietAt_call 29 Try.f29 ?h0_3_5 ?h1_3_5 ?h2_3_5 #[.tmp 17] #[28] ?h3_3_5 (Value.int .u64 M) #[(Value.agg [Value.int .i64 H, Value.int .u64 (l : Int)].toArray)] ?h4_3_5 ?h5_3_5
        case h0_3_5 => exact Try.func29
        case h1_3_5 => kernel_rfl
        case h2_3_5 => kernel_rfl
        case h3_3_5 => rfl
        case h4_3_5 => exact map1 _ _ _ e17
        case h5_3_5 => exact HCH.out u
      · intro A u hu hpu hsz hout hdeps
        have e16 : A.eval (.tmp 16) = (.int .u64 D) := by have h := depL hdeps 3 (by kernel_rfl) 16 (by kernel_rfl); exact h
        have e18 : A.eval (.tmp 18) = (.int .u64 M) := by have h := depL hdeps 5 (by kernel_rfl) 18 (by kernel_rfl); exact h
        refine ifw_none rfl ?_
        with_reducible refine shown_q (Value.int .u64 Qv) ?qq_3_6 (fun _ _ => ?qr_3_6)
        case qr_3_6 => exact (rfl : (Value.int .u64 Qv) = (Value.int .u64 Qv))
        with_reducible refine quietAt_bin .quo 26 (.tmp 16) (.tmp 18) 26 (Value.int .u64 D) (Value.int .u64 M) (Value.int .u64 Qv) ?h0_3_6 ?h1_3_6 ?h2_3_6 ?h3_3_6
        case h0_3_6 => rfl
        case h1_3_6 => exact e16
        case h2_3_6 => exact e18
        case h3_3_6 => exact HQ.out _ _ u
      · intro A u hu hpu hsz hout hdeps
        have e13 : A.eval (.tmp 13) = (.int .u64 (k : Int)) := by have h := depL hdeps 0 (by kernel_rfl) 13 (by kernel_rfl); exact h
        have e19 : A.eval (.tmp 19) = (.int .u64 Qv) := by have h := depL hdeps 6 (by kernel_rfl) 19 (by kernel_rfl); exact h
        refine ifw_none rfl ?_
        with_reducible refine shown_q (Value.bool false) ?qq_3_7 (fun _ _ => ?qr_3_7)
        case qr_3_7 => exact (rfl : (Value.bool false) = (Value.bool false))
        with_reducible refine quietAt_bin .gtr 26 (.tmp 13) (.tmp 19) 26 (Value.int .u64 (k : Int)) (Value.int .u64 Qv) (Value.bool false) ?h0_3_7 ?h1_3_7 ?h2_3_7 ?h3_3_7
        case h0_3_7 => rfl
        case h1_3_7 => exact e13
        case h2_3_7 => exact e19
        case h3_3_7 => exact HGt.out _ _ u
      · intro A w5 listed hh hall
        have hA := hh.frame
        have HU := hid hh.grown
        obtain ⟨x13, hx13⟩ : ∃ x, A.eval (.tmp 13) = x := ⟨_, rfl⟩
        have f13 : (fun v _ => v = (Value.int .u64 (k : Int))) x13 w5 := by rw [← hx13]; exact hh.got 0 _ 13 rfl rfl (hall 0 (by decide))
        obtain ⟨x14, hx14⟩ : ∃ x, A.eval (.tmp 14) = x := ⟨_, rfl⟩
        have f14 : (fun v _ => v = (Value.pointer (some ⟨p3, 1, none⟩))) x14 w5 := by rw [← hx14]; exact hh.got 1 _ 14 rfl rfl (hall 1 (by decide))
        obtain ⟨x15, hx15⟩ : ∃ x, A.eval (.tmp 15) = x := ⟨_, rfl⟩
        have f15 : (fun v _ => v = (Value.int .i64 ta)) x15 w5 := by rw [← hx15]; exact hh.got 2 _ 15 rfl rfl (hall 2 (by decide))
        obtain ⟨x16, hx16⟩ : ∃ x, A.eval (.tmp 16) = x := ⟨_, rfl⟩
        have f16 : (fun v _ => v = (Value.int .u64 D)) x16 w5 := by rw [← hx16]; exact hh.got 3 _ 16 rfl rfl (hall 3 (by decide))
        obtain ⟨x17, hx17⟩ : ∃ x, A.eval (.tmp 17) = x := ⟨_, rfl⟩
        have f17 : (fun v _ => v = (Value.agg [Value.int .i64 H, Value.int .u64 (l : Int)].toArray)) x17 w5 := by rw [← hx17]; exact hh.got 4 _ 17 rfl rfl (hall 4 (by decide))
        obtain ⟨x18, hx18⟩ : ∃ x, A.eval (.tmp 18) = x := ⟨_, rfl⟩
        have f18 : (fun v _ => v = (Value.int .u64 M)) x18 w5 := by rw [← hx18]; exact hh.got 5 _ 18 rfl rfl (hall 5 (by decide))
        obtain ⟨x19, hx19⟩ : ∃ x, A.eval (.tmp 19) = x := ⟨_, rfl⟩
        have f19 : (fun v _ => v = (Value.int .u64 Qv)) x19 w5 := by rw [← hx19]; exact hh.got 6 _ 19 rfl rfl (hall 6 (by decide))
        obtain ⟨x20, hx20⟩ : ∃ x, A.eval (.tmp 20) = x := ⟨_, rfl⟩
        have f20 : (fun v _ => v = (Value.bool false)) x20 w5 := by rw [← hx20]; exact hh.got 7 _ 20 rfl rfl (hall 7 (by decide))
        dsimp only [wrote, List.foldl] at hA
        rw [hx13, hx14, hx15, hx16, hx17, hx18, hx19, hx20] at hA
        clear hh hall hx13 hx14 hx15 hx16 hx17 hx18 hx19 hx20
        replace f13 := (f13 : x13 = (.int .u64 (k : Int)))
        subst f13
        replace f14 := (f14 : x14 = (.pointer (some ⟨p3, 1, none⟩)))
        subst f14
        replace f15 := (f15 : x15 = (.int .i64 ta))
        subst f15
        replace f16 := (f16 : x16 = (.int .u64 D))
        subst f16
        replace f17 := (f17 : x17 = (.agg [.int .i64 H, .int .u64 (l : Int)].toArray))
        subst f17
        replace f18 := (f18 : x18 = (.int .u64 M))
        subst f18
        replace f19 := (f19 : x19 = (.int .u64 Qv))
        subst f19
        replace f20 := (f20 : x20 = (.bool false))
        subst f20
        subst hA
        show wpList _ _ _ [] _ _
        unfold wpList
        simp only [Act.put, List.setIfInBounds_toArray, List.set_cons_succ, List.set_cons_zero]
        have HC4 := hid (HC3.out.keep HU.out)
        have HB4 := hid (HB3.out.keep HU.out)
        have HG4 := hid (gtrans HG3.out HU.out)
        have hkM := HDD.out k (by omega)
        have hm0 := HM0.out
        have hkM0 : 0 ≤ (k : Int) * M := Int.mul_nonneg (by omega) (by omega)
        have hAb := HAb.out
        have hDv := HDv.out
        have HMu : Hid (∀ (x y : Operand) (u : World), (do eqGuard .mul 26 x y (.int .u64 (k : Int)) (.int .u64 M); binOp .mul 26 (.int .u64 (k : Int)) (.int .u64 M) : Sem Value).run Try.prog u = .ok (.int .u64 ((k : Int) * M)) u) := hid (fun x y u => mul64 hkM0 (by omega) u)
        have HCE := hid (fun u => behind_any ta ((k : Int) * M) u hAb.1 hkM0 (by omega))
        obtain ⟨F, hF⟩ : ∃ F, (k : Int) * M = F := ⟨_, rfl⟩
        rw [hF] at HMu HCE
        clear HC3 HB3 HG3 HU hkM hm0 hkM0 hAb hDv
        go_wp2_with fail
        refine wp_region_list (by kernel_rfl) [fun v _ => v = (Value.pointer (some ⟨p3, 1, none⟩)), fun v _ => v = (Value.int .i64 ta), fun v _ => v = (Value.int .u64 (k : Int)), fun v _ => v = (Value.agg [Value.int .i64 H, Value.int .u64 (l : Int)].toArray), fun v _ => v = (Value.int .u64 M), fun v _ => v = (Value.int .u64 F), fun v _ => v = (Value.int .i64 (ta + F)), fun v _ => v = (Value.int .i64 (ta + F)), fun v _ => v = (Value.bool true)] (none) (fun _ => none) 9 (by kernel_rfl) (by kernel_rfl) (by kernel_rfl) (by kernel_rfl) (by decide) noRow_one (fun _ => .inl rfl) ⟨fun i v u u' hki h hg => h, fun i v u u' hki h hg => h, fun i v u u' hki h hg => h, fun i v u u' hki h hg => h, fun i v u u' hki h hg => h, fun i v u u' hki h hg => h, fun i v u u' hki h hg => h, fun i v u u' hki h hg => h, fun i v u u' hki h hg => h, trivial⟩ ⟨?_, ?_, ?_, ?_, ?_, ?_, ?_, ?_, ?_, trivial⟩ ?_
        · intro A u hu hpu hsz hout hdeps
          have e3 : A.eval (.tmp 3) = (.pointer (some ⟨p3, 0, none⟩)) := (hout 3 (by kernel_rfl)).trans rfl
          refine ifw_none rfl ?_
          with_reducible refine shown_q (Value.pointer (some ⟨p3, 1, none⟩)) ?qq_4_0 (fun _ _ => ?qr_4_0)
          case qr_4_0 => exact (rfl : (Value.pointer (some ⟨p3, 1, none⟩)) = (Value.pointer (some ⟨p3, 1, none⟩)))
          with_reducible refine quietAt_field 37 (.tmp 3) 1 ?h0_4_0 ⟨p3, 0, none⟩ ⟨p3, 1, none⟩ ?h1_4_0 ?h2_4_0
          case h0_4_0 => rfl
          case h1_4_0 => exact e3
          case h2_4_0 => kernel_rfl
        · intro A u hu hpu hsz hout hdeps
          have e21 : A.eval (.tmp 21) = (.pointer (some ⟨p3, 1, none⟩)) := by have h := depL hdeps 0 (by kernel_rfl) 21 (by kernel_rfl); exact h
          refine ifw_none rfl ?_
          with_reducible refine shown_q (Value.int .i64 ta) ?qq_4_1 (fun _ _ => ?qr_4_1)
          case qr_4_1 => exact (rfl : (Value.int .i64 ta) = (Value.int .i64 ta))
          with_reducible refine quietAt_ld 2 (.tmp 21) (Value.pointer (some ⟨p3, 1, none⟩)) (Value.int .i64 ta) ?h0_4_1 ?h1_4_1 ?h2_4_1
          case h0_4_1 => rfl
          case h1_4_1 => exact e21
          case h2_4_1 => exact ld2 ((HB4.out.keep hu).cell 1)
        · intro A u hu hpu hsz hout hdeps
          have e6 : A.eval (.tmp 6) = (.int .u64 (k : Int)) := (hout 6 (by kernel_rfl)).trans rfl
          refine ifw_none rfl ?_
          with_reducible refine shown_q (Value.int .u64 (k : Int)) ?qq_4_2 (fun _ _ => ?qr_4_2)
          case qr_4_2 => exact (rfl : (Value.int .u64 (k : Int)) = (Value.int .u64 (k : Int)))
          with_reducible refine quietAt_mv (.tmp 6) (Value.int .u64 (k : Int)) ?h0_4_2 ?h1_4_2
          case h0_4_2 => rfl
          case h1_4_2 => exact e6
        · intro A u hu hpu hsz hout hdeps
          have e2 : A.eval (.tmp 2) = (.pointer (some ⟨p2, 0, none⟩)) := (hout 2 (by kernel_rfl)).trans rfl
          refine ifw_none rfl ?_
          with_reducible refine shown_q (Value.agg [Value.int .i64 H, Value.int .u64 (l : Int)].toArray) ?qq_4_3 (fun _ _ => ?qr_4_3)
          case qr_4_3 => exact (rfl : (Value.agg [Value.int .i64 H, Value.int .u64 (l : Int)].toArray) = (Value.agg [Value.int .i64 H, Value.int .u64 (l : Int)].toArray))
          with_reducible refine quietAt_load 28 (.tmp 2) ?h0_4_3 p2 0 [Value.int .i64 H, Value.int .u64 (l : Int)] (.struct (Try.prog.fieldsOf 28)) ?h1_4_3 ?h2_4_3 ?h3_4_3 ?h4_4_3 ?h5_4_3
          case h0_4_3 => rfl
          case h1_4_3 => exact e2
          case h2_4_3 => exact (HC4.out.keep hu).whole
          case h3_4_3 => exact Try.underlying28
          case h4_4_3 => rfl
          case h5_4_3 => exact Try.size28
        · intro A u hu hpu hsz hout hdeps
          have e24 : A.eval (.tmp 24) = (.agg [.int .i64 H, .int .u64 (l : Int)].toArray) := by have h := depL hdeps 3 (by kernel_rfl) 24 (by kernel_rfl); exact h
          refine ifw_none rfl ?_
          with_reducible refine shown_q (Value.int .u64 M) ?qq_4_4 (fun _ _ => ?qr_4_4)
          case qr_4_4 => exact (rfl : (Value.int .u64 M) = (Value.int .u64 M))
          with_reducible refine quietAt_call 29 Try.f29 ?h0_4_4 ?h1_4_4 ?h2_4_4 #[.tmp 24] #[28] ?h3_4_4 (Value.int .u64 M) #[(Value.agg [Value.int .i64 H, Value.int .u64 (l : Int)].toArray)] ?h4_4_4 ?h5_4_4
          case h0_4_4 => exact Try.func29
          case h1_4_4 => kernel_rfl
          case h2_4_4 => kernel_rfl
          case h3_4_4 => rfl
          case h4_4_4 => exact map1 _ _ _ e24
          case h5_4_4 => exact HCH.out u
        · intro A u hu hpu hsz hout hdeps
          have e23 : A.eval (.tmp 23) = (.int .u64 (k : Int)) := by have h := depL hdeps 2 (by kernel_rfl) 23 (by kernel_rfl); exact h
          have e25 : A.eval (.tmp 25) = (.int .u64 M) := by have h := depL hdeps 4 (by kernel_rfl) 25 (by kernel_rfl); exact h
          refine ifw_none rfl ?_
          with_reducible refine shown_q (Value.int .u64 F) ?qq_4_5 (fun _ _ => ?qr_4_5)
          case qr_4_5 => exact (rfl : (Value.int .u64 F) = (Value.int .u64 F))
          with_reducible refine quietAt_bin .mul 26 (.tmp 23) (.tmp 25) 26 (Value.int .u64 (k : Int)) (Value.int .u64 M) (Value.int .u64 F) ?h0_4_5 ?h1_4_5 ?h2_4_5 ?h3_4_5
          case h0_4_5 => rfl
          case h1_4_5 => exact e23
          case h2_4_5 => exact e25
          case h3_4_5 => exact HMu.out _ _ u
        · intro A u hu hpu hsz hout hdeps
          have e22 : A.eval (.tmp 22) = (.int .i64 ta) := by have h := depL hdeps 1 (by kernel_rfl) 22 (by kernel_rfl); exact h
          have e26 : A.eval (.tmp 26) = (.int .u64 F) := by have h := depL hdeps 5 (by kernel_rfl) 26 (by kernel_rfl); exact h
          refine ifw_none rfl ?_
          with_reducible refine shown_q (Value.int .i64 (ta + F)) ?qq_4_6 (fun _ _ => ?qr_4_6)
          case qr_4_6 => exact (rfl : (Value.int .i64 (ta + F)) = (Value.int .i64 (ta + F)))
          with_reducible refine quietAt_call 33 Try.f33 ?h0_4_6 ?h1_4_6 ?h2_4_6 #[.tmp 22, .tmp 26] #[2, 26] ?h3_4_6 (Value.int .i64 (ta + F)) #[(Value.int .i64 ta), (Value.int .u64 F)] ?h4_4_6 ?h5_4_6
          case h0_4_6 => exact Try.func33
          case h1_4_6 => kernel_rfl
          case h2_4_6 => kernel_rfl
          case h3_4_6 => rfl
          case h4_4_6 => exact map2 _ _ _ _ _ e22 e26
          case h5_4_6 => exact HCE.out u |>.mono (fun e w' h => ⟨h.1, by rw [h.2]; exact grefl _ _⟩)
        · intro A u hu hpu hsz hout hdeps
          have e27 : A.eval (.tmp 27) = (.int .i64 (ta + F)) := by have h := depL hdeps 6 (by kernel_rfl) 27 (by kernel_rfl); exact h
          refine ifw_none rfl ?_
          with_reducible refine shown_q (Value.int .i64 (ta + F)) ?qq_4_7 (fun _ _ => ?qr_4_7)
          case qr_4_7 => exact (rfl : (Value.int .i64 (ta + F)) = (Value.int .i64 (ta + F)))
          with_reducible refine quietAt_as (.tmp 27) (Value.int .i64 (ta + F)) ?h0_4_7 ?h1_4_7
          case h0_4_7 => rfl
          case h1_4_7 => exact e27
        · intro A u hu hpu hsz hout hdeps
          refine ifw_none rfl ?_
          with_reducible refine shown_q (Value.bool true) ?qq_4_8 (fun _ _ => ?qr_4_8)
          case qr_4_8 => exact (rfl : (Value.bool true) = (Value.bool true))
          with_reducible refine quietAt_as (.const (.bool true)) (Value.bool true) ?h0_4_8 ?h1_4_8
          case h0_4_8 => rfl
          case h1_4_8 => exact rfl
        · intro A w6 listed hh hall
          have hA := hh.frame
          have HU := hid hh.grown
          obtain ⟨x21, hx21⟩ : ∃ x, A.eval (.tmp 21) = x := ⟨_, rfl⟩
          have f21 : (fun v _ => v = (Value.pointer (some ⟨p3, 1, none⟩))) x21 w6 := by rw [← hx21]; exact hh.got 0 _ 21 rfl rfl (hall 0 (by decide))
          obtain ⟨x22, hx22⟩ : ∃ x, A.eval (.tmp 22) = x := ⟨_, rfl⟩
          have f22 : (fun v _ => v = (Value.int .i64 ta)) x22 w6 := by rw [← hx22]; exact hh.got 1 _ 22 rfl rfl (hall 1 (by decide))
          obtain ⟨x23, hx23⟩ : ∃ x, A.eval (.tmp 23) = x := ⟨_, rfl⟩
          have f23 : (fun v _ => v = (Value.int .u64 (k : Int))) x23 w6 := by rw [← hx23]; exact hh.got 2 _ 23 rfl rfl (hall 2 (by decide))
          obtain ⟨x24, hx24⟩ : ∃ x, A.eval (.tmp 24) = x := ⟨_, rfl⟩
          have f24 : (fun v _ => v = (Value.agg [Value.int .i64 H, Value.int .u64 (l : Int)].toArray)) x24 w6 := by rw [← hx24]; exact hh.got 3 _ 24 rfl rfl (hall 3 (by decide))
          obtain ⟨x25, hx25⟩ : ∃ x, A.eval (.tmp 25) = x := ⟨_, rfl⟩
          have f25 : (fun v _ => v = (Value.int .u64 M)) x25 w6 := by rw [← hx25]; exact hh.got 4 _ 25 rfl rfl (hall 4 (by decide))
          obtain ⟨x26, hx26⟩ : ∃ x, A.eval (.tmp 26) = x := ⟨_, rfl⟩
          have f26 : (fun v _ => v = (Value.int .u64 F)) x26 w6 := by rw [← hx26]; exact hh.got 5 _ 26 rfl rfl (hall 5 (by decide))
          obtain ⟨x27, hx27⟩ : ∃ x, A.eval (.tmp 27) = x := ⟨_, rfl⟩
          have f27 : (fun v _ => v = (Value.int .i64 (ta + F))) x27 w6 := by rw [← hx27]; exact hh.got 6 _ 27 rfl rfl (hall 6 (by decide))
          obtain ⟨x4, hx4⟩ : ∃ x, A.eval (.tmp 4) = x := ⟨_, rfl⟩
          have f4 : (fun v _ => v = (Value.int .i64 (ta + F))) x4 w6 := by rw [← hx4]; exact hh.got 7 _ 4 rfl rfl (hall 7 (by decide))
          obtain ⟨x5, hx5⟩ : ∃ x, A.eval (.tmp 5) = x := ⟨_, rfl⟩
          have f5 : (fun v _ => v = (Value.bool true)) x5 w6 := by rw [← hx5]; exact hh.got 8 _ 5 rfl rfl (hall 8 (by decide))
          dsimp only [wrote, List.foldl] at hA
          rw [hx21, hx22, hx23, hx24, hx25, hx26, hx27, hx4, hx5] at hA
          clear hh hall hx21 hx22 hx23 hx24 hx25 hx26 hx27 hx4 hx5
          replace f21 := (f21 : x21 = (.pointer (some ⟨p3, 1, none⟩)))
          subst f21
          replace f22 := (f22 : x22 = (.int .i64 ta))
          subst f22
          replace f23 := (f23 : x23 = (.int .u64 (k : Int)))
          subst f23
          replace f24 := (f24 : x24 = (.agg [.int .i64 H, .int .u64 (l : Int)].toArray))
          subst f24
          replace f25 := (f25 : x25 = (.int .u64 M))
          subst f25
          replace f26 := (f26 : x26 = (.int .u64 F))
          subst f26
          replace f27 := (f27 : x27 = (.int .i64 (ta + F)))
          subst f27
          replace f4 := (f4 : x4 = (.int .i64 (ta + F)))
          subst f4
          replace f5 := (f5 : x5 = (.bool true))
          subst f5
          subst hA
          show wpList _ _ _ [] _ _
          unfold wpList
          simp only [Act.put, List.setIfInBounds_toArray, List.set_cons_succ, List.set_cons_zero]
          go_wp2_with fail
          have e1 := HBB.out k
          rw [decide_eq_true (by omega)] at e1
          have e2 := HXX.out k
          rw [e1, if_pos rfl, hF] at e2
          go_ret2
          exact ⟨k, hk1, by rw [e2, e1]; rfl, hk2, gtrans HG4.out HU.out⟩

/-- What Wait tells. -/
def waitIs (H : Int) (l s : Nat) (ta now x : Int) (b : Bool) : Prop :=
  (nowS H s ta now < l ∧ x = 0 ∧ b = true) ∨ (l ≤ nowS H s ta now ∧ ∃ k, isHB l (nowS H s ta now) k ∧
    ((nowA H ta now + k * max H 1 ≤ 9223372036854775807 ∧ nowA H ta now + k * max H 1 - now ≤ 9223372036854775807 ∧ x = nowA H ta now + k * max H 1 - now ∧ b = true) ∨
     (¬ (nowA H ta now + k * max H 1 ≤ 9223372036854775807 ∧ nowA H ta now + k * max H 1 - now ≤ 9223372036854775807) ∧ x = 0 ∧ b = false)))
theorem nowA_bd {H ta now : Int} (h1 : -9223372036854775808 ≤ ta) (h2 : ta ≤ 9223372036854775807) (h3 : now ≤ 9223372036854775807) : -9223372036854775808 ≤ nowA H ta now ∧ nowA H ta now ≤ 9223372036854775807 ∧ now < nowA H ta now + max H 1 := by
  unfold nowA
  split
  · omega
  · have := nowK_bd (H := H) (show ta < now by omega)
    omega
theorem nowS_fin {H ta now : Int} {s : Nat} (h : Fnt s) : Fnt (nowS H s ta now) := by
  unfold nowS; split
  · exact h
  · exact hfN_fin h _
/-- Now of Now, at the same time. -/
theorem nowA_self {H ta now : Int} : nowA H (nowA H ta now) now = nowA H ta now := by
  by_cases h : now ≤ ta
  · have e : nowA H ta now = ta := by unfold nowA; rw [if_pos h]
    rw [e, e]
  · have hk := nowK_bd (H := H) (show ta < now by omega)
    obtain ⟨T, hT⟩ : ∃ T, nowA H ta now = T := ⟨_, rfl⟩
    have e : T = ta + nowK H ta now * max H 1 := by rw [← hT]; unfold nowA; rw [if_neg h]
    rw [hT]
    unfold nowA
    split
    · rfl
    · rename_i h2
      have h3 := nowK_bd (H := H) (show T < now by omega)
      have : nowK H T now = 0 := by
        unfold nowK
        exact Int.ediv_eq_zero_of_lt (by omega) (by omega)
      rw [this]; omega
theorem nowS_self {H ta now : Int} {s : Nat} : nowS H s (nowA H ta now) now = s := by
  by_cases h : now ≤ ta
  · have e : nowA H ta now = ta := by unfold nowA; rw [if_pos h]
    rw [e]; unfold nowS; rw [if_pos h]
  · have hk := nowK_bd (H := H) (show ta < now by omega)
    obtain ⟨T, hT⟩ : ∃ T, nowA H ta now = T := ⟨_, rfl⟩
    have e : T = ta + nowK H ta now * max H 1 := by rw [← hT]; unfold nowA; rw [if_neg h]
    rw [hT]
    unfold nowS
    split
    · rfl
    · have : nowK H T now = 0 := by
        unfold nowK
        exact Int.ediv_eq_zero_of_lt (by omega) (by omega)
      rw [this]; rfl
set_option maxRecDepth 100000 in
set_option maxHeartbeats 800000 in
theorem wait_any (H : Int) (l s : Nat) (ta now : Int) (w : World) (hH : H ≤ 9223372036854775807) (hA : -9223372036854775808 ≤ ta) (hA2 : ta ≤ 9223372036854775807) (hn : now ≤ 9223372036854775807) (hn0 : -9223372036854775808 ≤ now) :
    Calls Try.prog 21 #[.agg #[.int .i64 H, .int .u64 (l : Int)], .agg #[.int .u64 (s : Int), .int .i64 ta], .int .i64 now] w fun e w' => ∃ (x : Int) (b : Bool), e = .returned (.tuple #[.int .i64 x, .bool b]) ∧ (Fnt s → Fnt l → 0 < l → waitIs H l s ta now x b) ∧ w.grownBy w' none := by
  have HCN := hid (fun u => now_any H l s ta now u hH hA hA2 hn)
  have hbd := nowA_bd (H := H) hA hA2 hn
  have HCL := hid (fun (r : Nat) u => locked_any H l r (nowA H ta now) now u hH hbd.1 hbd.2.1 hn)
  have HCU := hid (fun (r : Nat) u => unlocks_any H l r (nowA H ta now) u hH hbd.1 hbd.2.1)
  have HW : Hid (∀ x b, waitIs H l s ta now x b ↔ (nowS H s ta now < l ∧ x = 0 ∧ b = true) ∨ (l ≤ nowS H s ta now ∧ ∃ k, isHB l (nowS H s ta now) k ∧
    ((nowA H ta now + k * max H 1 ≤ 9223372036854775807 ∧ nowA H ta now + k * max H 1 - now ≤ 9223372036854775807 ∧ x = nowA H ta now + k * max H 1 - now ∧ b = true) ∨
     (¬ (nowA H ta now + k * max H 1 ≤ 9223372036854775807 ∧ nowA H ta now + k * max H 1 - now ≤ 9223372036854775807) ∧ x = 0 ∧ b = false)))) := hid (fun x b => Iff.rfl)
  have HSf : Hid (Fnt s → Fnt (nowS H s ta now)) := hid (fun h => nowS_fin h)
  simp only [nowS_self] at HCL
  have HWR : Hid (∀ x b, (Fnt s → Fnt l → 0 < l → (nowS H s ta now < l ∧ x = 0 ∧ b = true) ∨ (l ≤ nowS H s ta now ∧ ∃ k, isHB l (nowS H s ta now) k ∧
    ((nowA H ta now + k * max H 1 ≤ 9223372036854775807 ∧ nowA H ta now + k * max H 1 - now ≤ 9223372036854775807 ∧ x = nowA H ta now + k * max H 1 - now ∧ b = true) ∨
     (¬ (nowA H ta now + k * max H 1 ≤ 9223372036854775807 ∧ nowA H ta now + k * max H 1 - now ≤ 9223372036854775807) ∧ x = 0 ∧ b = false)))) → (Fnt s → Fnt l → 0 < l → waitIs H l s ta now x b)) := hid (fun x b h => h)
  have HUX : Hid (∀ k : Nat, unlX H (nowA H ta now) k = if unlB H (nowA H ta now) k = true then nowA H ta now + k * max H 1 else 0) := hid (fun k => rfl)
  have HUB : Hid (∀ k : Nat, unlB H (nowA H ta now) k = decide (nowA H ta now + k * max H 1 ≤ 9223372036854775807)) := hid (fun k => rfl)
  have HEnd : Hid (now < nowA H ta now + max H 1) := hid hbd.2.2
  have HM0 : Hid (0 < max H 1) := hid (by omega)
  have HN := hid (And.intro hn0 hn)
  obtain ⟨M, hM⟩ : ∃ M, max H 1 = M := ⟨_, rfl⟩
  obtain ⟨T, hT⟩ : ∃ T, nowA H ta now = T := ⟨_, rfl⟩
  obtain ⟨S, hS⟩ : ∃ S, nowS H s ta now = S := ⟨_, rfl⟩
  rw [hT, hS] at HCN
  rw [hT] at HCL HCU
  rw [hS] at HSf
  simp only [hT, hS, hM] at HWR HUX HUB HEnd HM0
  clear hT hS hM hH hA hA2 hn hn0 hbd HW
  go_enter Try.func21, Try.ntmps21
  go_wp2_with (first
    | (have := HG2; clear this; (with_reducible refine wpList_load_part (by with_unfolding_all rfl) 37 _ (by with_unfolding_all rfl) _ 0 [.int .u64 (s : Int), .int .i64 ta] _ (by with_unfolding_all rfl) HB2.out.whole Try.underlying37 (by with_unfolding_all rfl) (by with_unfolding_all exact Try.size37) ?_))
    | (have := HG2; clear this; (with_reducible refine wpList_load_part (by with_unfolding_all rfl) 28 _ (by with_unfolding_all rfl) _ 0 [.int .i64 H, .int .u64 (l : Int)] _ (by with_unfolding_all rfl) HC2.out.whole Try.underlying28 (by with_unfolding_all rfl) (by with_unfolding_all exact Try.size28) ?_))
    | (have := HG1; clear this; (with_reducible refine wpList_box_row (by with_unfolding_all rfl) 37 _ (by with_unfolding_all rfl) [.int .u64 (s : Int), .int .i64 ta] (by with_unfolding_all rfl) ?_); intro w2 B2 s2 g2; have HB2 := hid B2; have HC2 := hid (HB1.out.keep g2); have HG2 := hid (gtrans HG1.out g2); clear B2 s2 g2)
    | ((with_reducible refine wpList_box_row (by with_unfolding_all rfl) 28 _ (by with_unfolding_all rfl) [.int .i64 H, .int .u64 (l : Int)] (by with_unfolding_all rfl) ?_); intro w1 B1 s1 g1; have HB1 := hid B1; have HG1 := hid g1; clear B1 s1 g1))
  refine (HCN.out _).mono ?_
  rintro e w4 ⟨r, rfl, hr4, hg4⟩
  have HR4 := hid hr4
  have HC4 := hid (HC2.out.keep hg4)
  have HG4 := hid (gtrans HG2.out hg4)
  clear hr4 hg4 HB1 HB2 HC2 HG1
  go_wp2_with (first
    | (have := HX6; clear this; (with_reducible refine wpList_load_part (by with_unfolding_all rfl) 28 _ (by with_unfolding_all rfl) _ 0 [.int .i64 H, .int .u64 (l : Int)] _ (by with_unfolding_all rfl) HC6.out.whole Try.underlying28 (by with_unfolding_all rfl) (by with_unfolding_all exact Try.size28) ?_))
    | (have := HX6; clear this; (with_reducible refine wpList_load_part (by with_unfolding_all rfl) 37 _ (by with_unfolding_all rfl) _ 0 [.int .u64 (r : Int), .int .i64 T] _ (by with_unfolding_all rfl) HX6.out.whole Try.underlying37 (by with_unfolding_all rfl) (by with_unfolding_all exact Try.size37) ?_))
    | (have := HG5; clear this; (with_reducible refine wpList_store_all (by with_unfolding_all rfl) 37 _ _ (by with_unfolding_all rfl) _ [.int .u64 0, .int .i64 0] [.int .u64 (r : Int), .int .i64 T] 37 (by with_unfolding_all rfl) (by with_unfolding_all rfl) HX5.out (by with_unfolding_all rfl) (by with_unfolding_all exact Try.size37) (one2 _ _ _ _) ?_); intro w6 B6 g6 s6; have HX6 := hid B6; have HC6 := hid (HC5.out.on g6 (by have := HC4.out.lt; simp; omega)); have HG6 := hid (HG5.out.andThen g6 (fun j hj => .inl (by injection hj with hj; have := HG4.out.size; omega))); clear B6 g6 s6)
    | ((with_reducible refine wpList_alloc_row (by with_unfolding_all rfl) 37 (by with_unfolding_all rfl) [.int .u64 0, .int .i64 0] Try.zero37 ?_); intro w5 B5 s5 g5; have HX5 := hid B5; have HC5 := hid (HC4.out.keep g5); have HG5 := hid (gtrans HG4.out g5); clear B5 s5 g5))
  refine (HCL.out r _).mono ?_
  rintro e w7 ⟨g, rfl, hg7, hg8⟩
  have HGl := hid hg7
  have HC7 := hid (HC6.out.keep hg8)
  have HX7 := hid (HX6.out.keep hg8)
  have HG7 := hid (gtrans HG6.out hg8)
  clear hg7 hg8 HC4 HC5 HC6 HX5 HX6 HG4 HG5 HG6
  cases g with
  | false =>
    go_wp2_with fail
    go_ret2
    refine ⟨0, true, rfl, HWR.out _ _ (fun h1 h2 h3 => .inl ⟨?_, rfl, rfl⟩), HG7.out⟩
    have e := HGl.out (by rw [HR4.out h1]; exact HSf.out h1) h2
    rw [HR4.out h1] at e
    have := of_decide_eq_false e.symm
    omega
  | true =>
    go_wp2_with (first
      | (with_reducible refine wpList_load_part (by with_unfolding_all rfl) 28 _ (by with_unfolding_all rfl) _ 0 [.int .i64 H, .int .u64 (l : Int)] _ (by with_unfolding_all rfl) HC7.out.whole Try.underlying28 (by with_unfolding_all rfl) (by with_unfolding_all exact Try.size28) ?_)
      | (with_reducible refine wpList_load_part (by with_unfolding_all rfl) 37 _ (by with_unfolding_all rfl) _ 0 [.int .u64 (r : Int), .int .i64 T] _ (by with_unfolding_all rfl) HX7.out.whole Try.underlying37 (by with_unfolding_all rfl) (by with_unfolding_all exact Try.size37) ?_))
    refine (HCU.out r _).mono ?_
    rintro e w8 ⟨k, hk1, rfl, hk2, hg8⟩
    have HK := hid hk2
    have HG8 := hid (gtrans HG7.out hg8)
    have HLk : Hid (Fnt s → Fnt l → 0 < l → l ≤ S ∧ isHB l S k ∧ 1 ≤ k) := hid (fun h1 h2 h3 => by
      have e := HGl.out (by rw [HR4.out h1]; exact HSf.out h1) h2
      rw [HR4.out h1] at e
      have hb := hk2 (by rw [HR4.out h1]; exact HSf.out h1) h2 h3
      rw [HR4.out h1] at hb
      refine ⟨of_decide_eq_true e.symm, hb, ?_⟩
      have := of_decide_eq_true e.symm
      have h4 := hb.2
      rcases Nat.eq_zero_or_pos k with h | h
      · subst h
        have h5 : hfN 0 S = S := rfl
        omega
      · exact h)
    have hX := HUX.out k
    have hB := HUB.out k
    clear hk2 hg8 HG7 HK
    by_cases hfit : T + (k : Int) * M ≤ 9223372036854775807
    · rw [decide_eq_true hfit] at hB
      rw [hB, if_pos rfl] at hX
      rw [hX, hB]
      have HFit := hid hfit
      obtain ⟨E, hE⟩ : ∃ E, T + (k : Int) * M = E := ⟨_, rfl⟩
      rw [hE]
      have HE := hid hE
      clear hX hB hE hfit
      go_wp2_with fail
      refine (between_raw now E _).mono ?_
      rintro e w9 ⟨D, rfl, hD0, hD, rfl⟩
      have HD := hid hD
      have HLe : Hid (1 ≤ k → now ≤ E) := hid (fun h => by
        have h1 := HEnd.out
        have h2 : (1 : Int) * M ≤ (k : Int) * M := Int.mul_le_mul_of_nonneg_right (by omega) (by have := HM0.out; omega)
        have h3 := HE.out
        omega)
      clear hD
      by_cases hDm : 9223372036854775807 < D
      · go_wp2_with fail
        go_ret2
        refine ⟨0, false, rfl, HWR.out _ _ (fun h1 h2 h3 => ?_), HG8.out⟩
        obtain ⟨a1, a2, a3⟩ := HLk.out h1 h2 h3
        have hf := HFit.out
        have he := HE.out
        have hd := HD.out HN.out.1 (by omega) (HLe.out a3)
        exact .inr ⟨a1, k, a2, .inr ⟨by omega, rfl, rfl⟩⟩
      · have hw : wrap64 D = D := by unfold wrap64; omega
        go_wp2_with fail
        go_ret2
        refine ⟨D, true, rfl, HWR.out _ _ (fun h1 h2 h3 => ?_), HG8.out⟩
        obtain ⟨a1, a2, a3⟩ := HLk.out h1 h2 h3
        have hf := HFit.out
        have he := HE.out
        have hd := HD.out HN.out.1 (by omega) (HLe.out a3)
        exact .inr ⟨a1, k, a2, .inl ⟨by omega, by omega, by omega, rfl⟩⟩
    · rw [decide_eq_false hfit] at hB
      rw [hB, if_neg (by decide)] at hX
      rw [hX, hB]
      have HFit := hid hfit
      clear hX hB hfit
      go_wp2_with fail
      go_ret2
      refine ⟨0, false, rfl, HWR.out _ _ (fun h1 h2 h3 => ?_), HG8.out⟩
      obtain ⟨a1, a2, a3⟩ := HLk.out h1 h2 h3
      have hf := HFit.out
      exact .inr ⟨a1, k, a2, .inr ⟨by omega, rfl, rfl⟩⟩
end Go.Proofs.Ytnbcplpmpocbpaa
