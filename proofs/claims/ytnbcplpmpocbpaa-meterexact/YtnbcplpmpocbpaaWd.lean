/- Fail, Pass, Locked. -/
import Derived.Test.YtnbcplpmpocbpaaFl4
import Derived.Test.YtnbcplpmpocbpaaWc
namespace Go.Proofs.Ytnbcplpmpocbpaa
open Go Go.RowKit
open Go.RowKit (wrap32 wrap64)

set_option maxRecDepth 100000 in
set_option maxHeartbeats 800000 in
theorem fail_any (H : Int) (l s : Nat) (ta now : Int) (w : World) (hH : H ≤ 9223372036854775807) (hA : -9223372036854775808 ≤ ta) (hA2 : ta ≤ 9223372036854775807) (hn : now ≤ 9223372036854775807) :
    Calls Try.prog 16 #[.agg #[.int .i64 H, .int .u64 (l : Int)], .agg #[.int .u64 (s : Int), .int .i64 ta], .int .i64 now] w fun e w' => ∃ r : Nat, e = .returned (.agg #[.int .u64 (r : Int), .int .i64 (nowA H ta now)]) ∧ (Fnt s → r = pl (nowS H s ta now)) ∧ w.grownBy w' none := by
  have HCN := hid (fun u => now_any H l s ta now u hH hA hA2 hn)
  obtain ⟨T, hT⟩ : ∃ T, nowA H ta now = T := ⟨_, rfl⟩
  obtain ⟨S, hS⟩ : ∃ S, nowS H s ta now = S := ⟨_, rfl⟩
  have HSf : Hid (Fnt s → Fnt S) := hid (fun h => by rw [← hS]; unfold nowS; split; exact h; exact hfN_fin h _)
  rw [hT, hS] at HCN
  rw [hT, hS]
  clear hT hS hH hA hA2 hn
  go_enter Try.func16, Try.ntmps16
  go_upto_region 2 with (first
    | (have := HG5; clear this; (with_reducible refine wpList_store_all (by with_unfolding_all rfl) 37 _ _ (by with_unfolding_all rfl) _ [.int .u64 0, .int .i64 0] [.int .u64 (r : Int), .int .i64 T] 37 (by with_unfolding_all rfl) (by with_unfolding_all rfl) HX5.out (by with_unfolding_all rfl) (by with_unfolding_all exact Try.size37) (one2 _ _ _ _) ?_); intro w6 B6 g6 s6; have HX6 := hid B6; have HB6 := hid (HB5.out.on g6 (by have := HB4.out.lt; simp; omega)); have HG6 := hid (HG5.out.andThen g6 (fun j hj => .inl (by injection hj with hj; have := HG4.out.size; omega))); clear B6 g6 s6)
    | (have := HG4; clear this; (with_reducible refine wpList_alloc_row (by with_unfolding_all rfl) 37 (by with_unfolding_all rfl) [.int .u64 0, .int .i64 0] Try.zero37 ?_); intro w5 B5 s5 g5; have HX5 := hid B5; have HB5 := hid (HB4.out.keep g5); have HG5 := hid (gtrans HG4.out g5); clear B5 s5 g5)
    | (have := HG3; clear this; go_at_call 14; (with_reducible refine (HCN.out _).mono ?_); rintro e w4 ⟨r, rfl, hr4, hg4⟩; have HR4 := hid hr4; have HB4 := hid (HB3.out.keep hg4); have HC4 := hid (HC3.out.keep hg4); have HM4 := hid (HM3.out.keep hg4); have HG4 := hid (gtrans HG3.out hg4); clear hr4 hg4)
    | (have := HG3; clear this; (with_reducible refine wpList_load_part (by with_unfolding_all rfl) 37 _ (by with_unfolding_all rfl) _ 0 [.int .u64 (s : Int), .int .i64 ta] _ (by with_unfolding_all rfl) HM3.out.whole Try.underlying37 (by with_unfolding_all rfl) (by with_unfolding_all exact Try.size37) ?_))
    | (have := HG3; clear this; (with_reducible refine wpList_load_part (by with_unfolding_all rfl) 28 _ (by with_unfolding_all rfl) _ 0 [.int .i64 H, .int .u64 (l : Int)] _ (by with_unfolding_all rfl) HC3.out.whole Try.underlying28 (by with_unfolding_all rfl) (by with_unfolding_all exact Try.size28) ?_))
    | (have := HG2; clear this; (with_reducible refine wpList_alloc_row (by with_unfolding_all rfl) 37 (by with_unfolding_all rfl) [.int .u64 0, .int .i64 0] Try.zero37 ?_); intro w3 B3 s3 g3; have HB3 := hid B3; have HC3 := hid (HC2.out.keep g3); have HM3 := hid (HB2.out.keep g3); have HG3 := hid (gtrans HG2.out g3); clear B3 s3 g3)
    | (have := HG1; clear this; (with_reducible refine wpList_box_row (by with_unfolding_all rfl) 37 _ (by with_unfolding_all rfl) [.int .u64 (s : Int), .int .i64 ta] (by with_unfolding_all rfl) ?_); intro w2 B2 s2 g2; have HB2 := hid B2; have HC2 := hid (HB1.out.keep g2); have HG2 := hid (gtrans HG1.out g2); clear B2 s2 g2)
    | ((with_reducible refine wpList_box_row (by with_unfolding_all rfl) 28 _ (by with_unfolding_all rfl) [.int .i64 H, .int .u64 (l : Int)] (by with_unfolding_all rfl) ?_); intro w1 B1 s1 g1; have HB1 := hid B1; have HG1 := hid g1; clear B1 s1 g1))
  obtain ⟨p6, hp6⟩ : ∃ x, w2.heap.size = x := ⟨_, rfl⟩
  obtain ⟨p7, hp7⟩ : ∃ x, w4.heap.size = x := ⟨_, rfl⟩
  rw [hp6] at HB6
  rw [hp7] at HX6
  simp only [hp6, hp7]
  have HPn : Hid (w.heap.size ≤ p6 ∧ p6 ≠ p7) := hid (by have h1 := HG2.out.size; have h2 := HB4.out.lt; omega)
  clear hp6 hp7 HB1 HB2 HB3 HB4 HB5 HC2 HC3 HC4 HM3 HM4 HX5 HG1 HG2 HG3 HG4 HG5
  obtain ⟨ra, na, hra⟩ := arith_any .add (.inl rfl) r 4607182418800017408
  have HAr : Hid (∀ (x y : Operand) (u : World), (do eqGuard .add 49 x y (.float .f64 r) (.float .f64 4607182418800017408); binOp .add 49 (.float .f64 r) (.float .f64 4607182418800017408) : Sem Value).run Try.prog u = .ok (.float .f64 (ra u)) (u.drewN (na u))) := hid (fun x y u => by rw [Sem.run_bind]; exact hra 49 u)
  have HAf : Hid (∀ u, Fnt s → ra u = pl S) := hid (fun u h => by
    have h1 := run_float_arith (P := Try.prog) u .add 49 .f64 r _ _ (add_one r (by rw [HR4.out h]; exact HSf.out h))
    rw [hra] at h1
    injection h1 with h1
    injection h1 with _ h1
    rw [h1, HR4.out h])
  clear hra
  go_wp2_with fail
  refine wp_region_list (by kernel_rfl) [fun v _ => v = (Value.agg [Value.int .u64 (r : Int), Value.int .i64 T].toArray), fun v _ => v = (Value.float .f64 r), fun v _ => ∃ r2 : Nat, v = Value.float .f64 r2 ∧ (Fnt s → r2 = pl S), fun v _ => v = (Value.pointer (some ⟨p7, 1, none⟩)), fun v _ => v = (Value.int .i64 T), fun v _ => ∃ q : Nat, v = Value.agg [Value.int .u64 (q : Int), Value.int .i64 T].toArray ∧ (Fnt s → q = pl S)] (none) (fun _ => none) 6 (by kernel_rfl) (by kernel_rfl) (by kernel_rfl) (by kernel_rfl) (by decide) noRow_one (fun _ => .inl rfl) ⟨fun i v u u' hki h hg => h, fun i v u u' hki h hg => h, fun i v u u' hki h hg => h, fun i v u u' hki h hg => h, fun i v u u' hki h hg => h, fun i v u u' hki h hg => h, trivial⟩ ⟨?_, ?_, ?_, ?_, ?_, ?_, trivial⟩ ?_
  · intro A u hu hpu hsz hout hdeps
    have e7 : A.eval (.tmp 7) = (.pointer (some ⟨p7, 0, none⟩)) := (hout 7 (by kernel_rfl)).trans rfl
    refine ifw_none rfl ?_
    with_reducible refine shown_q (Value.agg [Value.int .u64 (r : Int), Value.int .i64 T].toArray) ?qq_1_0 (fun _ _ => ?qr_1_0)
    case qr_1_0 => exact (rfl : (Value.agg [Value.int .u64 (r : Int), Value.int .i64 T].toArray) = (Value.agg [Value.int .u64 (r : Int), Value.int .i64 T].toArray))
    with_reducible refine quietAt_load 37 (.tmp 7) ?h0_1_0 p7 0 [Value.int .u64 (r : Int), Value.int .i64 T] (.struct (Try.prog.fieldsOf 37)) ?h1_1_0 ?h2_1_0 ?h3_1_0 ?h4_1_0 ?h5_1_0
    case h0_1_0 => rfl
    case h1_1_0 => exact e7
    case h2_1_0 => exact (HX6.out.keep hu).whole
    case h3_1_0 => exact Try.underlying37
    case h4_1_0 => rfl
    case h5_1_0 => exact Try.size37
  · intro A u hu hpu hsz hout hdeps
    have e12 : A.eval (.tmp 12) = (.agg [.int .u64 (r : Int), .int .i64 T].toArray) := by have h := depL hdeps 0 (by kernel_rfl) 12 (by kernel_rfl); exact h
    refine ifw_none rfl ?_
    with_reducible refine shown_q (Value.float .f64 r) ?qq_1_1 (fun _ _ => ?qr_1_1)
    case qr_1_1 => exact (rfl : (Value.float .f64 r) = (Value.float .f64 r))
    with_reducible refine quietAt_call 32 Try.f32 ?h0_1_1 ?h1_1_1 ?h2_1_1 #[.tmp 12] #[37] ?h3_1_1 (Value.float .f64 r) #[(Value.agg [Value.int .u64 (r : Int), Value.int .i64 T].toArray)] ?h4_1_1 ?h5_1_1
    case h0_1_1 => exact Try.func32
    case h1_1_1 => kernel_rfl
    case h2_1_1 => kernel_rfl
    case h3_1_1 => rfl
    case h4_1_1 => exact map1 _ _ _ e12
    case h5_1_1 => exact scoreOf_nat r T u
  · intro A u hu hpu hsz hout hdeps
    have e13 : A.eval (.tmp 13) = (.float .f64 r) := by have h := depL hdeps 1 (by kernel_rfl) 13 (by kernel_rfl); exact h
    refine ifw_none rfl ?_
    exact shown_bin .add 49 (.tmp 13) (.const (.float FloatKind.f64 4607182418800017408)) 49 _ _ rfl e13 rfl _ _ (HAr.out _ _ u) ⟨_, rfl, HAf.out u⟩
  · intro A u hu hpu hsz hout hdeps
    have e7 : A.eval (.tmp 7) = (.pointer (some ⟨p7, 0, none⟩)) := (hout 7 (by kernel_rfl)).trans rfl
    refine ifw_none rfl ?_
    with_reducible refine shown_q (Value.pointer (some ⟨p7, 1, none⟩)) ?qq_1_3 (fun _ _ => ?qr_1_3)
    case qr_1_3 => exact (rfl : (Value.pointer (some ⟨p7, 1, none⟩)) = (Value.pointer (some ⟨p7, 1, none⟩)))
    with_reducible refine quietAt_field 37 (.tmp 7) 1 ?h0_1_3 ⟨p7, 0, none⟩ ⟨p7, 1, none⟩ ?h1_1_3 ?h2_1_3
    case h0_1_3 => rfl
    case h1_1_3 => exact e7
    case h2_1_3 => kernel_rfl
  · intro A u hu hpu hsz hout hdeps
    have e15 : A.eval (.tmp 15) = (.pointer (some ⟨p7, 1, none⟩)) := by have h := depL hdeps 3 (by kernel_rfl) 15 (by kernel_rfl); exact h
    refine ifw_none rfl ?_
    with_reducible refine shown_q (Value.int .i64 T) ?qq_1_4 (fun _ _ => ?qr_1_4)
    case qr_1_4 => exact (rfl : (Value.int .i64 T) = (Value.int .i64 T))
    with_reducible refine quietAt_ld 2 (.tmp 15) (Value.pointer (some ⟨p7, 1, none⟩)) (Value.int .i64 T) ?h0_1_4 ?h1_1_4 ?h2_1_4
    case h0_1_4 => rfl
    case h1_1_4 => exact e15
    case h2_1_4 => exact ld2 ((HX6.out.keep hu).cell 1)
  · intro A u hu hpu hsz hout hdeps
    have f14 : (fun v _ => ∃ r2 : Nat, v = Value.float .f64 r2 ∧ (Fnt s → r2 = pl S)) (A.eval (.tmp 14)) u := by have h := depL hdeps 2 (by kernel_rfl) 14 (by kernel_rfl); exact h
    obtain ⟨r2, e14, hr2⟩ := f14
    have e16 : A.eval (.tmp 16) = (.int .i64 T) := by have h := depL hdeps 4 (by kernel_rfl) 16 (by kernel_rfl); exact h
    refine ifw_none rfl ?_
    with_reducible refine shown_call 30 Try.f30 ?h0_1_5 ?h1_1_5 ?h2_1_5 #[.tmp 14, .tmp 16] #[49, 2] ?h3_1_5 #[(Value.float .f64 r2), (Value.int .i64 T)] ?h4_1_5 ?h5_1_5
    case h0_1_5 => exact Try.func30
    case h1_1_5 => kernel_rfl
    case h2_1_5 => kernel_rfl
    case h3_1_5 => rfl
    case h4_1_5 => exact map2 _ _ _ _ _ e14 e16
    case h5_1_5 => exact (meterOf_any r2 T u).mono (fun e w' h => ⟨_, h.1, h.2, r2, rfl, hr2⟩)
  · intro A w7 listed hh hall
    have hA := hh.frame
    have HU := hid hh.grown
    obtain ⟨x12, hx12⟩ : ∃ x, A.eval (.tmp 12) = x := ⟨_, rfl⟩
    have f12 : (fun v _ => v = (Value.agg [Value.int .u64 (r : Int), Value.int .i64 T].toArray)) x12 w7 := by rw [← hx12]; exact hh.got 0 _ 12 rfl rfl (hall 0 (by decide))
    obtain ⟨x13, hx13⟩ : ∃ x, A.eval (.tmp 13) = x := ⟨_, rfl⟩
    have f13 : (fun v _ => v = (Value.float .f64 r)) x13 w7 := by rw [← hx13]; exact hh.got 1 _ 13 rfl rfl (hall 1 (by decide))
    obtain ⟨x14, hx14⟩ : ∃ x, A.eval (.tmp 14) = x := ⟨_, rfl⟩
    have f14 : (fun v _ => ∃ r2 : Nat, v = Value.float .f64 r2 ∧ (Fnt s → r2 = pl S)) x14 w7 := by rw [← hx14]; exact hh.got 2 _ 14 rfl rfl (hall 2 (by decide))
    obtain ⟨x15, hx15⟩ : ∃ x, A.eval (.tmp 15) = x := ⟨_, rfl⟩
    have f15 : (fun v _ => v = (Value.pointer (some ⟨p7, 1, none⟩))) x15 w7 := by rw [← hx15]; exact hh.got 3 _ 15 rfl rfl (hall 3 (by decide))
    obtain ⟨x16, hx16⟩ : ∃ x, A.eval (.tmp 16) = x := ⟨_, rfl⟩
    have f16 : (fun v _ => v = (Value.int .i64 T)) x16 w7 := by rw [← hx16]; exact hh.got 4 _ 16 rfl rfl (hall 4 (by decide))
    obtain ⟨x17, hx17⟩ : ∃ x, A.eval (.tmp 17) = x := ⟨_, rfl⟩
    have f17 : (fun v _ => ∃ q : Nat, v = Value.agg [Value.int .u64 (q : Int), Value.int .i64 T].toArray ∧ (Fnt s → q = pl S)) x17 w7 := by rw [← hx17]; exact hh.got 5 _ 17 rfl rfl (hall 5 (by decide))
    dsimp only [wrote, List.foldl] at hA
    rw [hx12, hx13, hx14, hx15, hx16, hx17] at hA
    clear hh hall hx12 hx13 hx14 hx15 hx16 hx17
    replace f12 := (f12 : x12 = (.agg [.int .u64 (r : Int), .int .i64 T].toArray))
    subst f12
    replace f13 := (f13 : x13 = (.float .f64 r))
    subst f13
    obtain ⟨r2, e14, hr2⟩ := f14
    subst e14
    replace f15 := (f15 : x15 = (.pointer (some ⟨p7, 1, none⟩)))
    subst f15
    replace f16 := (f16 : x16 = (.int .i64 T))
    subst f16
    obtain ⟨q, e17, hq⟩ := f17
    subst e17
    subst hA
    show wpList _ _ _ [_] _ _
    simp only [Act.put, List.setIfInBounds_toArray, List.set_cons_succ, List.set_cons_zero]
    have HG7 := hid (gtrans HG6.out HU.out)
    go_wp2_with (first
      | ((with_reducible refine wpList_store_all (by with_unfolding_all rfl) 37 _ _ (by with_unfolding_all rfl) _ [.int .u64 0, .int .i64 0] _ 37 (by with_unfolding_all rfl) (by with_unfolding_all rfl) (HB6.out.keep HU.out) (by with_unfolding_all rfl) (by with_unfolding_all exact Try.size37) (one2 _ _ _ _) ?_); intro w8 B8 g8 s8; have HB8 := hid B8; have HG8 := hid (HG7.out.andThen g8 (fun j hj => .inl (by injection hj with hj; have := HPn.out; omega))); clear B8 g8 s8))
    refine bodyPost_ret (results_blk rfl _ p6 37 _ _ rfl HB8.out Try.underlying37 rfl Try.size37) rfl ?_
    exact ⟨q, rfl, hq, HG8.out⟩
set_option maxRecDepth 100000 in
set_option maxHeartbeats 800000 in
theorem pass_any (H : Int) (l s : Nat) (ta now : Int) (w : World) (hH : H ≤ 9223372036854775807) (hA : -9223372036854775808 ≤ ta) (hA2 : ta ≤ 9223372036854775807) (hn : now ≤ 9223372036854775807) :
    Calls Try.prog 18 #[.agg #[.int .i64 H, .int .u64 (l : Int)], .agg #[.int .u64 (s : Int), .int .i64 ta], .int .i64 now] w fun e w' => ∃ r : Nat, e = .returned (.agg #[.int .u64 (r : Int), .int .i64 (nowA H ta now)]) ∧ (Fnt s → r = qt (nowS H s ta now)) ∧ w.grownBy w' none := by
  have HCN := hid (fun u => now_any H l s ta now u hH hA hA2 hn)
  obtain ⟨T, hT⟩ : ∃ T, nowA H ta now = T := ⟨_, rfl⟩
  obtain ⟨S, hS⟩ : ∃ S, nowS H s ta now = S := ⟨_, rfl⟩
  have HSf : Hid (Fnt s → Fnt S) := hid (fun h => by rw [← hS]; unfold nowS; split; exact h; exact hfN_fin h _)
  rw [hT, hS] at HCN
  rw [hT, hS]
  clear hT hS hH hA hA2 hn
  go_enter Try.func18, Try.ntmps18
  go_upto_region 2 with (first
    | (have := HG5; clear this; (with_reducible refine wpList_store_all (by with_unfolding_all rfl) 37 _ _ (by with_unfolding_all rfl) _ [.int .u64 0, .int .i64 0] [.int .u64 (r : Int), .int .i64 T] 37 (by with_unfolding_all rfl) (by with_unfolding_all rfl) HX5.out (by with_unfolding_all rfl) (by with_unfolding_all exact Try.size37) (one2 _ _ _ _) ?_); intro w6 B6 g6 s6; have HX6 := hid B6; have HB6 := hid (HB5.out.on g6 (by have := HB4.out.lt; simp; omega)); have HG6 := hid (HG5.out.andThen g6 (fun j hj => .inl (by injection hj with hj; have := HG4.out.size; omega))); clear B6 g6 s6)
    | (have := HG4; clear this; (with_reducible refine wpList_alloc_row (by with_unfolding_all rfl) 37 (by with_unfolding_all rfl) [.int .u64 0, .int .i64 0] Try.zero37 ?_); intro w5 B5 s5 g5; have HX5 := hid B5; have HB5 := hid (HB4.out.keep g5); have HG5 := hid (gtrans HG4.out g5); clear B5 s5 g5)
    | (have := HG3; clear this; go_at_call 14; (with_reducible refine (HCN.out _).mono ?_); rintro e w4 ⟨r, rfl, hr4, hg4⟩; have HR4 := hid hr4; have HB4 := hid (HB3.out.keep hg4); have HC4 := hid (HC3.out.keep hg4); have HM4 := hid (HM3.out.keep hg4); have HG4 := hid (gtrans HG3.out hg4); clear hr4 hg4)
    | (have := HG3; clear this; (with_reducible refine wpList_load_part (by with_unfolding_all rfl) 37 _ (by with_unfolding_all rfl) _ 0 [.int .u64 (s : Int), .int .i64 ta] _ (by with_unfolding_all rfl) HM3.out.whole Try.underlying37 (by with_unfolding_all rfl) (by with_unfolding_all exact Try.size37) ?_))
    | (have := HG3; clear this; (with_reducible refine wpList_load_part (by with_unfolding_all rfl) 28 _ (by with_unfolding_all rfl) _ 0 [.int .i64 H, .int .u64 (l : Int)] _ (by with_unfolding_all rfl) HC3.out.whole Try.underlying28 (by with_unfolding_all rfl) (by with_unfolding_all exact Try.size28) ?_))
    | (have := HG2; clear this; (with_reducible refine wpList_alloc_row (by with_unfolding_all rfl) 37 (by with_unfolding_all rfl) [.int .u64 0, .int .i64 0] Try.zero37 ?_); intro w3 B3 s3 g3; have HB3 := hid B3; have HC3 := hid (HC2.out.keep g3); have HM3 := hid (HB2.out.keep g3); have HG3 := hid (gtrans HG2.out g3); clear B3 s3 g3)
    | (have := HG1; clear this; (with_reducible refine wpList_box_row (by with_unfolding_all rfl) 37 _ (by with_unfolding_all rfl) [.int .u64 (s : Int), .int .i64 ta] (by with_unfolding_all rfl) ?_); intro w2 B2 s2 g2; have HB2 := hid B2; have HC2 := hid (HB1.out.keep g2); have HG2 := hid (gtrans HG1.out g2); clear B2 s2 g2)
    | ((with_reducible refine wpList_box_row (by with_unfolding_all rfl) 28 _ (by with_unfolding_all rfl) [.int .i64 H, .int .u64 (l : Int)] (by with_unfolding_all rfl) ?_); intro w1 B1 s1 g1; have HB1 := hid B1; have HG1 := hid g1; clear B1 s1 g1))
  obtain ⟨p6, hp6⟩ : ∃ x, w2.heap.size = x := ⟨_, rfl⟩
  obtain ⟨p7, hp7⟩ : ∃ x, w4.heap.size = x := ⟨_, rfl⟩
  rw [hp6] at HB6
  rw [hp7] at HX6
  simp only [hp6, hp7]
  have HPn : Hid (w.heap.size ≤ p6 ∧ p6 ≠ p7) := hid (by have h1 := HG2.out.size; have h2 := HB4.out.lt; omega)
  clear hp6 hp7 HB1 HB2 HB3 HB4 HB5 HC2 HC3 HC4 HM3 HM4 HX5 HG1 HG2 HG3 HG4 HG5
  obtain ⟨ra, na, hra⟩ := arith_any .mul (.inr rfl) r 4598175219545276416
  have HAr : Hid (∀ (x y : Operand) (u : World), (do eqGuard .mul 49 x y (.float .f64 r) (.float .f64 4598175219545276416); binOp .mul 49 (.float .f64 r) (.float .f64 4598175219545276416) : Sem Value).run Try.prog u = .ok (.float .f64 (ra u)) (u.drewN (na u))) := hid (fun x y u => by rw [Sem.run_bind]; exact hra 49 u)
  have HAf : Hid (∀ u, Fnt s → ra u = qt S) := hid (fun u h => by
    have h1 := run_float_arith (P := Try.prog) u .mul 49 .f64 r _ _ (mul_quarter r (by rw [HR4.out h]; exact HSf.out h))
    rw [hra] at h1
    injection h1 with h1
    injection h1 with _ h1
    rw [h1, HR4.out h])
  clear hra
  go_wp2_with fail
  refine wp_region_list (by kernel_rfl) [fun v _ => v = (Value.agg [Value.int .u64 (r : Int), Value.int .i64 T].toArray), fun v _ => v = (Value.float .f64 r), fun v _ => ∃ r2 : Nat, v = Value.float .f64 r2 ∧ (Fnt s → r2 = qt S), fun v _ => v = (Value.pointer (some ⟨p7, 1, none⟩)), fun v _ => v = (Value.int .i64 T), fun v _ => ∃ q : Nat, v = Value.agg [Value.int .u64 (q : Int), Value.int .i64 T].toArray ∧ (Fnt s → q = qt S)] (none) (fun _ => none) 6 (by kernel_rfl) (by kernel_rfl) (by kernel_rfl) (by kernel_rfl) (by decide) noRow_one (fun _ => .inl rfl) ⟨fun i v u u' hki h hg => h, fun i v u u' hki h hg => h, fun i v u u' hki h hg => h, fun i v u u' hki h hg => h, fun i v u u' hki h hg => h, fun i v u u' hki h hg => h, trivial⟩ ⟨?_, ?_, ?_, ?_, ?_, ?_, trivial⟩ ?_
  · intro A u hu hpu hsz hout hdeps
    have e7 : A.eval (.tmp 7) = (.pointer (some ⟨p7, 0, none⟩)) := (hout 7 (by kernel_rfl)).trans rfl
    refine ifw_none rfl ?_
    with_reducible refine shown_q (Value.agg [Value.int .u64 (r : Int), Value.int .i64 T].toArray) ?qq_2_0 (fun _ _ => ?qr_2_0)
    case qr_2_0 => exact (rfl : (Value.agg [Value.int .u64 (r : Int), Value.int .i64 T].toArray) = (Value.agg [Value.int .u64 (r : Int), Value.int .i64 T].toArray))
    with_reducible refine quietAt_load 37 (.tmp 7) ?h0_2_0 p7 0 [Value.int .u64 (r : Int), Value.int .i64 T] (.struct (Try.prog.fieldsOf 37)) ?h1_2_0 ?h2_2_0 ?h3_2_0 ?h4_2_0 ?h5_2_0
    case h0_2_0 => rfl
    case h1_2_0 => exact e7
    case h2_2_0 => exact (HX6.out.keep hu).whole
    case h3_2_0 => exact Try.underlying37
    case h4_2_0 => rfl
    case h5_2_0 => exact Try.size37
  · intro A u hu hpu hsz hout hdeps
    have e12 : A.eval (.tmp 12) = (.agg [.int .u64 (r : Int), .int .i64 T].toArray) := by have h := depL hdeps 0 (by kernel_rfl) 12 (by kernel_rfl); exact h
    refine ifw_none rfl ?_
    with_reducible refine shown_q (Value.float .f64 r) ?qq_2_1 (fun _ _ => ?qr_2_1)
    case qr_2_1 => exact (rfl : (Value.float .f64 r) = (Value.float .f64 r))
    with_reducible refine quietAt_call 32 Try.f32 ?h0_2_1 ?h1_2_1 ?h2_2_1 #[.tmp 12] #[37] ?h3_2_1 (Value.float .f64 r) #[(Value.agg [Value.int .u64 (r : Int), Value.int .i64 T].toArray)] ?h4_2_1 ?h5_2_1
    case h0_2_1 => exact Try.func32
    case h1_2_1 => kernel_rfl
    case h2_2_1 => kernel_rfl
    case h3_2_1 => rfl
    case h4_2_1 => exact map1 _ _ _ e12
    case h5_2_1 => exact scoreOf_nat r T u
  · intro A u hu hpu hsz hout hdeps
    have e13 : A.eval (.tmp 13) = (.float .f64 r) := by have h := depL hdeps 1 (by kernel_rfl) 13 (by kernel_rfl); exact h
    refine ifw_none rfl ?_
    exact shown_bin .mul 49 (.tmp 13) (.const (.float FloatKind.f64 4598175219545276416)) 49 _ _ rfl e13 rfl _ _ (HAr.out _ _ u) ⟨_, rfl, HAf.out u⟩
  · intro A u hu hpu hsz hout hdeps
    have e7 : A.eval (.tmp 7) = (.pointer (some ⟨p7, 0, none⟩)) := (hout 7 (by kernel_rfl)).trans rfl
    refine ifw_none rfl ?_
    with_reducible refine shown_q (Value.pointer (some ⟨p7, 1, none⟩)) ?qq_2_3 (fun _ _ => ?qr_2_3)
    case qr_2_3 => exact (rfl : (Value.pointer (some ⟨p7, 1, none⟩)) = (Value.pointer (some ⟨p7, 1, none⟩)))
    with_reducible refine quietAt_field 37 (.tmp 7) 1 ?h0_2_3 ⟨p7, 0, none⟩ ⟨p7, 1, none⟩ ?h1_2_3 ?h2_2_3
    case h0_2_3 => rfl
    case h1_2_3 => exact e7
    case h2_2_3 => kernel_rfl
  · intro A u hu hpu hsz hout hdeps
    have e15 : A.eval (.tmp 15) = (.pointer (some ⟨p7, 1, none⟩)) := by have h := depL hdeps 3 (by kernel_rfl) 15 (by kernel_rfl); exact h
    refine ifw_none rfl ?_
    with_reducible refine shown_q (Value.int .i64 T) ?qq_2_4 (fun _ _ => ?qr_2_4)
    case qr_2_4 => exact (rfl : (Value.int .i64 T) = (Value.int .i64 T))
    with_reducible refine quietAt_ld 2 (.tmp 15) (Value.pointer (some ⟨p7, 1, none⟩)) (Value.int .i64 T) ?h0_2_4 ?h1_2_4 ?h2_2_4
    case h0_2_4 => rfl
    case h1_2_4 => exact e15
    case h2_2_4 => exact ld2 ((HX6.out.keep hu).cell 1)
  · intro A u hu hpu hsz hout hdeps
    have f14 : (fun v _ => ∃ r2 : Nat, v = Value.float .f64 r2 ∧ (Fnt s → r2 = qt S)) (A.eval (.tmp 14)) u := by have h := depL hdeps 2 (by kernel_rfl) 14 (by kernel_rfl); exact h
    obtain ⟨r2, e14, hr2⟩ := f14
    have e16 : A.eval (.tmp 16) = (.int .i64 T) := by have h := depL hdeps 4 (by kernel_rfl) 16 (by kernel_rfl); exact h
    refine ifw_none rfl ?_
    with_reducible refine shown_call 30 Try.f30 ?h0_2_5 ?h1_2_5 ?h2_2_5 #[.tmp 14, .tmp 16] #[49, 2] ?h3_2_5 #[(Value.float .f64 r2), (Value.int .i64 T)] ?h4_2_5 ?h5_2_5
    case h0_2_5 => exact Try.func30
    case h1_2_5 => kernel_rfl
    case h2_2_5 => kernel_rfl
    case h3_2_5 => rfl
    case h4_2_5 => exact map2 _ _ _ _ _ e14 e16
    case h5_2_5 => exact (meterOf_any r2 T u).mono (fun e w' h => ⟨_, h.1, h.2, r2, rfl, hr2⟩)
  · intro A w7 listed hh hall
    have hA := hh.frame
    have HU := hid hh.grown
    obtain ⟨x12, hx12⟩ : ∃ x, A.eval (.tmp 12) = x := ⟨_, rfl⟩
    have f12 : (fun v _ => v = (Value.agg [Value.int .u64 (r : Int), Value.int .i64 T].toArray)) x12 w7 := by rw [← hx12]; exact hh.got 0 _ 12 rfl rfl (hall 0 (by decide))
    obtain ⟨x13, hx13⟩ : ∃ x, A.eval (.tmp 13) = x := ⟨_, rfl⟩
    have f13 : (fun v _ => v = (Value.float .f64 r)) x13 w7 := by rw [← hx13]; exact hh.got 1 _ 13 rfl rfl (hall 1 (by decide))
    obtain ⟨x14, hx14⟩ : ∃ x, A.eval (.tmp 14) = x := ⟨_, rfl⟩
    have f14 : (fun v _ => ∃ r2 : Nat, v = Value.float .f64 r2 ∧ (Fnt s → r2 = qt S)) x14 w7 := by rw [← hx14]; exact hh.got 2 _ 14 rfl rfl (hall 2 (by decide))
    obtain ⟨x15, hx15⟩ : ∃ x, A.eval (.tmp 15) = x := ⟨_, rfl⟩
    have f15 : (fun v _ => v = (Value.pointer (some ⟨p7, 1, none⟩))) x15 w7 := by rw [← hx15]; exact hh.got 3 _ 15 rfl rfl (hall 3 (by decide))
    obtain ⟨x16, hx16⟩ : ∃ x, A.eval (.tmp 16) = x := ⟨_, rfl⟩
    have f16 : (fun v _ => v = (Value.int .i64 T)) x16 w7 := by rw [← hx16]; exact hh.got 4 _ 16 rfl rfl (hall 4 (by decide))
    obtain ⟨x17, hx17⟩ : ∃ x, A.eval (.tmp 17) = x := ⟨_, rfl⟩
    have f17 : (fun v _ => ∃ q : Nat, v = Value.agg [Value.int .u64 (q : Int), Value.int .i64 T].toArray ∧ (Fnt s → q = qt S)) x17 w7 := by rw [← hx17]; exact hh.got 5 _ 17 rfl rfl (hall 5 (by decide))
    dsimp only [wrote, List.foldl] at hA
    rw [hx12, hx13, hx14, hx15, hx16, hx17] at hA
    clear hh hall hx12 hx13 hx14 hx15 hx16 hx17
    replace f12 := (f12 : x12 = (.agg [.int .u64 (r : Int), .int .i64 T].toArray))
    subst f12
    replace f13 := (f13 : x13 = (.float .f64 r))
    subst f13
    obtain ⟨r2, e14, hr2⟩ := f14
    subst e14
    replace f15 := (f15 : x15 = (.pointer (some ⟨p7, 1, none⟩)))
    subst f15
    replace f16 := (f16 : x16 = (.int .i64 T))
    subst f16
    obtain ⟨q, e17, hq⟩ := f17
    subst e17
    subst hA
    show wpList _ _ _ [_] _ _
    simp only [Act.put, List.setIfInBounds_toArray, List.set_cons_succ, List.set_cons_zero]
    have HG7 := hid (gtrans HG6.out HU.out)
    go_wp2_with (first
      | ((with_reducible refine wpList_store_all (by with_unfolding_all rfl) 37 _ _ (by with_unfolding_all rfl) _ [.int .u64 0, .int .i64 0] _ 37 (by with_unfolding_all rfl) (by with_unfolding_all rfl) (HB6.out.keep HU.out) (by with_unfolding_all rfl) (by with_unfolding_all exact Try.size37) (one2 _ _ _ _) ?_); intro w8 B8 g8 s8; have HB8 := hid B8; have HG8 := hid (HG7.out.andThen g8 (fun j hj => .inl (by injection hj with hj; have := HPn.out; omega))); clear B8 g8 s8))
    refine bodyPost_ret (results_blk rfl _ p6 37 _ _ rfl HB8.out Try.underlying37 rfl Try.size37) rfl ?_
    exact ⟨q, rfl, hq, HG8.out⟩
set_option maxRecDepth 100000 in
set_option maxHeartbeats 800000 in
theorem locked_any (H : Int) (l s : Nat) (ta now : Int) (w : World) (hH : H ≤ 9223372036854775807) (hA : -9223372036854775808 ≤ ta) (hA2 : ta ≤ 9223372036854775807) (hn : now ≤ 9223372036854775807) :
    Calls Try.prog 19 #[.agg #[.int .i64 H, .int .u64 (l : Int)], .agg #[.int .u64 (s : Int), .int .i64 ta], .int .i64 now] w fun e w' => ∃ g : Bool, e = .returned (.bool g) ∧ (Fnt s → Fnt l → g = decide (l ≤ nowS H s ta now)) ∧ w.grownBy w' none := by
  have HCN := hid (fun u => now_any H l s ta now u hH hA hA2 hn)
  obtain ⟨T, hT⟩ : ∃ T, nowA H ta now = T := ⟨_, rfl⟩
  obtain ⟨S, hS⟩ : ∃ S, nowS H s ta now = S := ⟨_, rfl⟩
  have HSf : Hid (Fnt s → Fnt S) := hid (fun h => by rw [← hS]; unfold nowS; split; exact h; exact hfN_fin h _)
  rw [hT, hS] at HCN
  rw [hS]
  clear hT hS hH hA hA2 hn
  go_enter Try.func19, Try.ntmps19
  go_upto_region 1 with (first
    | (have := HG1; clear this; (with_reducible refine wpList_box_row (by with_unfolding_all rfl) 37 _ (by with_unfolding_all rfl) [.int .u64 (s : Int), .int .i64 ta] (by with_unfolding_all rfl) ?_); intro w2 B2 s2 g2; have HB2 := hid B2; have HC2 := hid (HB1.out.keep g2); have HG2 := hid (gtrans HG1.out g2); clear B2 s2 g2)
    | ((with_reducible refine wpList_box_row (by with_unfolding_all rfl) 28 _ (by with_unfolding_all rfl) [.int .i64 H, .int .u64 (l : Int)] (by with_unfolding_all rfl) ?_); intro w1 B1 s1 g1; have HB1 := hid B1; have HG1 := hid g1; clear B1 s1 g1))
  obtain ⟨p3, hp3⟩ : ∃ x, w.heap.size = x := ⟨_, rfl⟩
  obtain ⟨p4, hp4⟩ : ∃ x, w1.heap.size = x := ⟨_, rfl⟩
  rw [hp3] at HC2
  rw [hp4] at HB2
  simp only [hp3, hp4]
  clear hp3 hp4 HB1 HG1
  go_wp2_with fail
  refine wp_region_list (by kernel_rfl) [fun v _ => v = (Value.agg [Value.int .i64 H, Value.int .u64 (l : Int)].toArray), fun v _ => v = (Value.agg [Value.int .u64 (s : Int), Value.int .i64 ta].toArray), fun v _ => v = (Value.int .i64 now), fun v _ => ∃ r : Nat, v = Value.agg [Value.int .u64 (r : Int), Value.int .i64 T].toArray ∧ (Fnt s → r = S), fun v _ => ∃ r : Nat, v = Value.float .f64 r ∧ (Fnt s → r = S), fun v _ => v = (Value.pointer (some ⟨p3, 1, none⟩)), fun v _ => v = (Value.int .u64 (l : Int)), fun v _ => v = (Value.float .f64 l), fun v _ => ∃ g : Bool, v = Value.bool g ∧ (Fnt s → Fnt l → g = decide (l ≤ S)), fun v _ => ∃ g : Bool, v = Value.bool g ∧ (Fnt s → Fnt l → g = decide (l ≤ S))] (none) (fun _ => none) 10 (by kernel_rfl) (by kernel_rfl) (by kernel_rfl) (by kernel_rfl) (by decide) noRow_one (fun _ => .inl rfl) ⟨fun i v u u' hki h hg => h, fun i v u u' hki h hg => h, fun i v u u' hki h hg => h, fun i v u u' hki h hg => h, fun i v u u' hki h hg => h, fun i v u u' hki h hg => h, fun i v u u' hki h hg => h, fun i v u u' hki h hg => h, fun i v u u' hki h hg => h, fun i v u u' hki h hg => h, trivial⟩ ⟨?_, ?_, ?_, ?_, ?_, ?_, ?_, ?_, ?_, ?_, trivial⟩ ?_
  · intro A u hu hpu hsz hout hdeps
    have e3 : A.eval (.tmp 3) = (.pointer (some ⟨p3, 0, none⟩)) := (hout 3 (by kernel_rfl)).trans rfl
    refine ifw_none rfl ?_
    with_reducible refine shown_q (Value.agg [Value.int .i64 H, Value.int .u64 (l : Int)].toArray) ?qq_3_0 (fun _ _ => ?qr_3_0)
    case qr_3_0 => exact (rfl : (Value.agg [Value.int .i64 H, Value.int .u64 (l : Int)].toArray) = (Value.agg [Value.int .i64 H, Value.int .u64 (l : Int)].toArray))
    with_reducible refine quietAt_load 28 (.tmp 3) ?h0_3_0 p3 0 [Value.int .i64 H, Value.int .u64 (l : Int)] (.struct (Try.prog.fieldsOf 28)) ?h1_3_0 ?h2_3_0 ?h3_3_0 ?h4_3_0 ?h5_3_0
    case h0_3_0 => rfl
    case h1_3_0 => exact e3
    case h2_3_0 => exact (HC2.out.keep hu).whole
    case h3_3_0 => exact Try.underlying28
    case h4_3_0 => rfl
    case h5_3_0 => exact Try.size28
  · intro A u hu hpu hsz hout hdeps
    have e4 : A.eval (.tmp 4) = (.pointer (some ⟨p4, 0, none⟩)) := (hout 4 (by kernel_rfl)).trans rfl
    refine ifw_none rfl ?_
    with_reducible refine shown_q (Value.agg [Value.int .u64 (s : Int), Value.int .i64 ta].toArray) ?qq_3_1 (fun _ _ => ?qr_3_1)
    case qr_3_1 => exact (rfl : (Value.agg [Value.int .u64 (s : Int), Value.int .i64 ta].toArray) = (Value.agg [Value.int .u64 (s : Int), Value.int .i64 ta].toArray))
    with_reducible refine quietAt_load 37 (.tmp 4) ?h0_3_1 p4 0 [Value.int .u64 (s : Int), Value.int .i64 ta] (.struct (Try.prog.fieldsOf 37)) ?h1_3_1 ?h2_3_1 ?h3_3_1 ?h4_3_1 ?h5_3_1
    case h0_3_1 => rfl
    case h1_3_1 => exact e4
    case h2_3_1 => exact (HB2.out.keep hu).whole
    case h3_3_1 => exact Try.underlying37
    case h4_3_1 => rfl
    case h5_3_1 => exact Try.size37
  · intro A u hu hpu hsz hout hdeps
    have e2 : A.eval (.tmp 2) = (.int .i64 now) := (hout 2 (by kernel_rfl)).trans rfl
    refine ifw_none rfl ?_
    with_reducible refine shown_q (Value.int .i64 now) ?qq_3_2 (fun _ _ => ?qr_3_2)
    case qr_3_2 => exact (rfl : (Value.int .i64 now) = (Value.int .i64 now))
    with_reducible refine quietAt_mv (.tmp 2) (Value.int .i64 now) ?h0_3_2 ?h1_3_2
    case h0_3_2 => rfl
    case h1_3_2 => exact e2
  · intro A u hu hpu hsz hout hdeps
    have e7 : A.eval (.tmp 7) = (.agg [.int .i64 H, .int .u64 (l : Int)].toArray) := by have h := depL hdeps 0 (by kernel_rfl) 7 (by kernel_rfl); exact h
    have e8 : A.eval (.tmp 8) = (.agg [.int .u64 (s : Int), .int .i64 ta].toArray) := by have h := depL hdeps 1 (by kernel_rfl) 8 (by kernel_rfl); exact h
    have e9 : A.eval (.tmp 9) = (.int .i64 now) := by have h := depL hdeps 2 (by kernel_rfl) 9 (by kernel_rfl); exact h
    refine ifw_none rfl ?_
    with_reducible refine shown_call 14 Try.f14 ?h0_3_3 ?h1_3_3 ?h2_3_3 #[.tmp 7, .tmp 8, .tmp 9] #[28, 37, 2] ?h3_3_3 #[(Value.agg [Value.int .i64 H, Value.int .u64 (l : Int)].toArray), (Value.agg [Value.int .u64 (s : Int), Value.int .i64 ta].toArray), (Value.int .i64 now)] ?h4_3_3 ?h5_3_3
    case h0_3_3 => exact Try.func14
    case h1_3_3 => kernel_rfl
    case h2_3_3 => kernel_rfl
    case h3_3_3 => rfl
    case h4_3_3 => exact map3 _ _ _ _ _ _ _ e7 e8 e9
    case h5_3_3 => exact (HCN.out u).mono (fun e w' h => by obtain ⟨r, h1, h2, h3⟩ := h; exact ⟨_, h1, h3, r, rfl, h2⟩)
  · intro A u hu hpu hsz hout hdeps
    have f10 : (fun v _ => ∃ r : Nat, v = Value.agg [Value.int .u64 (r : Int), Value.int .i64 T].toArray ∧ (Fnt s → r = S)) (A.eval (.tmp 10)) u := by have h := depL hdeps 3 (by kernel_rfl) 10 (by kernel_rfl); exact h
    obtain ⟨r, e10, hr⟩ := f10
    refine ifw_none rfl ?_
    with_reducible refine shown_call 32 Try.f32 ?h0_3_4 ?h1_3_4 ?h2_3_4 #[.tmp 10] #[37] ?h3_3_4 #[(Value.agg [Value.int .u64 (r : Int), Value.int .i64 T].toArray)] ?h4_3_4 ?h5_3_4
    case h0_3_4 => exact Try.func32
    case h1_3_4 => kernel_rfl
    case h2_3_4 => kernel_rfl
    case h3_3_4 => rfl
    case h4_3_4 => exact map1 _ _ _ e10
    case h5_3_4 => exact (scoreOf_nat r T u).mono (fun e w' h => ⟨_, h.1, h.2, r, rfl, hr⟩)
  · intro A u hu hpu hsz hout hdeps
    have e3 : A.eval (.tmp 3) = (.pointer (some ⟨p3, 0, none⟩)) := (hout 3 (by kernel_rfl)).trans rfl
    refine ifw_none rfl ?_
    with_reducible refine shown_q (Value.pointer (some ⟨p3, 1, none⟩)) ?qq_3_5 (fun _ _ => ?qr_3_5)
    case qr_3_5 => exact (rfl : (Value.pointer (some ⟨p3, 1, none⟩)) = (Value.pointer (some ⟨p3, 1, none⟩)))
    with_reducible refine quietAt_field 28 (.tmp 3) 1 ?h0_3_5 ⟨p3, 0, none⟩ ⟨p3, 1, none⟩ ?h1_3_5 ?h2_3_5
    case h0_3_5 => rfl
    case h1_3_5 => exact e3
    case h2_3_5 => kernel_rfl
  · intro A u hu hpu hsz hout hdeps
    have e12 : A.eval (.tmp 12) = (.pointer (some ⟨p3, 1, none⟩)) := by have h := depL hdeps 5 (by kernel_rfl) 12 (by kernel_rfl); exact h
    refine ifw_none rfl ?_
    with_reducible refine shown_q (Value.int .u64 (l : Int)) ?qq_3_6 (fun _ _ => ?qr_3_6)
    case qr_3_6 => exact (rfl : (Value.int .u64 (l : Int)) = (Value.int .u64 (l : Int)))
    with_reducible refine quietAt_ld 26 (.tmp 12) (Value.pointer (some ⟨p3, 1, none⟩)) (Value.int .u64 (l : Int)) ?h0_3_6 ?h1_3_6 ?h2_3_6
    case h0_3_6 => rfl
    case h1_3_6 => exact e12
    case h2_3_6 => exact ld26 ((HC2.out.keep hu).cell 1)
  · intro A u hu hpu hsz hout hdeps
    have e13 : A.eval (.tmp 13) = (.int .u64 (l : Int)) := by have h := depL hdeps 6 (by kernel_rfl) 13 (by kernel_rfl); exact h
    refine ifw_none rfl ?_
    with_reducible refine shown_q (Value.float .f64 l) ?qq_3_7 (fun _ _ => ?qr_3_7)
    case qr_3_7 => exact (rfl : (Value.float .f64 l) = (Value.float .f64 l))
    with_reducible refine quietAt_ext 25 #[.tmp 13] #[26] ?h0_3_7 (Value.float .f64 l) #[(Value.int .u64 (l : Int))] ?h1_3_7 ?h2_3_7
    case h0_3_7 => rfl
    case h1_3_7 => exact map1 _ _ _ e13
    case h2_3_7 => exact (call25 l u)
  · intro A u hu hpu hsz hout hdeps
    have f11 : (fun v _ => ∃ r : Nat, v = Value.float .f64 r ∧ (Fnt s → r = S)) (A.eval (.tmp 11)) u := by have h := depL hdeps 4 (by kernel_rfl) 11 (by kernel_rfl); exact h
    obtain ⟨r3, e11, hr3⟩ := f11
    have e14 : A.eval (.tmp 14) = (.float .f64 l) := by have h := depL hdeps 7 (by kernel_rfl) 14 (by kernel_rfl); exact h
    refine ifw_none rfl ?_
    exact shown_bin .geq 49 (.tmp 11) (.tmp 14) 49 _ _ rfl e11 e14 _ 0 (by rw [Sem.run_bind]; exact geq_run 49 r3 l u) ⟨_, rfl, fun h hl => by rw [hr3 h]; exact geq_fin (HSf.out h) hl⟩
  · intro A u hu hpu hsz hout hdeps
    have f15 : (fun v _ => ∃ g : Bool, v = Value.bool g ∧ (Fnt s → Fnt l → g = decide (l ≤ S))) (A.eval (.tmp 15)) u := by have h := depL hdeps 8 (by kernel_rfl) 15 (by kernel_rfl); exact h
    obtain ⟨g, e15, hgl⟩ := f15
    refine ifw_none rfl ?_
    exact shown_q _ (quietAt_as (.tmp 15) _ rfl e15) (fun u' hg => ⟨g, rfl, hgl⟩)
  · intro A w7 listed hh hall
    have hA := hh.frame
    have HU := hid hh.grown
    obtain ⟨x7, hx7⟩ : ∃ x, A.eval (.tmp 7) = x := ⟨_, rfl⟩
    have f7 : (fun v _ => v = (Value.agg [Value.int .i64 H, Value.int .u64 (l : Int)].toArray)) x7 w7 := by rw [← hx7]; exact hh.got 0 _ 7 rfl rfl (hall 0 (by decide))
    obtain ⟨x8, hx8⟩ : ∃ x, A.eval (.tmp 8) = x := ⟨_, rfl⟩
    have f8 : (fun v _ => v = (Value.agg [Value.int .u64 (s : Int), Value.int .i64 ta].toArray)) x8 w7 := by rw [← hx8]; exact hh.got 1 _ 8 rfl rfl (hall 1 (by decide))
    obtain ⟨x9, hx9⟩ : ∃ x, A.eval (.tmp 9) = x := ⟨_, rfl⟩
    have f9 : (fun v _ => v = (Value.int .i64 now)) x9 w7 := by rw [← hx9]; exact hh.got 2 _ 9 rfl rfl (hall 2 (by decide))
    obtain ⟨x10, hx10⟩ : ∃ x, A.eval (.tmp 10) = x := ⟨_, rfl⟩
    have f10 : (fun v _ => ∃ r : Nat, v = Value.agg [Value.int .u64 (r : Int), Value.int .i64 T].toArray ∧ (Fnt s → r = S)) x10 w7 := by rw [← hx10]; exact hh.got 3 _ 10 rfl rfl (hall 3 (by decide))
    obtain ⟨x11, hx11⟩ : ∃ x, A.eval (.tmp 11) = x := ⟨_, rfl⟩
    have f11 : (fun v _ => ∃ r : Nat, v = Value.float .f64 r ∧ (Fnt s → r = S)) x11 w7 := by rw [← hx11]; exact hh.got 4 _ 11 rfl rfl (hall 4 (by decide))
    obtain ⟨x12, hx12⟩ : ∃ x, A.eval (.tmp 12) = x := ⟨_, rfl⟩
    have f12 : (fun v _ => v = (Value.pointer (some ⟨p3, 1, none⟩))) x12 w7 := by rw [← hx12]; exact hh.got 5 _ 12 rfl rfl (hall 5 (by decide))
    obtain ⟨x13, hx13⟩ : ∃ x, A.eval (.tmp 13) = x := ⟨_, rfl⟩
    have f13 : (fun v _ => v = (Value.int .u64 (l : Int))) x13 w7 := by rw [← hx13]; exact hh.got 6 _ 13 rfl rfl (hall 6 (by decide))
    obtain ⟨x14, hx14⟩ : ∃ x, A.eval (.tmp 14) = x := ⟨_, rfl⟩
    have f14 : (fun v _ => v = (Value.float .f64 l)) x14 w7 := by rw [← hx14]; exact hh.got 7 _ 14 rfl rfl (hall 7 (by decide))
    obtain ⟨x15, hx15⟩ : ∃ x, A.eval (.tmp 15) = x := ⟨_, rfl⟩
    have f15 : (fun v _ => ∃ g : Bool, v = Value.bool g ∧ (Fnt s → Fnt l → g = decide (l ≤ S))) x15 w7 := by rw [← hx15]; exact hh.got 8 _ 15 rfl rfl (hall 8 (by decide))
    obtain ⟨x6, hx6⟩ : ∃ x, A.eval (.tmp 6) = x := ⟨_, rfl⟩
    have f6 : (fun v _ => ∃ g : Bool, v = Value.bool g ∧ (Fnt s → Fnt l → g = decide (l ≤ S))) x6 w7 := by rw [← hx6]; exact hh.got 9 _ 6 rfl rfl (hall 9 (by decide))
    dsimp only [wrote, List.foldl] at hA
    rw [hx7, hx8, hx9, hx10, hx11, hx12, hx13, hx14, hx15, hx6] at hA
    clear hh hall hx7 hx8 hx9 hx10 hx11 hx12 hx13 hx14 hx15 hx6
    replace f7 := (f7 : x7 = (.agg [.int .i64 H, .int .u64 (l : Int)].toArray))
    subst f7
    replace f8 := (f8 : x8 = (.agg [.int .u64 (s : Int), .int .i64 ta].toArray))
    subst f8
    replace f9 := (f9 : x9 = (.int .i64 now))
    subst f9
    obtain ⟨r, e10, hr⟩ := f10
    subst e10
    obtain ⟨r3, e11, hr3⟩ := f11
    subst e11
    replace f12 := (f12 : x12 = (.pointer (some ⟨p3, 1, none⟩)))
    subst f12
    replace f13 := (f13 : x13 = (.int .u64 (l : Int)))
    subst f13
    replace f14 := (f14 : x14 = (.float .f64 l))
    subst f14
    obtain ⟨g, e15, hgl⟩ := f15
    subst e15
    obtain ⟨g, e6, hgl⟩ := f6
    subst e6
    subst hA
    show wpList _ _ _ [] _ _
    unfold wpList
    simp only [Act.put, List.setIfInBounds_toArray, List.set_cons_succ, List.set_cons_zero]
    go_wp2_with fail
    go_ret
    exact ⟨g, rfl, hgl, gtrans HG2.out HU.out⟩
end Go.Proofs.Ytnbcplpmpocbpaa
