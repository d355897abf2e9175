/- The reference's Fail, Pass, Locked, Wait. -/
import Derived.Test.YtnbcplpmpocbpaaRd
namespace Go.Proofs.Ytnbcplpmpocbpaa
open Go Go.RowKit
open Go.RowKit (wrap32 wrap64)

set_option maxRecDepth 100000 in
set_option maxHeartbeats 800000 in
theorem rfail_any (H : Int) (l s : Nat) (ta now : Int) (w : World) (hH0 : 1 ≤ H) (hH : H ≤ 9223372036854775807) (hA : -9223372036854775808 ≤ ta) (hA2 : ta ≤ 9223372036854775807) (hn : now ≤ 9223372036854775807) (hs : Fnt s) :
    Calls Try.prog 15 #[.agg #[.int .i64 H, .int .u64 (l : Int)], .agg #[.int .u64 (s : Int), .int .i64 ta], .int .i64 now] w fun e w' => e = .returned (.agg #[.int .u64 (pl (nowS H s ta now) : Int), .int .i64 (nowA H ta now)]) ∧ w.grownBy w' none := by
  have HCN := hid (fun u => rnow_any H l s ta now u hH0 hH hA hA2 hn hs)
  obtain ⟨T, hT⟩ : ∃ T, nowA H ta now = T := ⟨_, rfl⟩
  obtain ⟨S, hS⟩ : ∃ S, nowS H s ta now = S := ⟨_, rfl⟩
  have HCP := hid (fun u => plus_any S (by rw [← hS]; exact nowS_fin hs) u)
  rw [hT, hS] at HCN
  rw [hT, hS]
  obtain ⟨q, hq⟩ : ∃ q : Nat, pl S = q := ⟨_, rfl⟩
  rw [hq] at HCP ⊢
  clear hT hS hq hH0 hH hA hA2 hn hs
  go_enter Try.func15, Try.ntmps15
  go_wp2_with (first
    | (have := HG3; clear this; (with_reducible refine wpList_load_part (by with_unfolding_all rfl) 37 _ (by with_unfolding_all rfl) _ 0 [.int .u64 (s : Int), .int .i64 ta] _ (by with_unfolding_all rfl) HM3.out.whole Try.underlying37 (by with_unfolding_all rfl) (by with_unfolding_all exact Try.size37) ?_))
    | (have := HG3; clear this; (with_reducible refine wpList_load_part (by with_unfolding_all rfl) 28 _ (by with_unfolding_all rfl) _ 0 [.int .i64 H, .int .u64 (l : Int)] _ (by with_unfolding_all rfl) HC3.out.whole Try.underlying28 (by with_unfolding_all rfl) (by with_unfolding_all exact Try.size28) ?_))
    | (have := HG2; clear this; (with_reducible refine wpList_alloc_row (by with_unfolding_all rfl) 37 (by with_unfolding_all rfl) [.int .u64 0, .int .i64 0] Try.zero37 ?_); intro w3 B3 s3 g3; have HB3 := hid B3; have HC3 := hid (HC2.out.keep g3); have HM3 := hid (HB2.out.keep g3); have HG3 := hid (gtrans HG2.out g3); clear B3 s3 g3)
    | (have := HG1; clear this; (with_reducible refine wpList_box_row (by with_unfolding_all rfl) 37 _ (by with_unfolding_all rfl) [.int .u64 (s : Int), .int .i64 ta] (by with_unfolding_all rfl) ?_); intro w2 B2 s2 g2; have HB2 := hid B2; have HC2 := hid (HB1.out.keep g2); have HG2 := hid (gtrans HG1.out g2); clear B2 s2 g2)
    | ((with_reducible refine wpList_box_row (by with_unfolding_all rfl) 28 _ (by with_unfolding_all rfl) [.int .i64 H, .int .u64 (l : Int)] (by with_unfolding_all rfl) ?_); intro w1 B1 s1 g1; have HB1 := hid B1; have HG1 := hid g1; clear B1 s1 g1))
  refine (HCN.out _).mono ?_
  rintro e w4 ⟨rfl, hg4⟩
  have HB4 := hid (HB3.out.keep hg4)
  have HG4 := hid (gtrans HG3.out hg4)
  clear hg4
  go_upto_region 2 with (first
    | (have := HG5; clear this; (with_reducible refine wpList_store_all (by with_unfolding_all rfl) 37 _ _ (by with_unfolding_all rfl) _ [.int .u64 0, .int .i64 0] [.int .u64 (S : Int), .int .i64 T] 37 (by with_unfolding_all rfl) (by with_unfolding_all rfl) HX5.out (by with_unfolding_all rfl) (by with_unfolding_all exact Try.size37) (one2 _ _ _ _) ?_); intro w6 B6 g6 s6; have HX6 := hid B6; have HB6 := hid (HB5.out.on g6 (by have := HB4.out.lt; simp; omega)); have HG6 := hid (HG5.out.andThen g6 (fun j hj => .inl (by injection hj with hj; have := HG4.out.size; omega))); clear B6 g6 s6)
    | ((with_reducible refine wpList_alloc_row (by with_unfolding_all rfl) 37 (by with_unfolding_all rfl) [.int .u64 0, .int .i64 0] Try.zero37 ?_); intro w5 B5 s5 g5; have HX5 := hid B5; have HB5 := hid (HB4.out.keep g5); have HG5 := hid (gtrans HG4.out g5); clear B5 s5 g5))
  obtain ⟨p6, hp6⟩ : ∃ x, w2.heap.size = x := ⟨_, rfl⟩
  obtain ⟨p7, hp7⟩ : ∃ x, w4.heap.size = x := ⟨_, rfl⟩
  rw [hp6] at HB6
  rw [hp7] at HX6
  simp only [hp6, hp7]
  have HPn : Hid (w.heap.size ≤ p6 ∧ w.heap.size ≤ p7 ∧ p6 ≠ p7) := hid (by have h1 := HG2.out.size; have h2 := HB4.out.lt; have h3 := HG4.out.size; omega)
  clear hp6 hp7 HB1 HB2 HB3 HB4 HB5 HC2 HC3 HM3 HX5 HG1 HG2 HG3 HG4 HG5
  have x0 := HX6.out.cell 0
  have xz := HX6.out.frozen 0
  go_wp2_with fail
  refine (HCP.out _).mono ?_
  rintro e w7 ⟨rfl, rfl⟩
  go_upto_region 3 with fail
  obtain ⟨w8, hw8⟩ : ∃ x, w7.setCell ⟨p7, 0, none⟩ (.int .u64 (q : Int)) = x := ⟨_, rfl⟩
  rw [hw8]
  have HX8 : Hid (Blk w8 p7 [.int .u64 (q : Int), .int .i64 T] 37) := hid (by rw [← hw8]; exact HX6.out.set 0 _)
  have HG8 : Hid (w7.grownBy w8 (some p7)) := hid (by rw [← hw8]; exact gset _ _ _)
  have HB8 := hid (HB6.out.on HG8.out (by have := HPn.out; simp; omega))
  have HG9 := hid (HG6.out.andThen HG8.out (fun j hj => .inl (by injection hj with hj; have := HPn.out; omega)))
  clear hw8 x0 xz
  go_wp2_with (first
    | ((with_reducible refine wpList_load_part (by with_unfolding_all rfl) 37 _ (by with_unfolding_all rfl) _ 0 [.int .u64 (q : Int), .int .i64 T] _ (by with_unfolding_all rfl) HX8.out.whole Try.underlying37 (by with_unfolding_all rfl) (by with_unfolding_all exact Try.size37) ?_))
    | ((with_reducible refine wpList_store_all (by with_unfolding_all rfl) 37 _ _ (by with_unfolding_all rfl) _ [.int .u64 0, .int .i64 0] [.int .u64 (q : Int), .int .i64 T] 37 (by with_unfolding_all rfl) (by with_unfolding_all rfl) HB8.out (by with_unfolding_all rfl) (by with_unfolding_all exact Try.size37) (one2 _ _ _ _) ?_); intro w10 B10 g10 s10; have HB10 := hid B10; have HG10 := hid (HG9.out.andThen g10 (fun j hj => .inl (by injection hj with hj; have := HPn.out; omega))); clear B10 g10 s10))
  refine bodyPost_ret (results_blk rfl _ p6 37 [.int .u64 (q : Int), .int .i64 T] _ rfl HB10.out Try.underlying37 rfl Try.size37) rfl ?_
  exact ⟨rfl, HG10.out⟩
set_option maxRecDepth 100000 in
set_option maxHeartbeats 800000 in
theorem rpass_any (H : Int) (l s : Nat) (ta now : Int) (w : World) (hH0 : 1 ≤ H) (hH : H ≤ 9223372036854775807) (hA : -9223372036854775808 ≤ ta) (hA2 : ta ≤ 9223372036854775807) (hn : now ≤ 9223372036854775807) (hs : Fnt s) :
    Calls Try.prog 17 #[.agg #[.int .i64 H, .int .u64 (l : Int)], .agg #[.int .u64 (s : Int), .int .i64 ta], .int .i64 now] w fun e w' => e = .returned (.agg #[.int .u64 (qt (nowS H s ta now) : Int), .int .i64 (nowA H ta now)]) ∧ w.grownBy w' none := by
  have HCN := hid (fun u => rnow_any H l s ta now u hH0 hH hA hA2 hn hs)
  obtain ⟨T, hT⟩ : ∃ T, nowA H ta now = T := ⟨_, rfl⟩
  obtain ⟨S, hS⟩ : ∃ S, nowS H s ta now = S := ⟨_, rfl⟩
  have HCP := hid (fun u => quarter_any S (by rw [← hS]; exact nowS_fin hs) u)
  rw [hT, hS] at HCN
  rw [hT, hS]
  obtain ⟨q, hq⟩ : ∃ q : Nat, qt S = q := ⟨_, rfl⟩
  rw [hq] at HCP ⊢
  clear hT hS hq hH0 hH hA hA2 hn hs
  go_enter Try.func17, Try.ntmps17
  go_wp2_with (first
    | (have := HG3; clear this; (with_reducible refine wpList_load_part (by with_unfolding_all rfl) 37 _ (by with_unfolding_all rfl) _ 0 [.int .u64 (s : Int), .int .i64 ta] _ (by with_unfolding_all rfl) HM3.out.whole Try.underlying37 (by with_unfolding_all rfl) (by with_unfolding_all exact Try.size37) ?_))
    | (have := HG3; clear this; (with_reducible refine wpList_load_part (by with_unfolding_all rfl) 28 _ (by with_unfolding_all rfl) _ 0 [.int .i64 H, .int .u64 (l : Int)] _ (by with_unfolding_all rfl) HC3.out.whole Try.underlying28 (by with_unfolding_all rfl) (by with_unfolding_all exact Try.size28) ?_))
    | (have := HG2; clear this; (with_reducible refine wpList_alloc_row (by with_unfolding_all rfl) 37 (by with_unfolding_all rfl) [.int .u64 0, .int .i64 0] Try.zero37 ?_); intro w3 B3 s3 g3; have HB3 := hid B3; have HC3 := hid (HC2.out.keep g3); have HM3 := hid (HB2.out.keep g3); have HG3 := hid (gtrans HG2.out g3); clear B3 s3 g3)
    | (have := HG1; clear this; (with_reducible refine wpList_box_row (by with_unfolding_all rfl) 37 _ (by with_unfolding_all rfl) [.int .u64 (s : Int), .int .i64 ta] (by with_unfolding_all rfl) ?_); intro w2 B2 s2 g2; have HB2 := hid B2; have HC2 := hid (HB1.out.keep g2); have HG2 := hid (gtrans HG1.out g2); clear B2 s2 g2)
    | ((with_reducible refine wpList_box_row (by with_unfolding_all rfl) 28 _ (by with_unfolding_all rfl) [.int .i64 H, .int .u64 (l : Int)] (by with_unfolding_all rfl) ?_); intro w1 B1 s1 g1; have HB1 := hid B1; have HG1 := hid g1; clear B1 s1 g1))
  refine (HCN.out _).mono ?_
  rintro e w4 ⟨rfl, hg4⟩
  have HB4 := hid (HB3.out.keep hg4)
  have HG4 := hid (gtrans HG3.out hg4)
  clear hg4
  go_upto_region 2 with (first
    | (have := HG5; clear this; (with_reducible refine wpList_store_all (by with_unfolding_all rfl) 37 _ _ (by with_unfolding_all rfl) _ [.int .u64 0, .int .i64 0] [.int .u64 (S : Int), .int .i64 T] 37 (by with_unfolding_all rfl) (by with_unfolding_all rfl) HX5.out (by with_unfolding_all rfl) (by with_unfolding_all exact Try.size37) (one2 _ _ _ _) ?_); intro w6 B6 g6 s6; have HX6 := hid B6; have HB6 := hid (HB5.out.on g6 (by have := HB4.out.lt; simp; omega)); have HG6 := hid (HG5.out.andThen g6 (fun j hj => .inl (by injection hj with hj; have := HG4.out.size; omega))); clear B6 g6 s6)
    | ((with_reducible refine wpList_alloc_row (by with_unfolding_all rfl) 37 (by with_unfolding_all rfl) [.int .u64 0, .int .i64 0] Try.zero37 ?_); intro w5 B5 s5 g5; have HX5 := hid B5; have HB5 := hid (HB4.out.keep g5); have HG5 := hid (gtrans HG4.out g5); clear B5 s5 g5))
  obtain ⟨p6, hp6⟩ : ∃ x, w2.heap.size = x := ⟨_, rfl⟩
  obtain ⟨p7, hp7⟩ : ∃ x, w4.heap.size = x := ⟨_, rfl⟩
  rw [hp6] at HB6
  rw [hp7] at HX6
  simp only [hp6, hp7]
  have HPn : Hid (w.heap.size ≤ p6 ∧ w.heap.size ≤ p7 ∧ p6 ≠ p7) := hid (by have h1 := HG2.out.size; have h2 := HB4.out.lt; have h3 := HG4.out.size; omega)
  clear hp6 hp7 HB1 HB2 HB3 HB4 HB5 HC2 HC3 HM3 HX5 HG1 HG2 HG3 HG4 HG5
  have x0 := HX6.out.cell 0
  have xz := HX6.out.frozen 0
  go_wp2_with fail
  refine (HCP.out _).mono ?_
  rintro e w7 ⟨rfl, rfl⟩
  go_upto_region 3 with fail
  obtain ⟨w8, hw8⟩ : ∃ x, w7.setCell ⟨p7, 0, none⟩ (.int .u64 (q : Int)) = x := ⟨_, rfl⟩
  rw [hw8]
  have HX8 : Hid (Blk w8 p7 [.int .u64 (q : Int), .int .i64 T] 37) := hid (by rw [← hw8]; exact HX6.out.set 0 _)
  have HG8 : Hid (w7.grownBy w8 (some p7)) := hid (by rw [← hw8]; exact gset _ _ _)
  have HB8 := hid (HB6.out.on HG8.out (by have := HPn.out; simp; omega))
  have HG9 := hid (HG6.out.andThen HG8.out (fun j hj => .inl (by injection hj with hj; have := HPn.out; omega)))
  clear hw8 x0 xz
  go_wp2_with (first
    | ((with_reducible refine wpList_load_part (by with_unfolding_all rfl) 37 _ (by with_unfolding_all rfl) _ 0 [.int .u64 (q : Int), .int .i64 T] _ (by with_unfolding_all rfl) HX8.out.whole Try.underlying37 (by with_unfolding_all rfl) (by with_unfolding_all exact Try.size37) ?_))
    | ((with_reducible refine wpList_store_all (by with_unfolding_all rfl) 37 _ _ (by with_unfolding_all rfl) _ [.int .u64 0, .int .i64 0] [.int .u64 (q : Int), .int .i64 T] 37 (by with_unfolding_all rfl) (by with_unfolding_all rfl) HB8.out (by with_unfolding_all rfl) (by with_unfolding_all exact Try.size37) (one2 _ _ _ _) ?_); intro w10 B10 g10 s10; have HB10 := hid B10; have HG10 := hid (HG9.out.andThen g10 (fun j hj => .inl (by injection hj with hj; have := HPn.out; omega))); clear B10 g10 s10))
  refine bodyPost_ret (results_blk rfl _ p6 37 [.int .u64 (q : Int), .int .i64 T] _ rfl HB10.out Try.underlying37 rfl Try.size37) rfl ?_
  exact ⟨rfl, HG10.out⟩
theorem geq64 {x y : Operand} {D M : Int} (u : World) : (do eqGuard .geq 26 x y (.int .u64 D) (.int .u64 M); binOp .geq 26 (.int .u64 D) (.int .u64 M) : Sem Value).run Try.prog u = .ok (.bool (decide (M ≤ D))) u := by
  go_simp
theorem fd37 (a b : Int) (u : World) : (Instr.field 37 (.agg #[.int .u64 a, .int .i64 b]) 0).run Try.prog u = .ok (.int .u64 a) u := by kernel_rfl
set_option maxRecDepth 100000 in
set_option maxHeartbeats 800000 in
theorem rlocked_any (H : Int) (l s : Nat) (ta now : Int) (w : World) (hH0 : 1 ≤ H) (hH : H ≤ 9223372036854775807) (hA : -9223372036854775808 ≤ ta) (hA2 : ta ≤ 9223372036854775807) (hn : now ≤ 9223372036854775807) (hs : Fnt s) :
    Calls Try.prog 20 #[.agg #[.int .i64 H, .int .u64 (l : Int)], .agg #[.int .u64 (s : Int), .int .i64 ta], .int .i64 now] w fun e w' => e = .returned (.bool (decide (l ≤ nowS H s ta now))) ∧ w.grownBy w' none := by
  have HCN := hid (fun u => rnow_any H l s ta now u hH0 hH hA hA2 hn hs)
  obtain ⟨T, hT⟩ : ∃ T, nowA H ta now = T := ⟨_, rfl⟩
  obtain ⟨S, hS⟩ : ∃ S, nowS H s ta now = S := ⟨_, rfl⟩
  rw [hT, hS] at HCN
  rw [hS]
  obtain ⟨g, hg⟩ : ∃ g, decide (l ≤ S) = g := ⟨_, rfl⟩
  have HGe : Hid (∀ (x y : Operand) (u : World), (do eqGuard .geq 26 x y (.int .u64 (S : Int)) (.int .u64 (l : Int)); binOp .geq 26 (.int .u64 (S : Int)) (.int .u64 (l : Int)) : Sem Value).run Try.prog u = .ok (.bool g) u) := hid (fun x y u => by rw [geq64, ← hg]; congr 2; exact decide_eq_decide.2 (by omega))
  rw [hg]
  clear hT hS hg hH0 hH hA hA2 hn hs
  go_enter Try.func20, Try.ntmps20
  go_upto_region 1 with (first
    | (have := HG1; clear this; (with_reducible refine wpList_box_row (by with_unfolding_all rfl) 37 _ (by with_unfolding_all rfl) [.int .u64 (s : Int), .int .i64 ta] (by with_unfolding_all rfl) ?_); intro w2 B2 s2 g2; have HB2 := hid B2; have HC2 := hid (HB1.out.keep g2); have HG2 := hid (gtrans HG1.out g2); clear B2 s2 g2)
    | ((with_reducible refine wpList_box_row (by with_unfolding_all rfl) 28 _ (by with_unfolding_all rfl) [.int .i64 H, .int .u64 (l : Int)] (by with_unfolding_all rfl) ?_); intro w1 B1 s1 g1; have HB1 := hid B1; have HG1 := hid g1; clear B1 s1 g1))
  obtain ⟨p3, hp3⟩ : ∃ x, w.heap.size = x := ⟨_, rfl⟩
  obtain ⟨p4, hp4⟩ : ∃ x, w1.heap.size = x := ⟨_, rfl⟩
  rw [hp3] at HC2
  rw [hp4] at HB2
  simp only [hp3, hp4]
  clear hp3 hp4 HB1 HG1
  go_wp2_with fail
  refine wp_region_list (by kernel_rfl) [fun v _ => v = (Value.agg [Value.int .i64 H, Value.int .u64 (l : Int)].toArray), fun v _ => v = (Value.agg [Value.int .u64 (s : Int), Value.int .i64 ta].toArray), fun v _ => v = (Value.int .i64 now), fun v _ => v = (Value.agg [Value.int .u64 (S : Int), Value.int .i64 T].toArray), fun v _ => v = (Value.int .u64 (S : Int)), fun v _ => v = (Value.pointer (some ⟨p3, 1, none⟩)), fun v _ => v = (Value.int .u64 (l : Int)), fun v _ => v = (Value.bool g), fun v _ => v = (Value.bool g)] (none) (fun _ => none) 9 (by kernel_rfl) (by kernel_rfl) (by kernel_rfl) (by kernel_rfl) (by decide) noRow_one (fun _ => .inl rfl) ⟨fun i v u u' hki h hg => h, fun i v u u' hki h hg => h, fun i v u u' hki h hg => h, fun i v u u' hki h hg => h, fun i v u u' hki h hg => h, fun i v u u' hki h hg => h, fun i v u u' hki h hg => h, fun i v u u' hki h hg => h, fun i v u u' hki h hg => h, trivial⟩ ⟨?_, ?_, ?_, ?_, ?_, ?_, ?_, ?_, ?_, trivial⟩ ?_
  · intro A u hu hpu hsz hout hdeps
    have e3 : A.eval (.tmp 3) = (.pointer (some ⟨p3, 0, none⟩)) := (hout 3 (by kernel_rfl)).trans rfl
    refine ifw_none rfl ?_
    with_reducible refine shown_q (Value.agg [Value.int .i64 H, Value.int .u64 (l : Int)].toArray) ?qq_1_0 (fun _ _ => ?qr_1_0)
    case qr_1_0 => exact (rfl : (Value.agg [Value.int .i64 H, Value.int .u64 (l : Int)].toArray) = (Value.agg [Value.int .i64 H, Value.int .u64 (l : Int)].toArray))
    with_reducible refine quietAt_load 28 (.tmp 3) ?h0_1_0 p3 0 [Value.int .i64 H, Value.int .u64 (l : Int)] (.struct (Try.prog.fieldsOf 28)) ?h1_1_0 ?h2_1_0 ?h3_1_0 ?h4_1_0 ?h5_1_0
    case h0_1_0 => rfl
    case h1_1_0 => exact e3
    case h2_1_0 => exact (HC2.out.keep hu).whole
    case h3_1_0 => exact Try.underlying28
    case h4_1_0 => rfl
    case h5_1_0 => exact Try.size28
  · intro A u hu hpu hsz hout hdeps
    have e4 : A.eval (.tmp 4) = (.pointer (some ⟨p4, 0, none⟩)) := (hout 4 (by kernel_rfl)).trans rfl
    refine ifw_none rfl ?_
    with_reducible refine shown_q (Value.agg [Value.int .u64 (s : Int), Value.int .i64 ta].toArray) ?qq_1_1 (fun _ _ => ?qr_1_1)
    case qr_1_1 => exact (rfl : (Value.agg [Value.int .u64 (s : Int), Value.int .i64 ta].toArray) = (Value.agg [Value.int .u64 (s : Int), Value.int .i64 ta].toArray))
    with_reducible refine quietAt_load 37 (.tmp 4) ?h0_1_1 p4 0 [Value.int .u64 (s : Int), Value.int .i64 ta] (.struct (Try.prog.fieldsOf 37)) ?h1_1_1 ?h2_1_1 ?h3_1_1 ?h4_1_1 ?h5_1_1
    case h0_1_1 => rfl
    case h1_1_1 => exact e4
    case h2_1_1 => exact (HB2.out.keep hu).whole
    case h3_1_1 => exact Try.underlying37
    case h4_1_1 => rfl
    case h5_1_1 => exact Try.size37
  · intro A u hu hpu hsz hout hdeps
    have e2 : A.eval (.tmp 2) = (.int .i64 now) := (hout 2 (by kernel_rfl)).trans rfl
    refine ifw_none rfl ?_
    with_reducible refine shown_q (Value.int .i64 now) ?qq_1_2 (fun _ _ => ?qr_1_2)
    case qr_1_2 => exact (rfl : (Value.int .i64 now) = (Value.int .i64 now))
    with_reducible refine quietAt_mv (.tmp 2) (Value.int .i64 now) ?h0_1_2 ?h1_1_2
    case h0_1_2 => rfl
    case h1_1_2 => exact e2
  · intro A u hu hpu hsz hout hdeps
    have e7 : A.eval (.tmp 7) = (.agg [.int .i64 H, .int .u64 (l : Int)].toArray) := by have h := depL hdeps 0 (by kernel_rfl) 7 (by kernel_rfl); exact h
    have e8 : A.eval (.tmp 8) = (.agg [.int .u64 (s : Int), .int .i64 ta].toArray) := by have h := depL hdeps 1 (by kernel_rfl) 8 (by kernel_rfl); exact h
    have e9 : A.eval (.tmp 9) = (.int .i64 now) := by have h := depL hdeps 2 (by kernel_rfl) 9 (by kernel_rfl); exact h
    refine ifw_none rfl ?_
    with_reducible refine shown_q (Value.agg [Value.int .u64 (S : Int), Value.int .i64 T].toArray) ?qq_1_3 (fun _ _ => ?qr_1_3)
    case qr_1_3 => exact (rfl : (Value.agg [Value.int .u64 (S : Int), Value.int .i64 T].toArray) = (Value.agg [Value.int .u64 (S : Int), Value.int .i64 T].toArray))
    with_reducible refine quietAt_call 13 Try.f13 ?h0_1_3 ?h1_1_3 ?h2_1_3 #[.tmp 7, .tmp 8, .tmp 9] #[28, 37, 2] ?h3_1_3 (Value.agg [Value.int .u64 (S : Int), Value.int .i64 T].toArray) #[(Value.agg [Value.int .i64 H, Value.int .u64 (l : Int)].toArray), (Value.agg [Value.int .u64 (s : Int), Value.int .i64 ta].toArray), (Value.int .i64 now)] ?h4_1_3 ?h5_1_3
    case h0_1_3 => exact Try.func13
    case h1_1_3 => kernel_rfl
    case h2_1_3 => kernel_rfl
    case h3_1_3 => rfl
    case h4_1_3 => exact map3 _ _ _ _ _ _ _ e7 e8 e9
    case h5_1_3 => exact HCN.out u
  · intro A u hu hpu hsz hout hdeps
    have e10 : A.eval (.tmp 10) = (.agg [.int .u64 (S : Int), .int .i64 T].toArray) := by have h := depL hdeps 3 (by kernel_rfl) 10 (by kernel_rfl); exact h
    refine ifw_none rfl ?_
    with_reducible refine shown_q (Value.int .u64 (S : Int)) ?qq_1_4 (fun _ _ => ?qr_1_4)
    case qr_1_4 => exact (rfl : (Value.int .u64 (S : Int)) = (Value.int .u64 (S : Int)))
    with_reducible refine quietAt_fd 37 (.tmp 10) 0 (Value.agg [Value.int .u64 (S : Int), Value.int .i64 T].toArray) (Value.int .u64 (S : Int)) ?h0_1_4 ?h1_1_4 ?h2_1_4
    case h0_1_4 => rfl
    case h1_1_4 => exact e10
    case h2_1_4 => exact fd37 _ _ u
  · intro A u hu hpu hsz hout hdeps
    have e3 : A.eval (.tmp 3) = (.pointer (some ⟨p3, 0, none⟩)) := (hout 3 (by kernel_rfl)).trans rfl
    refine ifw_none rfl ?_
    with_reducible refine shown_q (Value.pointer (some ⟨p3, 1, none⟩)) ?qq_1_5 (fun _ _ => ?qr_1_5)
    case qr_1_5 => exact (rfl : (Value.pointer (some ⟨p3, 1, none⟩)) = (Value.pointer (some ⟨p3, 1, none⟩)))
    with_reducible refine quietAt_field 28 (.tmp 3) 1 ?h0_1_5 ⟨p3, 0, none⟩ ⟨p3, 1, none⟩ ?h1_1_5 ?h2_1_5
    case h0_1_5 => rfl
    case h1_1_5 => exact e3
    case h2_1_5 => kernel_rfl
  · intro A u hu hpu hsz hout hdeps
    have e12 : A.eval (.tmp 12) = (.pointer (some ⟨p3, 1, none⟩)) := by have h := depL hdeps 5 (by kernel_rfl) 12 (by kernel_rfl); exact h
    refine ifw_none rfl ?_
    with_reducible refine shown_q (Value.int .u64 (l : Int)) ?qq_1_6 (fun _ _ => ?qr_1_6)
    case qr_1_6 => exact (rfl : (Value.int .u64 (l : Int)) = (Value.int .u64 (l : Int)))
    with_reducible refine quietAt_ld 26 (.tmp 12) (Value.pointer (some ⟨p3, 1, none⟩)) (Value.int .u64 (l : Int)) ?h0_1_6 ?h1_1_6 ?h2_1_6
    case h0_1_6 => rfl
    case h1_1_6 => exact e12
    case h2_1_6 => exact ld26 ((HC2.out.keep hu).cell 1)
  · intro A u hu hpu hsz hout hdeps
    have e11 : A.eval (.tmp 11) = (.int .u64 (S : Int)) := by have h := depL hdeps 4 (by kernel_rfl) 11 (by kernel_rfl); exact h
    have e13 : A.eval (.tmp 13) = (.int .u64 (l : Int)) := by have h := depL hdeps 6 (by kernel_rfl) 13 (by kernel_rfl); exact h
    refine ifw_none rfl ?_
    with_reducible refine shown_q (Value.bool g) ?qq_1_7 (fun _ _ => ?qr_1_7)
    case qr_1_7 => exact (rfl : (Value.bool g) = (Value.bool g))
    with_reducible refine quietAt_bin .geq 26 (.tmp 11) (.tmp 13) 26 (Value.int .u64 (S : Int)) (Value.int .u64 (l : Int)) (Value.bool g) ?h0_1_7 ?h1_1_7 ?h2_1_7 ?h3_1_7
    case h0_1_7 => rfl
    case h1_1_7 => exact e11
    case h2_1_7 => exact e13
    case h3_1_7 => exact HGe.out _ _ u
  · intro A u hu hpu hsz hout hdeps
    have e14 : A.eval (.tmp 14) = (.bool g) := by have h := depL hdeps 7 (by kernel_rfl) 14 (by kernel_rfl); exact h
    refine ifw_none rfl ?_
    with_reducible refine shown_q (Value.bool g) ?qq_1_8 (fun _ _ => ?qr_1_8)
    case qr_1_8 => exact (rfl : (Value.bool g) = (Value.bool g))
    with_reducible refine quietAt_as (.tmp 14) (Value.bool g) ?h0_1_8 ?h1_1_8
    case h0_1_8 => rfl
    case h1_1_8 => exact e14
  · intro A w7 listed hh hall
    have hA := hh.frame
    have HU := hid hh.grown
    obtain ⟨x7, hx7⟩ : ∃ x, A.eval (.tmp 7) = x := ⟨_, rfl⟩
    have f7 : (fun v _ => v = (Value.agg [Value.int .i64 H, Value.int .u64 (l : Int)].toArray)) x7 w7 := by rw [← hx7]; exact hh.got 0 _ 7 rfl rfl (hall 0 (by decide))
    obtain ⟨x8, hx8⟩ : ∃ x, A.eval (.tmp 8) = x := ⟨_, rfl⟩
    have f8 : (fun v _ => v = (Value.agg [Value.int .u64 (s : Int), Value.int .i64 ta].toArray)) x8 w7 := by rw [← hx8]; exact hh.got 1 _ 8 rfl rfl (hall 1 (by decide))
    obtain ⟨x9, hx9⟩ : ∃ x, A.eval (.tmp 9) = x := ⟨_, rfl⟩
    have f9 : (fun v _ => v = (Value.int .i64 now)) x9 w7 := by rw [← hx9]; exact hh.got 2 _ 9 rfl rfl (hall 2 (by decide))
    obtain ⟨x10, hx10⟩ : ∃ x, A.eval (.tmp 10) = x := ⟨_, rfl⟩
    have f10 : (fun v _ => v = (Value.agg [Value.int .u64 (S : Int), Value.int .i64 T].toArray)) x10 w7 := by rw [← hx10]; exact hh.got 3 _ 10 rfl rfl (hall 3 (by decide))
    obtain ⟨x11, hx11⟩ : ∃ x, A.eval (.tmp 11) = x := ⟨_, rfl⟩
    have f11 : (fun v _ => v = (Value.int .u64 (S : Int))) x11 w7 := by rw [← hx11]; exact hh.got 4 _ 11 rfl rfl (hall 4 (by decide))
    obtain ⟨x12, hx12⟩ : ∃ x, A.eval (.tmp 12) = x := ⟨_, rfl⟩
    have f12 : (fun v _ => v = (Value.pointer (some ⟨p3, 1, none⟩))) x12 w7 := by rw [← hx12]; exact hh.got 5 _ 12 rfl rfl (hall 5 (by decide))
    obtain ⟨x13, hx13⟩ : ∃ x, A.eval (.tmp 13) = x := ⟨_, rfl⟩
    have f13 : (fun v _ => v = (Value.int .u64 (l : Int))) x13 w7 := by rw [← hx13]; exact hh.got 6 _ 13 rfl rfl (hall 6 (by decide))
    obtain ⟨x14, hx14⟩ : ∃ x, A.eval (.tmp 14) = x := ⟨_, rfl⟩
    have f14 : (fun v _ => v = (Value.bool g)) x14 w7 := by rw [← hx14]; exact hh.got 7 _ 14 rfl rfl (hall 7 (by decide))
    obtain ⟨x6, hx6⟩ : ∃ x, A.eval (.tmp 6) = x := ⟨_, rfl⟩
    have f6 : (fun v _ => v = (Value.bool g)) x6 w7 := by rw [← hx6]; exact hh.got 8 _ 6 rfl rfl (hall 8 (by decide))
    dsimp only [wrote, List.foldl] at hA
    rw [hx7, hx8, hx9, hx10, hx11, hx12, hx13, hx14, hx6] at hA
    clear hh hall hx7 hx8 hx9 hx10 hx11 hx12 hx13 hx14 hx6
    replace f7 := (f7 : x7 = (.agg [.int .i64 H, .int .u64 (l : Int)].toArray))
    subst f7
    replace f8 := (f8 : x8 = (.agg [.int .u64 (s : Int), .int .i64 ta].toArray))
    subst f8
    replace f9 := (f9 : x9 = (.int .i64 now))
    subst f9
    replace f10 := (f10 : x10 = (.agg [.int .u64 (S : Int), .int .i64 T].toArray))
    subst f10
    replace f11 := (f11 : x11 = (.int .u64 (S : Int)))
    subst f11
    replace f12 := (f12 : x12 = (.pointer (some ⟨p3, 1, none⟩)))
    subst f12
    replace f13 := (f13 : x13 = (.int .u64 (l : Int)))
    subst f13
    replace f14 := (f14 : x14 = (.bool g))
    subst f14
    replace f6 := (f6 : x6 = (.bool g))
    subst f6
    subst hA
    show wpList _ _ _ [] _ _
    unfold wpList
    simp only [Act.put, List.setIfInBounds_toArray, List.set_cons_succ, List.set_cons_zero]
    go_wp2_with fail
    go_ret
    exact ⟨rfl, gtrans HG2.out HU.out⟩
theorem nowA_end {H T : Int} {k : Nat} : nowA H T (T + k * max H 1) = T + k * max H 1 := by
  have hM : 0 < max H 1 := by omega
  by_cases h : k = 0
  · subst h; rw [nowA_le (by omega)]; omega
  · have : 0 < (k : Int) * max H 1 := Int.mul_pos (by omega) hM
    rw [nowA_gt (by omega)]
    have e : nowK H T (T + k * max H 1) = k := by
      unfold nowK
      rw [show T + (k : Int) * max H 1 - T = k * max H 1 by omega, Int.mul_ediv_cancel _ (by omega)]
    rw [e]
theorem exists_HB {l S : Nat} (h0 : 0 < l) (hS : Fnt S) : ∃ k, k ≤ 2100 ∧ isHB l S k := by
  have : ∀ n, (∀ j, j < n → l ≤ hfN j S) ∨ ∃ k, k < n ∧ isHB l S k := by
    intro n
    induction n with
    | zero => exact .inl (fun j hj => by omega)
    | succ n ih =>
      rcases ih with h | ⟨k, hk, hb⟩
      · by_cases hl : l ≤ hfN n S
        · exact .inl (fun j hj => by
            rcases Nat.lt_succ_iff_lt_or_eq.1 hj with h2 | h2
            · exact h j h2
            · rw [h2]; exact hl)
        · exact .inr ⟨n, by omega, h, by omega⟩
      · exact .inr ⟨k, by omega, hb⟩
  rcases this 2101 with h | ⟨k, hk, hb⟩
  · have := h 2100 (by omega)
    rw [hfN_end hS (by omega)] at this
    omega
  · exact ⟨k, by omega, hb⟩
theorem waitIs.eq {H : Int} {l s : Nat} {ta now x x' : Int} {b b' : Bool} (h : waitIs H l s ta now x b) (h' : waitIs H l s ta now x' b') : x = x' ∧ b = b' := by
  unfold waitIs at h h'
  rcases h with ⟨h1, h2, h3⟩ | ⟨h1, k, hk, h2⟩
  · rcases h' with ⟨_, h5, h6⟩ | ⟨h4, _⟩
    · exact ⟨by omega, by rw [h3, h6]⟩
    · omega
  · rcases h' with ⟨h4, _⟩ | ⟨_, k', hk', h5⟩
    · omega
    · have := hk.eq hk'
      subst this
      rcases h2 with ⟨a1, a2, a3, a4⟩ | ⟨a1, a2, a3⟩
      · rcases h5 with ⟨_, _, c3, c4⟩ | ⟨c1, _⟩
        · exact ⟨by omega, by rw [a4, c4]⟩
        · exact absurd ⟨a1, a2⟩ c1
      · rcases h5 with ⟨c1, c2, _⟩ | ⟨_, c2, c3⟩
        · exact absurd ⟨c1, c2⟩ a1
        · exact ⟨by omega, by rw [a3, c3]⟩
/-- The time that the reference looks at next, behind i half-lives. -/
def rat (now T H : Int) (i : Nat) : Int := if i = 0 then now else T + i * H
set_option maxRecDepth 100000 in
set_option maxHeartbeats 1600000 in
theorem rwait_any (H : Int) (l s : Nat) (ta now : Int) (w : World) (hH0 : 1 ≤ H) (hH : H ≤ 9223372036854775807) (hA : -9223372036854775808 ≤ ta) (hA2 : ta ≤ 9223372036854775807) (hn : now ≤ 9223372036854775807) (hs : Fnt s) (hn0 : -9223372036854775808 ≤ now) (hl0 : 0 < l) :
    Calls Try.prog 22 #[.agg #[.int .i64 H, .int .u64 (l : Int)], .agg #[.int .u64 (s : Int), .int .i64 ta], .int .i64 now] w fun e w' => ∃ (x : Int) (b : Bool), e = .returned (.tuple #[.int .i64 x, .bool b]) ∧ waitIs H l s ta now x b ∧ w.grownBy w' none := by
  have hmx : max H 1 = H := by omega
  have hbd := nowA_bd (H := H) hA hA2 hn
  obtain ⟨k, hk, hkb⟩ := exists_HB (l := l) (S := nowS H s ta now) hl0 (nowS_fin hs)
  have HW : Hid (∀ x b, waitIs H l s ta now x b ↔ (nowS H s ta now < l ∧ x = 0 ∧ b = true) ∨ (l ≤ nowS H s ta now ∧ ∃ k, isHB l (nowS H s ta now) k ∧
    ((nowA H ta now + k * max H 1 ≤ 9223372036854775807 ∧ nowA H ta now + k * max H 1 - now ≤ 9223372036854775807 ∧ x = nowA H ta now + k * max H 1 - now ∧ b = true) ∨
     (¬ (nowA H ta now + k * max H 1 ≤ 9223372036854775807 ∧ nowA H ta now + k * max H 1 - now ≤ 9223372036854775807) ∧ x = 0 ∧ b = false)))) := hid (fun x b => Iff.rfl)
  have HRt : Hid (∀ (i : Nat) (a : Int), a = rat now (nowA H ta now) H i → a ≤ 9223372036854775807 → nowS H s ta a = hfN i (nowS H s ta now) ∧ nowA H ta a = nowA H ta now + i * H) := hid (fun i a ha ha2 => by
    unfold rat at ha
    have hl := later_S (H := H) (ta := ta) (s := s) (now := now) (b := a)
    by_cases hi : i = 0
    · rw [if_pos hi] at ha
      subst hi
      subst ha
      exact ⟨rfl, by omega⟩
    · rw [if_neg hi] at ha
      have h1 : (1 : Int) * H ≤ (i : Int) * H := Int.mul_le_mul_of_nonneg_right (by omega) (by omega)
      have h2 := hl (by omega)
      have e1 := nowS_end (H := H) (T := nowA H ta now) (S := nowS H s ta now) (k := i)
      have e2 := nowA_end (H := H) (T := nowA H ta now) (k := i)
      rw [hmx, ← ha] at e1 e2
      rw [← h2.1, ← h2.2, e1, e2]
      exact ⟨rfl, ha⟩)
  have HCL : Hid (∀ (i : Nat) (a : Int) (u : World), a = rat now (nowA H ta now) H i → a ≤ 9223372036854775807 → Calls Try.prog 20 #[.agg #[.int .i64 H, .int .u64 (l : Int)], .agg #[.int .u64 (s : Int), .int .i64 ta], .int .i64 a] u fun e w' => e = .returned (.bool (decide (l ≤ hfN i (nowS H s ta now)))) ∧ u.grownBy w' none) := hid (fun i a u ha ha2 => by
    have := rlocked_any H l s ta a u hH0 hH hA hA2 ha2 hs
    rw [(HRt.out i a ha ha2).1] at this
    exact this)
  have HCN : Hid (∀ (i : Nat) (a : Int) (u : World), a = rat now (nowA H ta now) H i → a ≤ 9223372036854775807 → Calls Try.prog 13 #[.agg #[.int .i64 H, .int .u64 (l : Int)], .agg #[.int .u64 (s : Int), .int .i64 ta], .int .i64 a] u fun e w' => e = .returned (.agg #[.int .u64 (hfN i (nowS H s ta now) : Int), .int .i64 (nowA H ta now + i * H)]) ∧ u.grownBy w' none) := hid (fun i a u ha ha2 => by
    have := rnow_any H l s ta a u hH0 hH hA hA2 ha2 hs
    rw [(HRt.out i a ha ha2).1, (HRt.out i a ha ha2).2] at this
    exact this)
  have HN := hid (And.intro hn0 hn)
  have HT := hid (And.intro hbd.1 (And.intro hbd.2.1 hbd.2.2))
  simp only [hmx] at HW HT
  obtain ⟨T, hT⟩ : ∃ T, nowA H ta now = T := ⟨_, rfl⟩
  obtain ⟨S, hS⟩ : ∃ S, nowS H s ta now = S := ⟨_, rfl⟩
  simp only [hT, hS] at HW HCL HCN HT hkb
  have HKb := hid hkb
  have HFin : Hid (∀ (x : Int) (b : Bool), ((S < l ∧ x = 0 ∧ b = true) ∨ (l ≤ S ∧ ∃ k, isHB l S k ∧ ((T + k * H ≤ 9223372036854775807 ∧ T + k * H - now ≤ 9223372036854775807 ∧ x = T + k * H - now ∧ b = true) ∨ (¬ (T + k * H ≤ 9223372036854775807 ∧ T + k * H - now ≤ 9223372036854775807) ∧ x = 0 ∧ b = false)))) → waitIs H l s ta now x b) := hid (fun x b h => (HW.out x b).2 h)
  clear hT hS hmx hbd hkb HW HRt hA hA2 hn hn0 hs hl0 hk
  go_enter Try.func22, Try.ntmps22
  go_upto_region 1 with (first
    | (have := HG1; clear this; (with_reducible refine wpList_box_row (by with_unfolding_all rfl) 37 _ (by with_unfolding_all rfl) [.int .u64 (s : Int), .int .i64 ta] (by with_unfolding_all rfl) ?_); intro w2 B2 s2 g2; have HB2 := hid B2; have HC2 := hid (HB1.out.keep g2); have HG2 := hid (gtrans HG1.out g2); clear B2 s2 g2)
    | ((with_reducible refine wpList_box_row (by with_unfolding_all rfl) 28 _ (by with_unfolding_all rfl) [.int .i64 H, .int .u64 (l : Int)] (by with_unfolding_all rfl) ?_); intro w1 B1 s1 g1; have HB1 := hid B1; have HG1 := hid g1; clear B1 s1 g1))
  obtain ⟨p3, hp3⟩ : ∃ x, w.heap.size = x := ⟨_, rfl⟩
  obtain ⟨p4, hp4⟩ : ∃ x, w1.heap.size = x := ⟨_, rfl⟩
  rw [hp3] at HC2
  rw [hp4] at HB2
  simp only [hp3, hp4]
  clear hp3 hp4 HB1 HG1
  go_wp2_with fail
  go_loopw [8] (fun av wr => ∃ (i : Nat) (a : Int), av = .int .i64 a ∧ -9223372036854775808 ≤ a ∧ a ≤ 9223372036854775807 ∧ Hid (a = rat now T H i) ∧ Hid (i ≤ k) ∧ Hid (Blk wr p3 [.int .i64 H, .int .u64 (l : Int)] 28) ∧ Hid (Blk wr p4 [.int .u64 (s : Int), .int .i64 ta] 37) ∧ Hid (w.grownBy wr none)) (fun av _ => (T + k * H - intOf av).toNat)
  case atStart => exact ⟨0, now, rfl, HN.out.1, HN.out.2, hid rfl, hid (Nat.zero_le _), HC2, HB2, HG2⟩
  case round =>
    obtain ⟨i, a, rfl, ha1, ha2, HA, HI, HC, HM, HG⟩ := hrel
    clear HC2 HB2 HG2
    have HLk := hid (fun u => HCL.out i a u HA.out ha2)
    go_wp2_with (first
      | ((with_reducible refine wpList_load_part (by with_unfolding_all rfl) 28 _ (by with_unfolding_all rfl) _ 0 [.int .i64 H, .int .u64 (l : Int)] _ (by with_unfolding_all rfl) HC.out.whole Try.underlying28 (by with_unfolding_all rfl) (by with_unfolding_all exact Try.size28) ?_))
      | ((with_reducible refine wpList_load_part (by with_unfolding_all rfl) 37 _ (by with_unfolding_all rfl) _ 0 [.int .u64 (s : Int), .int .i64 ta] _ (by with_unfolding_all rfl) HM.out.whole Try.underlying37 (by with_unfolding_all rfl) (by with_unfolding_all exact Try.size37) ?_)))
    refine (HLk.out _).mono ?_
    rintro e w3 ⟨rfl, hg3⟩
    have HC3 := hid (HC.out.keep hg3)
    have HM3 := hid (HM.out.keep hg3)
    have HG3 := hid (gtrans HG.out hg3)
    clear hg3 HC HM HG HLk
    by_cases hik : i < k
    · have hlk := HKb.out.1 i hik
      rw [decide_eq_true hlk]
      have HNw := hid (fun u => HCN.out i a u HA.out ha2)
      obtain ⟨Z, hZ⟩ : ∃ Z, T + (i : Int) * H = Z := ⟨_, rfl⟩
      obtain ⟨V, hV⟩ : ∃ V, hfN i S = V := ⟨_, rfl⟩
      have HZ := hid hZ
      have HLS : Hid (l ≤ S) := hid (by have := hfN_le S i; omega)
      have HZb : Hid (-9223372036854775808 ≤ Z) := hid (by have := HT.out.1; have : 0 ≤ (i : Int) * H := Int.mul_nonneg (by omega) (by omega); omega)
      have HZM : Hid ((i : Int) * H + H ≤ k * H) := hid (by
        have h1 : ((i : Int) + 1) * H ≤ k * H := Int.mul_le_mul_of_nonneg_right (by omega) (by omega)
        rw [Int.add_mul, Int.one_mul] at h1
        exact h1)
      have HaZ : Hid (a < Z + H) := hid (by
        have h1 := HA.out
        unfold rat at h1
        by_cases hi0 : i = 0
        · rw [if_pos hi0] at h1
          subst hi0
          have := HT.out.2.2
          omega
        · rw [if_neg hi0] at h1
          omega)
      rw [hZ, hV] at HNw
      clear hZ hV hlk
      go_wp2_with (first
        | ((with_reducible refine wpList_load_part (by with_unfolding_all rfl) 28 _ (by with_unfolding_all rfl) _ 0 [.int .i64 H, .int .u64 (l : Int)] _ (by with_unfolding_all rfl) HC3.out.whole Try.underlying28 (by with_unfolding_all rfl) (by with_unfolding_all exact Try.size28) ?_))
        | ((with_reducible refine wpList_load_part (by with_unfolding_all rfl) 37 _ (by with_unfolding_all rfl) _ 0 [.int .u64 (s : Int), .int .i64 ta] _ (by with_unfolding_all rfl) HM3.out.whole Try.underlying37 (by with_unfolding_all rfl) (by with_unfolding_all exact Try.size37) ?_)))
      refine (HNw.out _).mono ?_
      rintro e w4 ⟨rfl, hg4⟩
      have HC4 := hid (HC3.out.keep hg4)
      have HM4 := hid (HM3.out.keep hg4)
      have HG4 := hid (gtrans HG3.out hg4)
      clear hg4 HC3 HM3 HG3 HNw
      go_upto_region 4 with (first
        | (have := HG5; clear this; (with_reducible refine wpList_store_all (by with_unfolding_all rfl) 37 _ _ (by with_unfolding_all rfl) _ [.int .u64 0, .int .i64 0] [.int .u64 (V : Int), .int .i64 Z] 37 (by with_unfolding_all rfl) (by with_unfolding_all rfl) HX5.out (by with_unfolding_all rfl) (by with_unfolding_all exact Try.size37) (one2 _ _ _ _) ?_); intro w6 B6 g6 s6; have HX6 := hid B6; have HC6 := hid (HC5.out.on g6 (by have := HC4.out.lt; simp; omega)); have HM6 := hid (HM5.out.on g6 (by have := HM4.out.lt; simp; omega)); have HG6 := hid (HG5.out.andThen g6 (fun j hj => .inl (by injection hj with hj; have := HG4.out.size; omega))); clear B6 g6 s6)
        | ((with_reducible refine wpList_alloc_row (by with_unfolding_all rfl) 37 (by with_unfolding_all rfl) [.int .u64 0, .int .i64 0] Try.zero37 ?_); intro w5 B5 s5 g5; have HX5 := hid B5; have HC5 := hid (HC4.out.keep g5); have HM5 := hid (HM4.out.keep g5); have HG5 := hid (gtrans HG4.out g5); clear B5 s5 g5))
      have hZb := HZb.out
      have hZ2 : Z ≤ 9223372036854775807 := by
        have h1 := HA.out
        unfold rat at h1
        by_cases hi0 : i = 0
        · have h2 := HZ.out
          subst hi0
          have := HT.out.2.1
          omega
        · rw [if_neg hi0] at h1
          have := HZ.out
          omega
      clear HC4 HM4 HG4 HC5 HM5 HG5 HX5
      have x1 := HX6.out.cell 1
      have c0 := HC6.out.cell 0
      by_cases hz : 0 ≤ Z
      · by_cases hh : 9223372036854775807 - Z < H
        · go_wp2_with fail
          go_ret2
          refine ⟨0, false, rfl, HFin.out 0 false (.inr ⟨HLS.out, k, HKb.out, .inr ⟨fun h => ?_, rfl, rfl⟩⟩), HG6.out⟩
          have h1 := HZM.out
          have h2 := HZ.out
          omega
        · go_wp2_with fail
          go_roundw
          case rel => exact ⟨i + 1, Z + H, by go_num, by omega, by omega, hid (by unfold rat; rw [if_neg (by omega), ← HZ.out]; rw [show ((i + 1 : Nat) : Int) = (i : Int) + 1 by omega, Int.add_mul, Int.one_mul]; omega), hid (by omega), HC6, HM6, HG6⟩
          case measure =>
            have h1 := HaZ.out
            have h2 := HZM.out
            have h3 := HZ.out
            simp [intOf]
            omega
      · go_wp2_with fail
        go_roundw
        case rel => exact ⟨i + 1, Z + H, by go_num, by omega, by omega, hid (by unfold rat; rw [if_neg (by omega), ← HZ.out]; rw [show ((i + 1 : Nat) : Int) = (i : Int) + 1 by omega, Int.add_mul, Int.one_mul]; omega), hid (by omega), HC6, HM6, HG6⟩
        case measure =>
          have h1 := HaZ.out
          have h2 := HZM.out
          have h3 := HZ.out
          simp [intOf]
          omega
    · have hik2 : i = k := by have := HI.out; omega
      rw [decide_eq_false (by rw [hik2]; have := HKb.out.2; omega)]
      have hna : now ≤ a := by
        have h1 := HA.out
        unfold rat at h1
        by_cases hi0 : i = 0
        · rw [if_pos hi0] at h1; omega
        · rw [if_neg hi0] at h1
          have h2 : (1 : Int) * H ≤ (i : Int) * H := Int.mul_le_mul_of_nonneg_right (by omega) (by omega)
          have := HT.out.2.2
          omega
      have f1 := bet_eq HN.out.1 ha2 hna
      obtain ⟨D, hD⟩ : ∃ D, a - now = D := ⟨_, rfl⟩
      rw [hD] at f1
      have hD0 : 0 ≤ D := by omega
      have HD := hid hD
      have HK2 := hid hik2
      have HKpos : Hid (k ≠ 0 → l ≤ S) := hid (fun h => HKb.out.1 0 (by omega))
      have HK0 : Hid (k = 0 → S < l) := hid (fun h => by have h1 := HKb.out.2; rw [h] at h1; exact h1)
      clear hD hik2 hik
      by_cases hDm : 9223372036854775807 < D
      · go_wp2_with fail
        go_ret2
        refine ⟨0, false, rfl, HFin.out 0 false ?_, HG3.out⟩
        have h1 := HA.out
        unfold rat at h1
        have h2 := HK2.out
        have h3 := HD.out
        by_cases hi0 : i = 0
        · rw [if_pos hi0] at h1; omega
        · rw [if_neg hi0, h2] at h1
          exact .inr ⟨HKpos.out (by omega), k, HKb.out, .inr ⟨by omega, rfl, rfl⟩⟩
      · have hw : wrap64 D = D := by unfold wrap64; omega
        go_wp2_with fail
        go_ret2
        refine ⟨D, true, rfl, HFin.out D true ?_, HG3.out⟩
        have h1 := HA.out
        unfold rat at h1
        have h2 := HK2.out
        have h3 := HD.out
        by_cases hi0 : i = 0
        · rw [if_pos hi0] at h1
          exact .inl ⟨HK0.out (by omega), by omega, rfl⟩
        · rw [if_neg hi0, h2] at h1
          exact .inr ⟨HKpos.out (by omega), k, HKb.out, .inl ⟨by omega, by omega, by omega, rfl⟩⟩
end Go.Proofs.Ytnbcplpmpocbpaa
