/- MeterLater: its walk. -/
import Derived.Test.YtnbcplpmpocbpaaWtX
namespace Go.Proofs.Ytnbcplpmpocbpaa
open Go Go.RowKit
open Go.RowKit (wrap32 wrap64)

theorem now_fin (H : Int) (l s : Nat) (ta now : Int) (q : Nat) (T : Int) (w : World) (hH : H ≤ 9223372036854775807) (hA : -9223372036854775808 ≤ ta) (hA2 : ta ≤ 9223372036854775807) (hn : now ≤ 9223372036854775807) (hs : Fnt s) (hq : nowS H s ta now = q) (hT : nowA H ta now = T) :
    Calls Try.prog 14 #[.agg #[.int .i64 H, .int .u64 (l : Int)], .agg #[.int .u64 (s : Int), .int .i64 ta], .int .i64 now] w fun e w' => e = .returned (.agg #[.int .u64 (q : Int), .int .i64 T]) ∧ w.grownBy w' none :=
  (now_any H l s ta now w hH hA hA2 hn).mono fun e w' h => by
    obtain ⟨r, h1, h2, h3⟩ := h
    rw [h2 hs, hq, hT] at h1
    exact ⟨h1, h3⟩
theorem pass_fin (H : Int) (l s : Nat) (ta now : Int) (q : Nat) (T : Int) (w : World) (hH : H ≤ 9223372036854775807) (hA : -9223372036854775808 ≤ ta) (hA2 : ta ≤ 9223372036854775807) (hn : now ≤ 9223372036854775807) (hs : Fnt s) (hq : qt (nowS H s ta now) = q) (hT : nowA H ta now = T) :
    Calls Try.prog 18 #[.agg #[.int .i64 H, .int .u64 (l : Int)], .agg #[.int .u64 (s : Int), .int .i64 ta], .int .i64 now] w fun e w' => e = .returned (.agg #[.int .u64 (q : Int), .int .i64 T]) ∧ w.grownBy w' none :=
  (pass_any H l s ta now w hH hA hA2 hn).mono fun e w' h => by
    obtain ⟨r, h1, h2, h3⟩ := h
    rw [h2 hs, hq, hT] at h1
    exact ⟨h1, h3⟩
theorem lfine_fin (H : Int) (l s : Nat) (ta : Int) (hl : l < 18446744073709551616) (hc : ckB H l = true) (hs : Fnt s) (w : World) : Calls Try.prog 24 #[.agg #[.int .i64 H, .int .u64 (l : Int)], .agg #[.int .u64 (s : Int), .int .i64 ta]] w fun e w' => e = .returned (.bool true) ∧ w.grownBy w' none := by
  have := lfine_any H l s ta hl (by unfold Fnt at hs; omega) w
  have e : fnB H l s = true := by unfold fnB; rw [hc, decide_eq_true (show s < 9218868437227405312 from hs)]; rfl
  rw [e] at this
  exact this
theorem geq49 {x y : Operand} {a b : Nat} {g : Bool} (ha : Fnt a) (hb : Fnt b) (h : decide (b ≤ a) = g) (u : World) : (do eqGuard .geq 49 x y (.float .f64 a) (.float .f64 b); binOp .geq 49 (.float .f64 a) (.float .f64 b) : Sem Value).run Try.prog u = .ok (.bool g) u := by
  rw [Sem.run_bind]
  have := geq_run 49 a b u
  rw [geq_fin ha hb, h] at this
  exact this
theorem leq49 {x y : Operand} {a b : Nat} {g : Bool} (ha : Fnt a) (hb : Fnt b) (h : decide (a ≤ b) = g) (u : World) : (do eqGuard .leq 49 x y (.float .f64 a) (.float .f64 b); binOp .leq 49 (.float .f64 a) (.float .f64 b) : Sem Value).run Try.prog u = .ok (.bool g) u := by
  rw [Sem.run_bind]
  have : (binOp .leq 49 (.float .f64 a) (.float .f64 b)).run Try.prog u = .ok (.bool (Ieee.double.order a b == some .lt || Ieee.double.order a b == some .eq)) u := by rw [binOp_float_cmp_leq]; rfl
  rw [leq_fin ha hb, h] at this
  exact this
theorem gtr49 {x y : Operand} {a b : Nat} {g : Bool} (ha : Fnt a) (hb : Fnt b) (h : decide (b < a) = g) (u : World) : (do eqGuard .gtr 49 x y (.float .f64 a) (.float .f64 b); binOp .gtr 49 (.float .f64 a) (.float .f64 b) : Sem Value).run Try.prog u = .ok (.bool g) u := by
  rw [Sem.run_bind]
  have : (binOp .gtr 49 (.float .f64 a) (.float .f64 b)).run Try.prog u = .ok (.bool (Ieee.double.order a b == some .gt)) u := by rw [binOp_float_cmp_gtr]; rfl
  rw [gtr_fin ha hb, h] at this
  exact this
theorem nowS_mono {H ta a b : Int} {s : Nat} (h : a ≤ b) : nowS H s ta b ≤ nowS H s ta a := by
  rw [← (later_S (H := H) (ta := ta) (s := s) h).1]
  unfold nowS
  split
  · exact Nat.le_refl _
  · exact hfN_le _ _
set_option maxRecDepth 100000 in
set_option maxHeartbeats 6400000 in
theorem later_walk (w : World) (p : Int × Nat) (s : Nat) (ta at1 bt : Int) (hp : lkOk p) (hs : s < 18446744073709551616) (hta : -9223372036854775808 ≤ ta ∧ ta ≤ 9223372036854775807) (hat : -9223372036854775808 ≤ at1 ∧ at1 ≤ 9223372036854775807) (hbt : -9223372036854775808 ≤ bt ∧ bt ≤ 9223372036854775807) :
    Calls Try.prog 6 #[.agg #[.int .i64 p.1, .int .u64 (p.2 : Int), .int .u64 (s : Int), .int .i64 ta, .int .i64 at1, .int .i64 bt]] w fun e w' => e = .returned (.bool true) ∧ w.grownBy w' none := by
  obtain ⟨H, l⟩ := p
  show Calls Try.prog 6 #[.agg #[.int .i64 H, .int .u64 (l : Int), .int .u64 (s : Int), .int .i64 ta, .int .i64 at1, .int .i64 bt]] w _
  obtain ⟨j1, j2, j3⟩ := hp
  have HFn := hid (fun u => lfine_any H l s ta j3 hs u)
  have HFt : Hid (fnB H l s = true → ckB H l = true ∧ Fnt s) := hid (fun h => by unfold fnB at h; simp only [Bool.and_eq_true, decide_eq_true_eq] at h; exact h)
  have HAll : Hid (∀ a b : Int, a ≤ b → a ≤ 9223372036854775807 → b ≤ 9223372036854775807 → ckB H l = true → Fnt s → ∃ (S1 S2 SF SQ : Nat) (T1 T2 : Int), Fnt S2 ∧ Fnt SF ∧ (S2 ≤ 4831355200913801216 → S2 < SF) ∧ S2 ≤ S1 ∧ S2 ≤ SF ∧ SQ ≤ S2 ∧ Fnt S1 ∧ Fnt SQ ∧
      (∀ u, Calls Try.prog 14 #[.agg #[.int .i64 H, .int .u64 (l : Int)], .agg #[.int .u64 (s : Int), .int .i64 ta], .int .i64 a] u fun e w' => e = .returned (.agg #[.int .u64 (S1 : Int), .int .i64 T1]) ∧ u.grownBy w' none) ∧
      (∀ u, Calls Try.prog 14 #[.agg #[.int .i64 H, .int .u64 (l : Int)], .agg #[.int .u64 (S1 : Int), .int .i64 T1], .int .i64 b] u fun e w' => e = .returned (.agg #[.int .u64 (S2 : Int), .int .i64 T2]) ∧ u.grownBy w' none) ∧
      (∀ u, Calls Try.prog 14 #[.agg #[.int .i64 H, .int .u64 (l : Int)], .agg #[.int .u64 (s : Int), .int .i64 ta], .int .i64 b] u fun e w' => e = .returned (.agg #[.int .u64 (S2 : Int), .int .i64 T2]) ∧ u.grownBy w' none) ∧
      (∀ u, Calls Try.prog 16 #[.agg #[.int .i64 H, .int .u64 (l : Int)], .agg #[.int .u64 (s : Int), .int .i64 ta], .int .i64 b] u fun e w' => e = .returned (.agg #[.int .u64 (SF : Int), .int .i64 T2]) ∧ u.grownBy w' none) ∧
      (∀ u, Calls Try.prog 18 #[.agg #[.int .i64 H, .int .u64 (l : Int)], .agg #[.int .u64 (s : Int), .int .i64 ta], .int .i64 b] u fun e w' => e = .returned (.agg #[.int .u64 (SQ : Int), .int .i64 T2]) ∧ u.grownBy w' none) ∧
      (∀ u, Calls Try.prog 24 #[.agg #[.int .i64 H, .int .u64 (l : Int)], .agg #[.int .u64 (S1 : Int), .int .i64 T1]] u fun e w' => e = .returned (.bool true) ∧ u.grownBy w' none) ∧
      (∀ u, Calls Try.prog 24 #[.agg #[.int .i64 H, .int .u64 (l : Int)], .agg #[.int .u64 (S2 : Int), .int .i64 T2]] u fun e w' => e = .returned (.bool true) ∧ u.grownBy w' none) ∧
      (∀ u, Calls Try.prog 24 #[.agg #[.int .i64 H, .int .u64 (l : Int)], .agg #[.int .u64 (SF : Int), .int .i64 T2]] u fun e w' => e = .returned (.bool true) ∧ u.grownBy w' none) ∧
      (∀ u, Calls Try.prog 24 #[.agg #[.int .i64 H, .int .u64 (l : Int)], .agg #[.int .u64 (SQ : Int), .int .i64 T2]] u fun e w' => e = .returned (.bool true) ∧ u.grownBy w' none)) := hid (fun a b hab ha hb hc hf => by
    have hl := later_S (H := H) (ta := ta) (s := s) hab
    have h1 := nowS_fin (H := H) (ta := ta) (now := a) hf
    have h2 := nowS_fin (H := H) (ta := ta) (now := b) hf
    have hpl := pl_fin _ h2
    have hq := qt_le (nowS H s ta b)
    have hbd := nowA_bd (H := H) hta.1 hta.2 ha
    have hq2 : Fnt (qt (nowS H s ta b)) := by unfold Fnt at *; omega
    exact ⟨nowS H s ta a, nowS H s ta b, pl (nowS H s ta b), qt (nowS H s ta b), nowA H ta a, nowA H ta b, h2, hpl.1, hpl.2.2, nowS_mono hab, hpl.2.1, hq, h1, hq2,
      fun u => now_fin H l s ta a _ _ u j2 hta.1 hta.2 ha hf rfl rfl, fun u => now_fin H l _ _ b _ _ u j2 hbd.1 hbd.2.1 hb h1 hl.1 hl.2, fun u => now_fin H l s ta b _ _ u j2 hta.1 hta.2 hb hf rfl rfl,
      fun u => fail_fin H l s ta b _ _ u j2 hta.1 hta.2 hb hf rfl rfl, fun u => pass_fin H l s ta b _ _ u j2 hta.1 hta.2 hb hf rfl rfl,
      fun u => lfine_fin H l _ _ j3 hc h1 u, fun u => lfine_fin H l _ _ j3 hc h2 u, fun u => lfine_fin H l _ _ j3 hc hpl.1 u, fun u => lfine_fin H l _ _ j3 hc hq2 u⟩)
  have HAT := hid hat
  have HBT := hid hbt
  obtain ⟨g, hg⟩ : ∃ g, fnB H l s = g := ⟨_, rfl⟩
  rw [hg] at HFn HFt
  clear hg j1 j2 j3 hs hta hat hbt
  go_enter Try.func6, Try.ntmps6
  go_wp2_with (first
    | (have := HB1; clear this; (with_reducible refine wpList_load_part (by with_unfolding_all rfl) 37 _ (by with_unfolding_all rfl) _ 2 [.int .u64 (s : Int), .int .i64 ta] _ (by with_unfolding_all rfl) (HB1.out.range [.int .i64 H, .int .u64 (l : Int)] [.int .u64 (s : Int), .int .i64 ta] [.int .i64 at1, .int .i64 bt] 2 rfl rfl) Try.underlying37 (by with_unfolding_all rfl) (by with_unfolding_all exact Try.size37) ?_))
    | (have := HB1; clear this; (with_reducible refine wpList_load_part (by with_unfolding_all rfl) 28 _ (by with_unfolding_all rfl) _ 0 [.int .i64 H, .int .u64 (l : Int)] _ (by with_unfolding_all rfl) (HB1.out.range [] [.int .i64 H, .int .u64 (l : Int)] [.int .u64 (s : Int), .int .i64 ta, .int .i64 at1, .int .i64 bt] 0 rfl rfl) Try.underlying28 (by with_unfolding_all rfl) (by with_unfolding_all exact Try.size28) ?_))
    | ((with_reducible refine wpList_box_row (by with_unfolding_all rfl) 47 _ (by with_unfolding_all rfl) [.int .i64 H, .int .u64 (l : Int), .int .u64 (s : Int), .int .i64 ta, .int .i64 at1, .int .i64 bt] (by with_unfolding_all rfl) ?_); intro w1 B1 s1 g1; have HB1 := hid B1; have HG1 := hid g1; clear B1 s1 g1))
  refine (HFn.out _).mono ?_
  rintro e w2 ⟨rfl, hg⟩
  have HB2 := hid (HB1.out.keep hg)
  have HG2 := hid (gtrans HG1.out hg)
  clear hg HB1 HG1
  obtain ⟨p1, hp⟩ : ∃ x, w.heap.size = x := ⟨_, rfl⟩
  rw [hp] at HB2
  simp only [hp]
  clear hp
  cases g with
  | false =>
    go_wp2_with fail
    refine (wakes_any _).mono ?_
    rintro e w9 ⟨rfl, hg9⟩
    have HG9 := hid (gtrans HG2.out hg9)
    go_wp2_with fail
    go_ret
    exact ⟨rfl, HG9.out⟩
  | true =>
    have x4 := HB2.out.cell 4
    have x5 := HB2.out.cell 5
    by_cases hab : bt < at1
    · obtain ⟨S1, S2, SF, SQ, T1, T2, e1, e2, e3, e4, e5, e6, e7, e8, n1, n2, n3, n4, n5, n6, n7, n8, n9⟩ := HAll.out bt at1 (by omega) HBT.out.2 HAT.out.2 (HFt.out rfl).1 (HFt.out rfl).2
      have HN1 := hid n1
      have HN2 := hid n2
      have HN3 := hid n3
      have HFl := hid n4
      have HPs := hid n5
      have HF1 := hid n6
      have HF2 := hid n7
      have HF3 := hid n8
      have HF4 := hid n9
      have HS2 := hid e1
      have HSF := hid e2
      have HUp := hid e3
      have HL1 : Hid (∀ (x y : Operand) (u : World), (do eqGuard .leq 49 x y (.float .f64 S2) (.float .f64 S1); binOp .leq 49 (.float .f64 S2) (.float .f64 S1) : Sem Value).run Try.prog u = .ok (.bool true) u) := hid (fun x y u => leq49 e1 e7 (decide_eq_true e4) u)
      have HL2 : Hid (∀ (x y : Operand) (u : World), (do eqGuard .geq 49 x y (.float .f64 SF) (.float .f64 S2); binOp .geq 49 (.float .f64 SF) (.float .f64 S2) : Sem Value).run Try.prog u = .ok (.bool true) u) := hid (fun x y u => geq49 e2 e1 (decide_eq_true e5) u)
      have HL3 : Hid (∀ (x y : Operand) (u : World), (do eqGuard .leq 49 x y (.float .f64 SQ) (.float .f64 S2); binOp .leq 49 (.float .f64 SQ) (.float .f64 S2) : Sem Value).run Try.prog u = .ok (.bool true) u) := hid (fun x y u => leq49 e8 e1 (decide_eq_true e6) u)
      clear e1 e2 e3 e4 e5 e6 e7 e8 n1 n2 n3 n4 n5 n6 n7 n8 n9 HAll HFn HFt
      go_wp2_with (first
        | (have := HB2; clear this; (with_reducible refine wpList_load_part (by with_unfolding_all rfl) 28 _ (by with_unfolding_all rfl) _ 0 [.int .i64 H, .int .u64 (l : Int)] _ (by with_unfolding_all rfl) (HB2.out.range [] [.int .i64 H, .int .u64 (l : Int)] [.int .u64 (s : Int), .int .i64 ta, .int .i64 at1, .int .i64 bt] 0 rfl rfl) Try.underlying28 (by with_unfolding_all rfl) (by with_unfolding_all exact Try.size28) ?_))
        | (have := HB2; clear this; (with_reducible refine wpList_load_part (by with_unfolding_all rfl) 37 _ (by with_unfolding_all rfl) _ 2 [.int .u64 (s : Int), .int .i64 ta] _ (by with_unfolding_all rfl) (HB2.out.range [.int .i64 H, .int .u64 (l : Int)] [.int .u64 (s : Int), .int .i64 ta] [.int .i64 at1, .int .i64 bt] 2 rfl rfl) Try.underlying37 (by with_unfolding_all rfl) (by with_unfolding_all exact Try.size37) ?_)))
      clear x4 x5
      refine (HN1.out _).mono ?_
      rintro e w3 ⟨rfl, hg⟩
      have HB3 := hid (HB2.out.keep hg)
      have HG3 := hid (gtrans HG2.out hg)
      clear hg HB2 HG2
      go_upto_region 8 with (first
        | (have := HG4; clear this; (with_reducible refine wpList_store_all (by with_unfolding_all rfl) 37 _ _ (by with_unfolding_all rfl) _ [.int .u64 0, .int .i64 0] [.int .u64 (S1 : Int), .int .i64 T1] 37 (by with_unfolding_all rfl) (by with_unfolding_all rfl) HX4.out (by with_unfolding_all rfl) (by with_unfolding_all exact Try.size37) (one2 _ _ _ _) ?_); intro w5 B5 g5 s5; have HX5 := hid B5; have HB5 := hid (HB4.out.on g5 (by have := HB3.out.lt; simp; omega)); have HG5 := hid (HG4.out.andThen g5 (fun j hj => .inl (by injection hj with hj; have := HG3.out.size; omega))); clear B5 g5 s5)
        | ((with_reducible refine wpList_alloc_row (by with_unfolding_all rfl) 37 (by with_unfolding_all rfl) [.int .u64 0, .int .i64 0] Try.zero37 ?_); intro w4 B4 s4 g4; have HX4 := hid B4; have HB4 := hid (HB3.out.keep g4); have HG4 := hid (gtrans HG3.out g4); clear B4 s4 g4))
      obtain ⟨p5, hp⟩ : ∃ x, w3.heap.size = x := ⟨_, rfl⟩
      rw [hp] at HX5
      simp only [hp]
      clear hp HB4 HB3 HX4 HG4 HG3 
      go_wp2_with (first
        | (have := HB5; clear this; (with_reducible refine wpList_load_part (by with_unfolding_all rfl) 28 _ (by with_unfolding_all rfl) _ 0 [.int .i64 H, .int .u64 (l : Int)] _ (by with_unfolding_all rfl) (HB5.out.range [] [.int .i64 H, .int .u64 (l : Int)] [.int .u64 (s : Int), .int .i64 ta, .int .i64 at1, .int .i64 bt] 0 rfl rfl) Try.underlying28 (by with_unfolding_all rfl) (by with_unfolding_all exact Try.size28) ?_))
        | (have := HX5; clear this; (with_reducible refine wpList_load_part (by with_unfolding_all rfl) 37 _ (by with_unfolding_all rfl) _ 0 [.int .u64 (S1 : Int), .int .i64 T1] _ (by with_unfolding_all rfl) HX5.out.whole Try.underlying37 (by with_unfolding_all rfl) (by with_unfolding_all exact Try.size37) ?_)))
      refine (HN2.out _).mono ?_
      rintro e w6 ⟨rfl, hg⟩
      have HB6 := hid (HB5.out.keep hg)
      have HX6 := hid (HX5.out.keep hg)
      have HG6 := hid (gtrans HG5.out hg)
      clear hg HB5 HX5 HG5
      go_upto_region 9 with (first
        | (have := HG7; clear this; (with_reducible refine wpList_store_all (by with_unfolding_all rfl) 37 _ _ (by with_unfolding_all rfl) _ [.int .u64 0, .int .i64 0] [.int .u64 (S2 : Int), .int .i64 T2] 37 (by with_unfolding_all rfl) (by with_unfolding_all rfl) HY7.out (by with_unfolding_all rfl) (by with_unfolding_all exact Try.size37) (one2 _ _ _ _) ?_); intro w8 B8 g8 s8; have HY8 := hid B8; have HB8 := hid (HB7.out.on g8 (by have := HB6.out.lt; simp; omega)); have HX8 := hid (HX7.out.on g8 (by have := HX6.out.lt; simp; omega)); have HG8 := hid (HG7.out.andThen g8 (fun j hj => .inl (by injection hj with hj; have := HG6.out.size; omega))); clear B8 g8 s8)
        | ((with_reducible refine wpList_alloc_row (by with_unfolding_all rfl) 37 (by with_unfolding_all rfl) [.int .u64 0, .int .i64 0] Try.zero37 ?_); intro w7 B7 s7 g7; have HY7 := hid B7; have HB7 := hid (HB6.out.keep g7); have HX7 := hid (HX6.out.keep g7); have HG7 := hid (gtrans HG6.out g7); clear B7 s7 g7))
      obtain ⟨p6, hp⟩ : ∃ x, w6.heap.size = x := ⟨_, rfl⟩
      rw [hp] at HY8
      simp only [hp]
      clear hp HB7 HB6 HX7 HX6 HY7 HG7 HG6 
      go_wp2_with fail
      refine wp_region_list (by kernel_rfl) [fun v _ => v = (Value.agg [Value.int .u64 (S2 : Int), Value.int .i64 T2].toArray), fun v _ => v = (Value.pointer (some ⟨p1, 0, none⟩)), fun v _ => v = (Value.agg [Value.int .i64 H, Value.int .u64 (l : Int)].toArray), fun v _ => v = (Value.pointer (some ⟨p1, 2, none⟩)), fun v _ => v = (Value.agg [Value.int .u64 (s : Int), Value.int .i64 ta].toArray), fun v _ => v = (Value.int .i64 at1), fun v _ => v = (Value.agg [Value.int .u64 (S2 : Int), Value.int .i64 T2].toArray), fun v _ => v = (Value.bool false), fun v _ => v = (Value.bool false), fun v _ => v = (Value.pointer (some ⟨p1, 0, none⟩)), fun v _ => v = (Value.agg [Value.int .i64 H, Value.int .u64 (l : Int)].toArray), fun v _ => v = (Value.agg [Value.int .u64 (S1 : Int), Value.int .i64 T1].toArray), fun v _ => v = (Value.bool true), fun v _ => v = (Value.bool false), fun v _ => v = (Value.bool false), fun v _ => v = (Value.bool false), fun v _ => v = (Value.pointer (some ⟨p1, 0, none⟩)), fun v _ => v = (Value.agg [Value.int .i64 H, Value.int .u64 (l : Int)].toArray), fun v _ => v = (Value.agg [Value.int .u64 (S2 : Int), Value.int .i64 T2].toArray), fun v _ => v = (Value.bool true), fun v _ => v = (Value.bool false), fun v _ => v = (Value.bool false)] (none) (fun _ => none) 22 (by kernel_rfl) (by kernel_rfl) (by kernel_rfl) (by kernel_rfl) (by decide) noRow_one (fun _ => .inl rfl) ⟨fun i v u u' hki h hg => h, fun i v u u' hki h hg => h, fun i v u u' hki h hg => h, fun i v u u' hki h hg => h, fun i v u u' hki h hg => h, fun i v u u' hki h hg => h, fun i v u u' hki h hg => h, fun i v u u' hki h hg => h, fun i v u u' hki h hg => h, fun i v u u' hki h hg => h, fun i v u u' hki h hg => h, fun i v u u' hki h hg => h, fun i v u u' hki h hg => h, fun i v u u' hki h hg => h, fun i v u u' hki h hg => h, fun i v u u' hki h hg => h, fun i v u u' hki h hg => h, fun i v u u' hki h hg => h, fun i v u u' hki h hg => h, fun i v u u' hki h hg => h, fun i v u u' hki h hg => h, fun i v u u' hki h hg => h, trivial⟩ ⟨?_, ?_, ?_, ?_, ?_, ?_, ?_, ?_, ?_, ?_, ?_, ?_, ?_, ?_, ?_, ?_, ?_, ?_, ?_, ?_, ?_, ?_, trivial⟩ ?_
      · intro A u hu hpu hsz hout hdeps
        have e6 : A.eval (.tmp 6) = (.pointer (some ⟨p6, 0, none⟩)) := (hout 6 (by kernel_rfl)).trans rfl
        refine ifw_none rfl ?_
        with_reducible refine shown_q (Value.agg [Value.int .u64 (S2 : Int), Value.int .i64 T2].toArray) ?qq_1_0 (fun _ _ => ?qr_1_0)
        case qr_1_0 => exact (rfl : (Value.agg [Value.int .u64 (S2 : Int), Value.int .i64 T2].toArray) = (Value.agg [Value.int .u64 (S2 : Int), Value.int .i64 T2].toArray))
        with_reducible refine quietAt_load 37 (.tmp 6) ?h0_1_0 p6 0 [Value.int .u64 (S2 : Int), Value.int .i64 T2] (.struct (Try.prog.fieldsOf 37)) ?h1_1_0 ?h2_1_0 ?h3_1_0 ?h4_1_0 ?h5_1_0
        case h0_1_0 => rfl
        case h1_1_0 => exact e6
        case h2_1_0 => exact (HY8.out.keep hu).whole
        case h3_1_0 => exact Try.underlying37
        case h4_1_0 => rfl
        case h5_1_0 => exact Try.size37
      · intro A u hu hpu hsz hout hdeps
        have e1 : A.eval (.tmp 1) = (.pointer (some ⟨p1, 0, none⟩)) := (hout 1 (by kernel_rfl)).trans rfl
        refine ifw_none rfl ?_
        with_reducible refine shown_q (Value.pointer (some ⟨p1, 0, none⟩)) ?qq_1_1 (fun _ _ => ?qr_1_1)
        case qr_1_1 => exact (rfl : (Value.pointer (some ⟨p1, 0, none⟩)) = (Value.pointer (some ⟨p1, 0, none⟩)))
        with_reducible refine quietAt_field 47 (.tmp 1) 0 ?h0_1_1 ⟨p1, 0, none⟩ ⟨p1, 0, none⟩ ?h1_1_1 ?h2_1_1
        case h0_1_1 => rfl
        case h1_1_1 => exact e1
        case h2_1_1 => kernel_rfl
      · intro A u hu hpu hsz hout hdeps
        have e40 : A.eval (.tmp 40) = (.pointer (some ⟨p1, 0, none⟩)) := by have h := depL hdeps 1 (by kernel_rfl) 40 (by kernel_rfl); exact h
        refine ifw_none rfl ?_
        with_reducible refine shown_q (Value.agg [Value.int .i64 H, Value.int .u64 (l : Int)].toArray) ?qq_1_2 (fun _ _ => ?qr_1_2)
        case qr_1_2 => exact (rfl : (Value.agg [Value.int .i64 H, Value.int .u64 (l : Int)].toArray) = (Value.agg [Value.int .i64 H, Value.int .u64 (l : Int)].toArray))
        with_reducible refine quietAt_load 28 (.tmp 40) ?h0_1_2 p1 0 [Value.int .i64 H, Value.int .u64 (l : Int)] (.struct (Try.prog.fieldsOf 28)) ?h1_1_2 ?h2_1_2 ?h3_1_2 ?h4_1_2 ?h5_1_2
        case h0_1_2 => rfl
        case h1_1_2 => exact e40
        case h2_1_2 => exact ((HB8.out.keep hu).range [] [.int .i64 H, .int .u64 (l : Int)] [.int .u64 (s : Int), .int .i64 ta, .int .i64 at1, .int .i64 bt] 0 rfl rfl)
        case h3_1_2 => exact Try.underlying28
        case h4_1_2 => rfl
        case h5_1_2 => exact Try.size28
      · intro A u hu hpu hsz hout hdeps
        have e1 : A.eval (.tmp 1) = (.pointer (some ⟨p1, 0, none⟩)) := (hout 1 (by kernel_rfl)).trans rfl
        refine ifw_none rfl ?_
        with_reducible refine shown_q (Value.pointer (some ⟨p1, 2, none⟩)) ?qq_1_3 (fun _ _ => ?qr_1_3)
        case qr_1_3 => exact (rfl : (Value.pointer (some ⟨p1, 2, none⟩)) = (Value.pointer (some ⟨p1, 2, none⟩)))
        with_reducible refine quietAt_field 47 (.tmp 1) 1 ?h0_1_3 ⟨p1, 0, none⟩ ⟨p1, 2, none⟩ ?h1_1_3 ?h2_1_3
        case h0_1_3 => rfl
        case h1_1_3 => exact e1
        case h2_1_3 => kernel_rfl
      · intro A u hu hpu hsz hout hdeps
        have e42 : A.eval (.tmp 42) = (.pointer (some ⟨p1, 2, none⟩)) := by have h := depL hdeps 3 (by kernel_rfl) 42 (by kernel_rfl); exact h
        refine ifw_none rfl ?_
        with_reducible refine shown_q (Value.agg [Value.int .u64 (s : Int), Value.int .i64 ta].toArray) ?qq_1_4 (fun _ _ => ?qr_1_4)
        case qr_1_4 => exact (rfl : (Value.agg [Value.int .u64 (s : Int), Value.int .i64 ta].toArray) = (Value.agg [Value.int .u64 (s : Int), Value.int .i64 ta].toArray))
        with_reducible refine quietAt_load 37 (.tmp 42) ?h0_1_4 p1 2 [Value.int .u64 (s : Int), Value.int .i64 ta] (.struct (Try.prog.fieldsOf 37)) ?h1_1_4 ?h2_1_4 ?h3_1_4 ?h4_1_4 ?h5_1_4
        case h0_1_4 => rfl
        case h1_1_4 => exact e42
        case h2_1_4 => exact ((HB8.out.keep hu).range [.int .i64 H, .int .u64 (l : Int)] [.int .u64 (s : Int), .int .i64 ta] [.int .i64 at1, .int .i64 bt] 2 rfl rfl)
        case h3_1_4 => exact Try.underlying37
        case h4_1_4 => rfl
        case h5_1_4 => exact Try.size37
      · intro A u hu hpu hsz hout hdeps
        have e4 : A.eval (.tmp 4) = (.int .i64 at1) := (hout 4 (by kernel_rfl)).trans rfl
        refine ifw_none rfl ?_
        with_reducible refine shown_q (Value.int .i64 at1) ?qq_1_5 (fun _ _ => ?qr_1_5)
        case qr_1_5 => exact (rfl : (Value.int .i64 at1) = (Value.int .i64 at1))
        with_reducible refine quietAt_mv (.tmp 4) (Value.int .i64 at1) ?h0_1_5 ?h1_1_5
        case h0_1_5 => rfl
        case h1_1_5 => exact e4
      · intro A u hu hpu hsz hout hdeps
        have e41 : A.eval (.tmp 41) = (.agg [.int .i64 H, .int .u64 (l : Int)].toArray) := by have h := depL hdeps 2 (by kernel_rfl) 41 (by kernel_rfl); exact h
        have e43 : A.eval (.tmp 43) = (.agg [.int .u64 (s : Int), .int .i64 ta].toArray) := by have h := depL hdeps 4 (by kernel_rfl) 43 (by kernel_rfl); exact h
        have e44 : A.eval (.tmp 44) = (.int .i64 at1) := by have h := depL hdeps 5 (by kernel_rfl) 44 (by kernel_rfl); exact h
        refine ifw_none rfl ?_
        with_reducible refine shown_q (Value.agg [Value.int .u64 (S2 : Int), Value.int .i64 T2].toArray) ?qq_1_6 (fun _ _ => ?qr_1_6)
        case qr_1_6 => exact (rfl : (Value.agg [Value.int .u64 (S2 : Int), Value.int .i64 T2].toArray) = (Value.agg [Value.int .u64 (S2 : Int), Value.int .i64 T2].toArray))
        with_reducible refine quietAt_call 14 Try.f14 ?h0_1_6 ?h1_1_6 ?h2_1_6 #[.tmp 41, .tmp 43, .tmp 44] #[28, 37, 2] ?h3_1_6 (Value.agg [Value.int .u64 (S2 : Int), Value.int .i64 T2].toArray) #[(Value.agg [Value.int .i64 H, Value.int .u64 (l : Int)].toArray), (Value.agg [Value.int .u64 (s : Int), Value.int .i64 ta].toArray), (Value.int .i64 at1)] ?h4_1_6 ?h5_1_6
        case h0_1_6 => exact Try.func14
        case h1_1_6 => kernel_rfl
        case h2_1_6 => kernel_rfl
        case h3_1_6 => rfl
        case h4_1_6 => exact map3 _ _ _ _ _ _ _ e41 e43 e44
        case h5_1_6 => exact HN3.out u
      · intro A u hu hpu hsz hout hdeps
        have e39 : A.eval (.tmp 39) = (.agg [.int .u64 (S2 : Int), .int .i64 T2].toArray) := by have h := depL hdeps 0 (by kernel_rfl) 39 (by kernel_rfl); exact h
        have e45 : A.eval (.tmp 45) = (.agg [.int .u64 (S2 : Int), .int .i64 T2].toArray) := by have h := depL hdeps 6 (by kernel_rfl) 45 (by kernel_rfl); exact h
        refine ifw_none rfl ?_
        with_reducible refine shown_q (Value.bool false) ?qq_1_7 (fun _ _ => ?qr_1_7)
        case qr_1_7 => exact (rfl : (Value.bool false) = (Value.bool false))
        with_reducible refine quietAt_bin .neq 37 (.tmp 39) (.tmp 45) 37 (Value.agg [Value.int .u64 (S2 : Int), Value.int .i64 T2].toArray) (Value.agg [Value.int .u64 (S2 : Int), Value.int .i64 T2].toArray) (Value.bool false) ?h0_1_7 ?h1_1_7 ?h2_1_7 ?h3_1_7
        case h0_1_7 => rfl
        case h1_1_7 => exact e39
        case h2_1_7 => exact e45
        case h3_1_7 => exact (by rw [neq37]; simp)
      · intro A u hu hpu hsz hout hdeps
        have e46 : A.eval (.tmp 46) = (.bool false) := by have h := depL hdeps 7 (by kernel_rfl) 46 (by kernel_rfl); exact h
        refine ifw_none rfl ?_
        with_reducible refine shown_q (Value.bool false) ?qq_1_8 (fun _ _ => ?qr_1_8)
        case qr_1_8 => exact (rfl : (Value.bool false) = (Value.bool false))
        with_reducible refine quietAt_mv (.tmp 46) (Value.bool false) ?h0_1_8 ?h1_1_8
        case h0_1_8 => rfl
        case h1_1_8 => exact e46
      · intro A u hu hpu hsz hout hdeps
        have e47 : A.eval (.tmp 47) = (.bool false) := by have h := depL hdeps 8 (by kernel_rfl) 47 (by kernel_rfl); exact h
        have e1 : A.eval (.tmp 1) = (.pointer (some ⟨p1, 0, none⟩)) := (hout 1 (by kernel_rfl)).trans rfl
        refine ifw_want 8 false 47 rfl rfl e47 ?_
        with_reducible refine shown_q (Value.pointer (some ⟨p1, 0, none⟩)) ?qq_1_9 (fun _ _ => ?qr_1_9)
        case qr_1_9 => exact (rfl : (Value.pointer (some ⟨p1, 0, none⟩)) = (Value.pointer (some ⟨p1, 0, none⟩)))
        with_reducible refine quietAt_field 47 (.tmp 1) 0 ?h0_1_9 ⟨p1, 0, none⟩ ⟨p1, 0, none⟩ ?h1_1_9 ?h2_1_9
        case h0_1_9 => rfl
        case h1_1_9 => exact e1
        case h2_1_9 => kernel_rfl
      · intro A u hu hpu hsz hout hdeps
        have e47 : A.eval (.tmp 47) = (.bool false) := by have h := depL hdeps 8 (by kernel_rfl) 47 (by kernel_rfl); exact h
        have e48 : A.eval (.tmp 48) = (.pointer (some ⟨p1, 0, none⟩)) := by have h := depL hdeps 9 (by kernel_rfl) 48 (by kernel_rfl); exact h
        refine ifw_want 8 false 47 rfl rfl e47 ?_
        with_reducible refine shown_q (Value.agg [Value.int .i64 H, Value.int .u64 (l : Int)].toArray) ?qq_1_10 (fun _ _ => ?qr_1_10)
        case qr_1_10 => exact (rfl : (Value.agg [Value.int .i64 H, Value.int .u64 (l : Int)].toArray) = (Value.agg [Value.int .i64 H, Value.int .u64 (l : Int)].toArray))
        with_reducible refine quietAt_load 28 (.tmp 48) ?h0_1_10 p1 0 [Value.int .i64 H, Value.int .u64 (l : Int)] (.struct (Try.prog.fieldsOf 28)) ?h1_1_10 ?h2_1_10 ?h3_1_10 ?h4_1_10 ?h5_1_10
        case h0_1_10 => rfl
        case h1_1_10 => exact e48
        case h2_1_10 => exact ((HB8.out.keep hu).range [] [.int .i64 H, .int .u64 (l : Int)] [.int .u64 (s : Int), .int .i64 ta, .int .i64 at1, .int .i64 bt] 0 rfl rfl)
        case h3_1_10 => exact Try.underlying28
        case h4_1_10 => rfl
        case h5_1_10 => exact Try.size28
      · intro A u hu hpu hsz hout hdeps
        have e47 : A.eval (.tmp 47) = (.bool false) := by have h := depL hdeps 8 (by kernel_rfl) 47 (by kernel_rfl); exact h
        have e5 : A.eval (.tmp 5) = (.pointer (some ⟨p5, 0, none⟩)) := (hout 5 (by kernel_rfl)).trans rfl
        refine ifw_want 8 false 47 rfl rfl e47 ?_
        with_reducible refine shown_q (Value.agg [Value.int .u64 (S1 : Int), Value.int .i64 T1].toArray) ?qq_1_11 (fun _ _ => ?qr_1_11)
        case qr_1_11 => exact (rfl : (Value.agg [Value.int .u64 (S1 : Int), Value.int .i64 T1].toArray) = (Value.agg [Value.int .u64 (S1 : Int), Value.int .i64 T1].toArray))
        with_reducible refine quietAt_load 37 (.tmp 5) ?h0_1_11 p5 0 [Value.int .u64 (S1 : Int), Value.int .i64 T1] (.struct (Try.prog.fieldsOf 37)) ?h1_1_11 ?h2_1_11 ?h3_1_11 ?h4_1_11 ?h5_1_11
        case h0_1_11 => rfl
        case h1_1_11 => exact e5
        case h2_1_11 => exact (HX8.out.keep hu).whole
        case h3_1_11 => exact Try.underlying37
        case h4_1_11 => rfl
        case h5_1_11 => exact Try.size37
      · intro A u hu hpu hsz hout hdeps
        have e47 : A.eval (.tmp 47) = (.bool false) := by have h := depL hdeps 8 (by kernel_rfl) 47 (by kernel_rfl); exact h
        have e49 : A.eval (.tmp 49) = (.agg [.int .i64 H, .int .u64 (l : Int)].toArray) := by have h := depL hdeps 10 (by kernel_rfl) 49 (by kernel_rfl); exact h
        have e50 : A.eval (.tmp 50) = (.agg [.int .u64 (S1 : Int), .int .i64 T1].toArray) := by have h := depL hdeps 11 (by kernel_rfl) 50 (by kernel_rfl); exact h
        refine ifw_want 8 false 47 rfl rfl e47 ?_
        with_reducible refine shown_q (Value.bool true) ?qq_1_12 (fun _ _ => ?qr_1_12)
        case qr_1_12 => exact (rfl : (Value.bool true) = (Value.bool true))
        with_reducible refine quietAt_call 24 Try.f24 ?h0_1_12 ?h1_1_12 ?h2_1_12 #[.tmp 49, .tmp 50] #[28, 37] ?h3_1_12 (Value.bool true) #[(Value.agg [Value.int .i64 H, Value.int .u64 (l : Int)].toArray), (Value.agg [Value.int .u64 (S1 : Int), Value.int .i64 T1].toArray)] ?h4_1_12 ?h5_1_12
        case h0_1_12 => exact Try.func24
        case h1_1_12 => kernel_rfl
        case h2_1_12 => kernel_rfl
        case h3_1_12 => rfl
        case h4_1_12 => exact map2 _ _ _ _ _ e49 e50
        case h5_1_12 => exact HF1.out u
      · intro A u hu hpu hsz hout hdeps
        have e47 : A.eval (.tmp 47) = (.bool false) := by have h := depL hdeps 8 (by kernel_rfl) 47 (by kernel_rfl); exact h
        have e51 : A.eval (.tmp 51) = (.bool true) := by have h := depL hdeps 12 (by kernel_rfl) 51 (by kernel_rfl); exact h
        refine ifw_want 8 false 47 rfl rfl e47 ?_
        with_reducible refine shown_q (Value.bool false) ?qq_1_13 (fun _ _ => ?qr_1_13)
        case qr_1_13 => exact (rfl : (Value.bool false) = (Value.bool false))
        with_reducible refine quietAt_un .not 4 (.tmp 51) (Value.bool true) (Value.bool false) ?h0_1_13 ?h1_1_13 ?h2_1_13
        case h0_1_13 => rfl
        case h1_1_13 => exact e51
        case h2_1_13 => rfl
      · intro A u hu hpu hsz hout hdeps
        have e47 : A.eval (.tmp 47) = (.bool false) := by have h := depL hdeps 8 (by kernel_rfl) 47 (by kernel_rfl); exact h
        have e52 : A.eval (.tmp 52) = (.bool false) := by have h := depL hdeps 13 (by kernel_rfl) 52 (by kernel_rfl); exact h
        refine ifw_none rfl ?_
        with_reducible refine shown_q (Value.bool false) ?qq_1_14 (fun _ _ => ?qr_1_14)
        case qr_1_14 => exact (rfl : (Value.bool false) = (Value.bool false))
        with_reducible refine quietAt_pick (.tmp 47) (.const (.bool true)) (.tmp 52) false (Value.bool false) ?h0_1_14 ?h1_1_14 ?h2_1_14
        case h0_1_14 => rfl
        case h1_1_14 => exact e47
        case h2_1_14 => rw [if_neg (by decide)]; exact e52
      · intro A u hu hpu hsz hout hdeps
        have e53 : A.eval (.tmp 53) = (.bool false) := by have h := depL hdeps 14 (by kernel_rfl) 53 (by kernel_rfl); exact h
        refine ifw_none rfl ?_
        with_reducible refine shown_q (Value.bool false) ?qq_1_15 (fun _ _ => ?qr_1_15)
        case qr_1_15 => exact (rfl : (Value.bool false) = (Value.bool false))
        with_reducible refine quietAt_mv (.tmp 53) (Value.bool false) ?h0_1_15 ?h1_1_15
        case h0_1_15 => rfl
        case h1_1_15 => exact e53
      · intro A u hu hpu hsz hout hdeps
        have e54 : A.eval (.tmp 54) = (.bool false) := by have h := depL hdeps 15 (by kernel_rfl) 54 (by kernel_rfl); exact h
        have e1 : A.eval (.tmp 1) = (.pointer (some ⟨p1, 0, none⟩)) := (hout 1 (by kernel_rfl)).trans rfl
        refine ifw_want 15 false 54 rfl rfl e54 ?_
        with_reducible refine shown_q (Value.pointer (some ⟨p1, 0, none⟩)) ?qq_1_16 (fun _ _ => ?qr_1_16)
        case qr_1_16 => exact (rfl : (Value.pointer (some ⟨p1, 0, none⟩)) = (Value.pointer (some ⟨p1, 0, none⟩)))
        with_reducible refine quietAt_field 47 (.tmp 1) 0 ?h0_1_16 ⟨p1, 0, none⟩ ⟨p1, 0, none⟩ ?h1_1_16 ?h2_1_16
        case h0_1_16 => rfl
        case h1_1_16 => exact e1
        case h2_1_16 => kernel_rfl
      · intro A u hu hpu hsz hout hdeps
        have e54 : A.eval (.tmp 54) = (.bool false) := by have h := depL hdeps 15 (by kernel_rfl) 54 (by kernel_rfl); exact h
        have e55 : A.eval (.tmp 55) = (.pointer (some ⟨p1, 0, none⟩)) := by have h := depL hdeps 16 (by kernel_rfl) 55 (by kernel_rfl); exact h
        refine ifw_want 15 false 54 rfl rfl e54 ?_
        with_reducible refine shown_q (Value.agg [Value.int .i64 H, Value.int .u64 (l : Int)].toArray) ?qq_1_17 (fun _ _ => ?qr_1_17)
        case qr_1_17 => exact (rfl : (Value.agg [Value.int .i64 H, Value.int .u64 (l : Int)].toArray) = (Value.agg [Value.int .i64 H, Value.int .u64 (l : Int)].toArray))
        with_reducible refine quietAt_load 28 (.tmp 55) ?h0_1_17 p1 0 [Value.int .i64 H, Value.int .u64 (l : Int)] (.struct (Try.prog.fieldsOf 28)) ?h1_1_17 ?h2_1_17 ?h3_1_17 ?h4_1_17 ?h5_1_17
        case h0_1_17 => rfl
        case h1_1_17 => exact e55
        case h2_1_17 => exact ((HB8.out.keep hu).range [] [.int .i64 H, .int .u64 (l : Int)] [.int .u64 (s : Int), .int .i64 ta, .int .i64 at1, .int .i64 bt] 0 rfl rfl)
        case h3_1_17 => exact Try.underlying28
        case h4_1_17 => rfl
        case h5_1_17 => exact Try.size28
      · intro A u hu hpu hsz hout hdeps
        have e54 : A.eval (.tmp 54) = (.bool false) := by have h := depL hdeps 15 (by kernel_rfl) 54 (by kernel_rfl); exact h
        have e6 : A.eval (.tmp 6) = (.pointer (some ⟨p6, 0, none⟩)) := (hout 6 (by kernel_rfl)).trans rfl
        refine ifw_want 15 false 54 rfl rfl e54 ?_
        with_reducible refine shown_q (Value.agg [Value.int .u64 (S2 : Int), Value.int .i64 T2].toArray) ?qq_1_18 (fun _ _ => ?qr_1_18)
        case qr_1_18 => exact (rfl : (Value.agg [Value.int .u64 (S2 : Int), Value.int .i64 T2].toArray) = (Value.agg [Value.int .u64 (S2 : Int), Value.int .i64 T2].toArray))
        with_reducible refine quietAt_load 37 (.tmp 6) ?h0_1_18 p6 0 [Value.int .u64 (S2 : Int), Value.int .i64 T2] (.struct (Try.prog.fieldsOf 37)) ?h1_1_18 ?h2_1_18 ?h3_1_18 ?h4_1_18 ?h5_1_18
        case h0_1_18 => rfl
        case h1_1_18 => exact e6
        case h2_1_18 => exact (HY8.out.keep hu).whole
        case h3_1_18 => exact Try.underlying37
        case h4_1_18 => rfl
        case h5_1_18 => exact Try.size37
      · intro A u hu hpu hsz hout hdeps
        have e54 : A.eval (.tmp 54) = (.bool false) := by have h := depL hdeps 15 (by kernel_rfl) 54 (by kernel_rfl); exact h
        have e56 : A.eval (.tmp 56) = (.agg [.int .i64 H, .int .u64 (l : Int)].toArray) := by have h := depL hdeps 17 (by kernel_rfl) 56 (by kernel_rfl); exact h
        have e57 : A.eval (.tmp 57) = (.agg [.int .u64 (S2 : Int), .int .i64 T2].toArray) := by have h := depL hdeps 18 (by kernel_rfl) 57 (by kernel_rfl); exact h
        refine ifw_want 15 false 54 rfl rfl e54 ?_
        with_reducible refine shown_q (Value.bool true) ?qq_1_19 (fun _ _ => ?qr_1_19)
        case qr_1_19 => exact (rfl : (Value.bool true) = (Value.bool true))
        with_reducible refine quietAt_call 24 Try.f24 ?h0_1_19 ?h1_1_19 ?h2_1_19 #[.tmp 56, .tmp 57] #[28, 37] ?h3_1_19 (Value.bool true) #[(Value.agg [Value.int .i64 H, Value.int .u64 (l : Int)].toArray), (Value.agg [Value.int .u64 (S2 : Int), Value.int .i64 T2].toArray)] ?h4_1_19 ?h5_1_19
        case h0_1_19 => exact Try.func24
        case h1_1_19 => kernel_rfl
        case h2_1_19 => kernel_rfl
        case h3_1_19 => rfl
        case h4_1_19 => exact map2 _ _ _ _ _ e56 e57
        case h5_1_19 => exact HF2.out u
      · intro A u hu hpu hsz hout hdeps
        have e54 : A.eval (.tmp 54) = (.bool false) := by have h := depL hdeps 15 (by kernel_rfl) 54 (by kernel_rfl); exact h
        have e58 : A.eval (.tmp 58) = (.bool true) := by have h := depL hdeps 19 (by kernel_rfl) 58 (by kernel_rfl); exact h
        refine ifw_want 15 false 54 rfl rfl e54 ?_
        with_reducible refine shown_q (Value.bool false) ?qq_1_20 (fun _ _ => ?qr_1_20)
        case qr_1_20 => exact (rfl : (Value.bool false) = (Value.bool false))
        with_reducible refine quietAt_un .not 4 (.tmp 58) (Value.bool true) (Value.bool false) ?h0_1_20 ?h1_1_20 ?h2_1_20
        case h0_1_20 => rfl
        case h1_1_20 => exact e58
        case h2_1_20 => rfl
      · intro A u hu hpu hsz hout hdeps
        have e54 : A.eval (.tmp 54) = (.bool false) := by have h := depL hdeps 15 (by kernel_rfl) 54 (by kernel_rfl); exact h
        have e59 : A.eval (.tmp 59) = (.bool false) := by have h := depL hdeps 20 (by kernel_rfl) 59 (by kernel_rfl); exact h
        refine ifw_none rfl ?_
        with_reducible refine shown_q (Value.bool false) ?qq_1_21 (fun _ _ => ?qr_1_21)
        case qr_1_21 => exact (rfl : (Value.bool false) = (Value.bool false))
        with_reducible refine quietAt_pick (.tmp 54) (.const (.bool true)) (.tmp 59) false (Value.bool false) ?h0_1_21 ?h1_1_21 ?h2_1_21
        case h0_1_21 => rfl
        case h1_1_21 => exact e54
        case h2_1_21 => rw [if_neg (by decide)]; exact e59
      · intro A w9 listed hh hall
        have hA := hh.frame
        have HU := hid hh.grown
        obtain ⟨x39, hx39⟩ : ∃ x, A.eval (.tmp 39) = x := ⟨_, rfl⟩
        have f39 : (fun v _ => v = (Value.agg [Value.int .u64 (S2 : Int), Value.int .i64 T2].toArray)) x39 w9 := by rw [← hx39]; exact hh.got 0 _ 39 rfl rfl (hall 0 (by decide))
        obtain ⟨x40, hx40⟩ : ∃ x, A.eval (.tmp 40) = x := ⟨_, rfl⟩
        have f40 : (fun v _ => v = (Value.pointer (some ⟨p1, 0, none⟩))) x40 w9 := by rw [← hx40]; exact hh.got 1 _ 40 rfl rfl (hall 1 (by decide))
        obtain ⟨x41, hx41⟩ : ∃ x, A.eval (.tmp 41) = x := ⟨_, rfl⟩
        have f41 : (fun v _ => v = (Value.agg [Value.int .i64 H, Value.int .u64 (l : Int)].toArray)) x41 w9 := by rw [← hx41]; exact hh.got 2 _ 41 rfl rfl (hall 2 (by decide))
        obtain ⟨x42, hx42⟩ : ∃ x, A.eval (.tmp 42) = x := ⟨_, rfl⟩
        have f42 : (fun v _ => v = (Value.pointer (some ⟨p1, 2, none⟩))) x42 w9 := by rw [← hx42]; exact hh.got 3 _ 42 rfl rfl (hall 3 (by decide))
        obtain ⟨x43, hx43⟩ : ∃ x, A.eval (.tmp 43) = x := ⟨_, rfl⟩
        have f43 : (fun v _ => v = (Value.agg [Value.int .u64 (s : Int), Value.int .i64 ta].toArray)) x43 w9 := by rw [← hx43]; exact hh.got 4 _ 43 rfl rfl (hall 4 (by decide))
        obtain ⟨x44, hx44⟩ : ∃ x, A.eval (.tmp 44) = x := ⟨_, rfl⟩
        have f44 : (fun v _ => v = (Value.int .i64 at1)) x44 w9 := by rw [← hx44]; exact hh.got 5 _ 44 rfl rfl (hall 5 (by decide))
        obtain ⟨x45, hx45⟩ : ∃ x, A.eval (.tmp 45) = x := ⟨_, rfl⟩
        have f45 : (fun v _ => v = (Value.agg [Value.int .u64 (S2 : Int), Value.int .i64 T2].toArray)) x45 w9 := by rw [← hx45]; exact hh.got 6 _ 45 rfl rfl (hall 6 (by decide))
        obtain ⟨x46, hx46⟩ : ∃ x, A.eval (.tmp 46) = x := ⟨_, rfl⟩
        have f46 : (fun v _ => v = (Value.bool false)) x46 w9 := by rw [← hx46]; exact hh.got 7 _ 46 rfl rfl (hall 7 (by decide))
        obtain ⟨x47, hx47⟩ : ∃ x, A.eval (.tmp 47) = x := ⟨_, rfl⟩
        have f47 : (fun v _ => v = (Value.bool false)) x47 w9 := by rw [← hx47]; exact hh.got 8 _ 47 rfl rfl (hall 8 (by decide))
        obtain ⟨x48, hx48⟩ : ∃ x, A.eval (.tmp 48) = x := ⟨_, rfl⟩
        have f48 : (fun v _ => v = (Value.pointer (some ⟨p1, 0, none⟩))) x48 w9 := by rw [← hx48]; exact hh.got 9 _ 48 rfl rfl (hall 9 (by decide))
        obtain ⟨x49, hx49⟩ : ∃ x, A.eval (.tmp 49) = x := ⟨_, rfl⟩
        have f49 : (fun v _ => v = (Value.agg [Value.int .i64 H, Value.int .u64 (l : Int)].toArray)) x49 w9 := by rw [← hx49]; exact hh.got 10 _ 49 rfl rfl (hall 10 (by decide))
        obtain ⟨x50, hx50⟩ : ∃ x, A.eval (.tmp 50) = x := ⟨_, rfl⟩
        have f50 : (fun v _ => v = (Value.agg [Value.int .u64 (S1 : Int), Value.int .i64 T1].toArray)) x50 w9 := by rw [← hx50]; exact hh.got 11 _ 50 rfl rfl (hall 11 (by decide))
        obtain ⟨x51, hx51⟩ : ∃ x, A.eval (.tmp 51) = x := ⟨_, rfl⟩
        have f51 : (fun v _ => v = (Value.bool true)) x51 w9 := by rw [← hx51]; exact hh.got 12 _ 51 rfl rfl (hall 12 (by decide))
        obtain ⟨x52, hx52⟩ : ∃ x, A.eval (.tmp 52) = x := ⟨_, rfl⟩
        have f52 : (fun v _ => v = (Value.bool false)) x52 w9 := by rw [← hx52]; exact hh.got 13 _ 52 rfl rfl (hall 13 (by decide))
        obtain ⟨x53, hx53⟩ : ∃ x, A.eval (.tmp 53) = x := ⟨_, rfl⟩
        have f53 : (fun v _ => v = (Value.bool false)) x53 w9 := by rw [← hx53]; exact hh.got 14 _ 53 rfl rfl (hall 14 (by decide))
        obtain ⟨x54, hx54⟩ : ∃ x, A.eval (.tmp 54) = x := ⟨_, rfl⟩
        have f54 : (fun v _ => v = (Value.bool false)) x54 w9 := by rw [← hx54]; exact hh.got 15 _ 54 rfl rfl (hall 15 (by decide))
        obtain ⟨x55, hx55⟩ : ∃ x, A.eval (.tmp 55) = x := ⟨_, rfl⟩
        have f55 : (fun v _ => v = (Value.pointer (some ⟨p1, 0, none⟩))) x55 w9 := by rw [← hx55]; exact hh.got 16 _ 55 rfl rfl (hall 16 (by decide))
        obtain ⟨x56, hx56⟩ : ∃ x, A.eval (.tmp 56) = x := ⟨_, rfl⟩
        have f56 : (fun v _ => v = (Value.agg [Value.int .i64 H, Value.int .u64 (l : Int)].toArray)) x56 w9 := by rw [← hx56]; exact hh.got 17 _ 56 rfl rfl (hall 17 (by decide))
        obtain ⟨x57, hx57⟩ : ∃ x, A.eval (.tmp 57) = x := ⟨_, rfl⟩
        have f57 : (fun v _ => v = (Value.agg [Value.int .u64 (S2 : Int), Value.int .i64 T2].toArray)) x57 w9 := by rw [← hx57]; exact hh.got 18 _ 57 rfl rfl (hall 18 (by decide))
        obtain ⟨x58, hx58⟩ : ∃ x, A.eval (.tmp 58) = x := ⟨_, rfl⟩
        have f58 : (fun v _ => v = (Value.bool true)) x58 w9 := by rw [← hx58]; exact hh.got 19 _ 58 rfl rfl (hall 19 (by decide))
        obtain ⟨x59, hx59⟩ : ∃ x, A.eval (.tmp 59) = x := ⟨_, rfl⟩
        have f59 : (fun v _ => v = (Value.bool false)) x59 w9 := by rw [← hx59]; exact hh.got 20 _ 59 rfl rfl (hall 20 (by decide))
        obtain ⟨x60, hx60⟩ : ∃ x, A.eval (.tmp 60) = x := ⟨_, rfl⟩
        have f60 : (fun v _ => v = (Value.bool false)) x60 w9 := by rw [← hx60]; exact hh.got 21 _ 60 rfl rfl (hall 21 (by decide))
        dsimp only [wrote, List.foldl] at hA
        rw [hx39, hx40, hx41, hx42, hx43, hx44, hx45, hx46, hx47, hx48, hx49, hx50, hx51, hx52, hx53, hx54, hx55, hx56, hx57, hx58, hx59, hx60] at hA
        clear hh hall hx39 hx40 hx41 hx42 hx43 hx44 hx45 hx46 hx47 hx48 hx49 hx50 hx51 hx52 hx53 hx54 hx55 hx56 hx57 hx58 hx59 hx60
        replace f39 := (f39 : x39 = (.agg [.int .u64 (S2 : Int), .int .i64 T2].toArray))
        subst f39
        replace f40 := (f40 : x40 = (.pointer (some ⟨p1, 0, none⟩)))
        subst f40
        replace f41 := (f41 : x41 = (.agg [.int .i64 H, .int .u64 (l : Int)].toArray))
        subst f41
        replace f42 := (f42 : x42 = (.pointer (some ⟨p1, 2, none⟩)))
        subst f42
        replace f43 := (f43 : x43 = (.agg [.int .u64 (s : Int), .int .i64 ta].toArray))
        subst f43
        replace f44 := (f44 : x44 = (.int .i64 at1))
        subst f44
        replace f45 := (f45 : x45 = (.agg [.int .u64 (S2 : Int), .int .i64 T2].toArray))
        subst f45
        replace f46 := (f46 : x46 = (.bool false))
        subst f46
        replace f47 := (f47 : x47 = (.bool false))
        subst f47
        replace f48 := (f48 : x48 = (.pointer (some ⟨p1, 0, none⟩)))
        subst f48
        replace f49 := (f49 : x49 = (.agg [.int .i64 H, .int .u64 (l : Int)].toArray))
        subst f49
        replace f50 := (f50 : x50 = (.agg [.int .u64 (S1 : Int), .int .i64 T1].toArray))
        subst f50
        replace f51 := (f51 : x51 = (.bool true))
        subst f51
        replace f52 := (f52 : x52 = (.bool false))
        subst f52
        replace f53 := (f53 : x53 = (.bool false))
        subst f53
        replace f54 := (f54 : x54 = (.bool false))
        subst f54
        replace f55 := (f55 : x55 = (.pointer (some ⟨p1, 0, none⟩)))
        subst f55
        replace f56 := (f56 : x56 = (.agg [.int .i64 H, .int .u64 (l : Int)].toArray))
        subst f56
        replace f57 := (f57 : x57 = (.agg [.int .u64 (S2 : Int), .int .i64 T2].toArray))
        subst f57
        replace f58 := (f58 : x58 = (.bool true))
        subst f58
        replace f59 := (f59 : x59 = (.bool false))
        subst f59
        replace f60 := (f60 : x60 = (.bool false))
        subst f60
        subst hA
        show wpList _ _ _ [] _ _
        unfold wpList
        simp only [Act.put, List.setIfInBounds_toArray, List.set_cons_succ, List.set_cons_zero]
        have HB9 := hid (HB8.out.keep HU.out)
        have HX9 := hid (HX8.out.keep HU.out)
        have HY9 := hid (HY8.out.keep HU.out)
        have HG9 := hid (gtrans HG8.out HU.out)
        clear HB8 HX8 HY8 HG8 HU HN1 HN2 HN3
        have y0 := HY9.out.cell 0
        go_wp2_with (first
          | (have := HB9; clear this; (with_reducible refine wpList_load_part (by with_unfolding_all rfl) 28 _ (by with_unfolding_all rfl) _ 0 [.int .i64 H, .int .u64 (l : Int)] _ (by with_unfolding_all rfl) (HB9.out.range [] [.int .i64 H, .int .u64 (l : Int)] [.int .u64 (s : Int), .int .i64 ta, .int .i64 at1, .int .i64 bt] 0 rfl rfl) Try.underlying28 (by with_unfolding_all rfl) (by with_unfolding_all exact Try.size28) ?_))
          | (have := HB9; clear this; (with_reducible refine wpList_load_part (by with_unfolding_all rfl) 37 _ (by with_unfolding_all rfl) _ 2 [.int .u64 (s : Int), .int .i64 ta] _ (by with_unfolding_all rfl) (HB9.out.range [.int .i64 H, .int .u64 (l : Int)] [.int .u64 (s : Int), .int .i64 ta] [.int .i64 at1, .int .i64 bt] 2 rfl rfl) Try.underlying37 (by with_unfolding_all rfl) (by with_unfolding_all exact Try.size37) ?_)))
        clear y0
        refine (HFl.out _).mono ?_
        rintro e w10 ⟨rfl, hg⟩
        have HB10 := hid (HB9.out.keep hg)
        have HX10 := hid (HX9.out.keep hg)
        have HY10 := hid (HY9.out.keep hg)
        have HG10 := hid (gtrans HG9.out hg)
        clear hg HB9 HX9 HY9 HG9
        go_upto_region 13 with (first
          | (have := HG11; clear this; (with_reducible refine wpList_store_all (by with_unfolding_all rfl) 37 _ _ (by with_unfolding_all rfl) _ [.int .u64 0, .int .i64 0] [.int .u64 (SF : Int), .int .i64 T2] 37 (by with_unfolding_all rfl) (by with_unfolding_all rfl) HF11.out (by with_unfolding_all rfl) (by with_unfolding_all exact Try.size37) (one2 _ _ _ _) ?_); intro w12 B12 g12 s12; have HF12 := hid B12; have HB12 := hid (HB11.out.on g12 (by have := HB10.out.lt; simp; omega)); have HX12 := hid (HX11.out.on g12 (by have := HX10.out.lt; simp; omega)); have HY12 := hid (HY11.out.on g12 (by have := HY10.out.lt; simp; omega)); have HG12 := hid (HG11.out.andThen g12 (fun j hj => .inl (by injection hj with hj; have := HG10.out.size; omega))); clear B12 g12 s12)
          | ((with_reducible refine wpList_alloc_row (by with_unfolding_all rfl) 37 (by with_unfolding_all rfl) [.int .u64 0, .int .i64 0] Try.zero37 ?_); intro w11 B11 s11 g11; have HF11 := hid B11; have HB11 := hid (HB10.out.keep g11); have HX11 := hid (HX10.out.keep g11); have HY11 := hid (HY10.out.keep g11); have HG11 := hid (gtrans HG10.out g11); clear B11 s11 g11))
        obtain ⟨p8, hp⟩ : ∃ x, w10.heap.size = x := ⟨_, rfl⟩
        rw [hp] at HF12
        simp only [hp]
        clear hp HB11 HB10 HX11 HX10 HY11 HY10 HF11 HG11 HG10 
        go_wp2_with (first
          | (have := HB12; clear this; (with_reducible refine wpList_load_part (by with_unfolding_all rfl) 28 _ (by with_unfolding_all rfl) _ 0 [.int .i64 H, .int .u64 (l : Int)] _ (by with_unfolding_all rfl) (HB12.out.range [] [.int .i64 H, .int .u64 (l : Int)] [.int .u64 (s : Int), .int .i64 ta, .int .i64 at1, .int .i64 bt] 0 rfl rfl) Try.underlying28 (by with_unfolding_all rfl) (by with_unfolding_all exact Try.size28) ?_))
          | (have := HB12; clear this; (with_reducible refine wpList_load_part (by with_unfolding_all rfl) 37 _ (by with_unfolding_all rfl) _ 2 [.int .u64 (s : Int), .int .i64 ta] _ (by with_unfolding_all rfl) (HB12.out.range [.int .i64 H, .int .u64 (l : Int)] [.int .u64 (s : Int), .int .i64 ta] [.int .i64 at1, .int .i64 bt] 2 rfl rfl) Try.underlying37 (by with_unfolding_all rfl) (by with_unfolding_all exact Try.size37) ?_)))
        refine (HPs.out _).mono ?_
        rintro e w13 ⟨rfl, hg⟩
        have HB13 := hid (HB12.out.keep hg)
        have HX13 := hid (HX12.out.keep hg)
        have HY13 := hid (HY12.out.keep hg)
        have HF13 := hid (HF12.out.keep hg)
        have HG13 := hid (gtrans HG12.out hg)
        clear hg HB12 HX12 HY12 HF12 HG12
        go_upto_region 14 with (first
          | (have := HG14; clear this; (with_reducible refine wpList_store_all (by with_unfolding_all rfl) 37 _ _ (by with_unfolding_all rfl) _ [.int .u64 0, .int .i64 0] [.int .u64 (SQ : Int), .int .i64 T2] 37 (by with_unfolding_all rfl) (by with_unfolding_all rfl) HQ14.out (by with_unfolding_all rfl) (by with_unfolding_all exact Try.size37) (one2 _ _ _ _) ?_); intro w15 B15 g15 s15; have HQ15 := hid B15; have HB15 := hid (HB14.out.on g15 (by have := HB13.out.lt; simp; omega)); have HX15 := hid (HX14.out.on g15 (by have := HX13.out.lt; simp; omega)); have HY15 := hid (HY14.out.on g15 (by have := HY13.out.lt; simp; omega)); have HF15 := hid (HF14.out.on g15 (by have := HF13.out.lt; simp; omega)); have HG15 := hid (HG14.out.andThen g15 (fun j hj => .inl (by injection hj with hj; have := HG13.out.size; omega))); clear B15 g15 s15)
          | ((with_reducible refine wpList_alloc_row (by with_unfolding_all rfl) 37 (by with_unfolding_all rfl) [.int .u64 0, .int .i64 0] Try.zero37 ?_); intro w14 B14 s14 g14; have HQ14 := hid B14; have HB14 := hid (HB13.out.keep g14); have HX14 := hid (HX13.out.keep g14); have HY14 := hid (HY13.out.keep g14); have HF14 := hid (HF13.out.keep g14); have HG14 := hid (gtrans HG13.out g14); clear B14 s14 g14))
        obtain ⟨p9, hp⟩ : ∃ x, w13.heap.size = x := ⟨_, rfl⟩
        rw [hp] at HQ15
        simp only [hp]
        clear hp HB14 HB13 HX14 HX13 HY14 HY13 HF14 HF13 HQ14 HG14 HG13 
        go_wp2_with (first
          | (have := HB15; clear this; (with_reducible refine wpList_load_part (by with_unfolding_all rfl) 28 _ (by with_unfolding_all rfl) _ 0 [.int .i64 H, .int .u64 (l : Int)] _ (by with_unfolding_all rfl) (HB15.out.range [] [.int .i64 H, .int .u64 (l : Int)] [.int .u64 (s : Int), .int .i64 ta, .int .i64 at1, .int .i64 bt] 0 rfl rfl) Try.underlying28 (by with_unfolding_all rfl) (by with_unfolding_all exact Try.size28) ?_))
          | (have := HF15; clear this; (with_reducible refine wpList_load_part (by with_unfolding_all rfl) 37 _ (by with_unfolding_all rfl) _ 0 [.int .u64 (SF : Int), .int .i64 T2] _ (by with_unfolding_all rfl) HF15.out.whole Try.underlying37 (by with_unfolding_all rfl) (by with_unfolding_all exact Try.size37) ?_)))
        refine (HF3.out _).mono ?_
        rintro e w16 ⟨rfl, hg⟩
        have HB16 := hid (HB15.out.keep hg)
        have HX16 := hid (HX15.out.keep hg)
        have HY16 := hid (HY15.out.keep hg)
        have HF16 := hid (HF15.out.keep hg)
        have HQ16 := hid (HQ15.out.keep hg)
        have HG16 := hid (gtrans HG15.out hg)
        clear hg HB15 HX15 HY15 HF15 HQ15 HG15
        go_wp2_with (first
          | (have := HB16; clear this; (with_reducible refine wpList_load_partW (by with_unfolding_all rfl) 28 _ (by with_unfolding_all rfl) _ 0 [.int .i64 H, .int .u64 (l : Int)] _ (by with_unfolding_all rfl) (HB16.out.range [] [.int .i64 H, .int .u64 (l : Int)] [.int .u64 (s : Int), .int .i64 ta, .int .i64 at1, .int .i64 bt] 0 rfl rfl) Try.underlying28 (by with_unfolding_all rfl) (by with_unfolding_all exact Try.size28) ?_))
          | (have := HQ16; clear this; (with_reducible refine wpList_load_partW (by with_unfolding_all rfl) 37 _ (by with_unfolding_all rfl) _ 0 [.int .u64 (SQ : Int), .int .i64 T2] _ (by with_unfolding_all rfl) HQ16.out.whole Try.underlying37 (by with_unfolding_all rfl) (by with_unfolding_all exact Try.size37) ?_)))
        refine (HF4.out _).mono ?_
        rintro e w17 ⟨rfl, hg⟩
        have HB17 := hid (HB16.out.keep hg)
        have HX17 := hid (HX16.out.keep hg)
        have HY17 := hid (HY16.out.keep hg)
        have HF17 := hid (HF16.out.keep hg)
        have HQ17 := hid (HQ16.out.keep hg)
        have HG17 := hid (gtrans HG16.out hg)
        clear hg HB16 HX16 HY16 HF16 HQ16 HG16
        have y1 := HY17.out.cell 1
        have f1 := HF17.out.cell 1
        have q1 := HQ17.out.cell 1
        have f0 := HF17.out.cell 0
        have q0 := HQ17.out.cell 0
        have x0 := HX17.out.cell 0
        by_cases hgt : 4831355200913801216 < S2
        · have HG1 : Hid (∀ (x y : Operand) (u : World), (do eqGuard .gtr 49 x y (.float .f64 S2) (.float .f64 4831355200913801216); binOp .gtr 49 (.float .f64 S2) (.float .f64 4831355200913801216) : Sem Value).run Try.prog u = .ok (.bool true) u) := hid (fun x y u => gtr49 HS2.out (by unfold Fnt; omega) (decide_eq_true hgt) u)
          clear hgt
          go_wp2_with (first
            | ((with_reducible refine wpList_binW (by with_unfolding_all rfl) .leq 49 _ _ 49 (by with_unfolding_all rfl) (.float .f64 S2) (.float .f64 S1) (.bool true) (by with_unfolding_all rfl) (by with_unfolding_all rfl) (HL1.out _ _ _) ?_))
            | ((with_reducible refine wpList_binW (by with_unfolding_all rfl) .geq 49 _ _ 49 (by with_unfolding_all rfl) (.float .f64 SF) (.float .f64 S2) (.bool true) (by with_unfolding_all rfl) (by with_unfolding_all rfl) (HL2.out _ _ _) ?_))
            | ((with_reducible refine wpList_binW (by with_unfolding_all rfl) .leq 49 _ _ 49 (by with_unfolding_all rfl) (.float .f64 SQ) (.float .f64 S2) (.bool true) (by with_unfolding_all rfl) (by with_unfolding_all rfl) (HL3.out _ _ _) ?_))
            | ((with_reducible refine wpList_binW (by with_unfolding_all rfl) .gtr 49 _ _ 49 (by with_unfolding_all rfl) (.float .f64 S2) (.float .f64 4831355200913801216) (.bool true) (by with_unfolding_all rfl) (by with_unfolding_all rfl) (HG1.out _ _ _) ?_)))
          refine (wakes_any _).mono ?_
          rintro e w18 ⟨rfl, hg⟩
          have HG18 := hid (gtrans HG17.out hg)
          go_wp2_with fail
          go_ret
          exact ⟨rfl, HG18.out⟩
        · have HG1 : Hid (∀ (x y : Operand) (u : World), (do eqGuard .gtr 49 x y (.float .f64 S2) (.float .f64 4831355200913801216); binOp .gtr 49 (.float .f64 S2) (.float .f64 4831355200913801216) : Sem Value).run Try.prog u = .ok (.bool false) u) := hid (fun x y u => gtr49 HS2.out (by unfold Fnt; omega) (decide_eq_false hgt) u)
          have HG2 : Hid (∀ (x y : Operand) (u : World), (do eqGuard .gtr 49 x y (.float .f64 SF) (.float .f64 S2); binOp .gtr 49 (.float .f64 SF) (.float .f64 S2) : Sem Value).run Try.prog u = .ok (.bool true) u) := hid (fun x y u => gtr49 HSF.out HS2.out (decide_eq_true (HUp.out (by omega))) u)
          clear hgt
          go_wp2_with (first
            | ((with_reducible refine wpList_binW (by with_unfolding_all rfl) .leq 49 _ _ 49 (by with_unfolding_all rfl) (.float .f64 S2) (.float .f64 S1) (.bool true) (by with_unfolding_all rfl) (by with_unfolding_all rfl) (HL1.out _ _ _) ?_))
            | ((with_reducible refine wpList_binW (by with_unfolding_all rfl) .geq 49 _ _ 49 (by with_unfolding_all rfl) (.float .f64 SF) (.float .f64 S2) (.bool true) (by with_unfolding_all rfl) (by with_unfolding_all rfl) (HL2.out _ _ _) ?_))
            | ((with_reducible refine wpList_binW (by with_unfolding_all rfl) .leq 49 _ _ 49 (by with_unfolding_all rfl) (.float .f64 SQ) (.float .f64 S2) (.bool true) (by with_unfolding_all rfl) (by with_unfolding_all rfl) (HL3.out _ _ _) ?_))
            | ((with_reducible refine wpList_binW (by with_unfolding_all rfl) .gtr 49 _ _ 49 (by with_unfolding_all rfl) (.float .f64 S2) (.float .f64 4831355200913801216) (.bool false) (by with_unfolding_all rfl) (by with_unfolding_all rfl) (HG1.out _ _ _) ?_))
            | ((with_reducible refine wpList_binW (by with_unfolding_all rfl) .gtr 49 _ _ 49 (by with_unfolding_all rfl) (.float .f64 SF) (.float .f64 S2) (.bool true) (by with_unfolding_all rfl) (by with_unfolding_all rfl) (HG2.out _ _ _) ?_)))
          refine (wakes_any _).mono ?_
          rintro e w18 ⟨rfl, hg⟩
          have HG18 := hid (gtrans HG17.out hg)
          go_wp2_with fail
          go_ret
          exact ⟨rfl, HG18.out⟩
    · obtain ⟨S1, S2, SF, SQ, T1, T2, e1, e2, e3, e4, e5, e6, e7, e8, n1, n2, n3, n4, n5, n6, n7, n8, n9⟩ := HAll.out at1 bt (by omega) HAT.out.2 HBT.out.2 (HFt.out rfl).1 (HFt.out rfl).2
      have HN1 := hid n1
      have HN2 := hid n2
      have HN3 := hid n3
      have HFl := hid n4
      have HPs := hid n5
      have HF1 := hid n6
      have HF2 := hid n7
      have HF3 := hid n8
      have HF4 := hid n9
      have HS2 := hid e1
      have HSF := hid e2
      have HUp := hid e3
      have HL1 : Hid (∀ (x y : Operand) (u : World), (do eqGuard .leq 49 x y (.float .f64 S2) (.float .f64 S1); binOp .leq 49 (.float .f64 S2) (.float .f64 S1) : Sem Value).run Try.prog u = .ok (.bool true) u) := hid (fun x y u => leq49 e1 e7 (decide_eq_true e4) u)
      have HL2 : Hid (∀ (x y : Operand) (u : World), (do eqGuard .geq 49 x y (.float .f64 SF) (.float .f64 S2); binOp .geq 49 (.float .f64 SF) (.float .f64 S2) : Sem Value).run Try.prog u = .ok (.bool true) u) := hid (fun x y u => geq49 e2 e1 (decide_eq_true e5) u)
      have HL3 : Hid (∀ (x y : Operand) (u : World), (do eqGuard .leq 49 x y (.float .f64 SQ) (.float .f64 S2); binOp .leq 49 (.float .f64 SQ) (.float .f64 S2) : Sem Value).run Try.prog u = .ok (.bool true) u) := hid (fun x y u => leq49 e8 e1 (decide_eq_true e6) u)
      clear e1 e2 e3 e4 e5 e6 e7 e8 n1 n2 n3 n4 n5 n6 n7 n8 n9 HAll HFn HFt
      go_wp2_with (first
        | (have := HB2; clear this; (with_reducible refine wpList_load_part (by with_unfolding_all rfl) 28 _ (by with_unfolding_all rfl) _ 0 [.int .i64 H, .int .u64 (l : Int)] _ (by with_unfolding_all rfl) (HB2.out.range [] [.int .i64 H, .int .u64 (l : Int)] [.int .u64 (s : Int), .int .i64 ta, .int .i64 at1, .int .i64 bt] 0 rfl rfl) Try.underlying28 (by with_unfolding_all rfl) (by with_unfolding_all exact Try.size28) ?_))
        | (have := HB2; clear this; (with_reducible refine wpList_load_part (by with_unfolding_all rfl) 37 _ (by with_unfolding_all rfl) _ 2 [.int .u64 (s : Int), .int .i64 ta] _ (by with_unfolding_all rfl) (HB2.out.range [.int .i64 H, .int .u64 (l : Int)] [.int .u64 (s : Int), .int .i64 ta] [.int .i64 at1, .int .i64 bt] 2 rfl rfl) Try.underlying37 (by with_unfolding_all rfl) (by with_unfolding_all exact Try.size37) ?_)))
      clear x4 x5
      refine (HN1.out _).mono ?_
      rintro e w3 ⟨rfl, hg⟩
      have HB3 := hid (HB2.out.keep hg)
      have HG3 := hid (gtrans HG2.out hg)
      clear hg HB2 HG2
      go_upto_region 8 with (first
        | (have := HG4; clear this; (with_reducible refine wpList_store_all (by with_unfolding_all rfl) 37 _ _ (by with_unfolding_all rfl) _ [.int .u64 0, .int .i64 0] [.int .u64 (S1 : Int), .int .i64 T1] 37 (by with_unfolding_all rfl) (by with_unfolding_all rfl) HX4.out (by with_unfolding_all rfl) (by with_unfolding_all exact Try.size37) (one2 _ _ _ _) ?_); intro w5 B5 g5 s5; have HX5 := hid B5; have HB5 := hid (HB4.out.on g5 (by have := HB3.out.lt; simp; omega)); have HG5 := hid (HG4.out.andThen g5 (fun j hj => .inl (by injection hj with hj; have := HG3.out.size; omega))); clear B5 g5 s5)
        | ((with_reducible refine wpList_alloc_row (by with_unfolding_all rfl) 37 (by with_unfolding_all rfl) [.int .u64 0, .int .i64 0] Try.zero37 ?_); intro w4 B4 s4 g4; have HX4 := hid B4; have HB4 := hid (HB3.out.keep g4); have HG4 := hid (gtrans HG3.out g4); clear B4 s4 g4))
      obtain ⟨p5, hp⟩ : ∃ x, w3.heap.size = x := ⟨_, rfl⟩
      rw [hp] at HX5
      simp only [hp]
      clear hp HB4 HB3 HX4 HG4 HG3 
      go_wp2_with (first
        | (have := HB5; clear this; (with_reducible refine wpList_load_part (by with_unfolding_all rfl) 28 _ (by with_unfolding_all rfl) _ 0 [.int .i64 H, .int .u64 (l : Int)] _ (by with_unfolding_all rfl) (HB5.out.range [] [.int .i64 H, .int .u64 (l : Int)] [.int .u64 (s : Int), .int .i64 ta, .int .i64 at1, .int .i64 bt] 0 rfl rfl) Try.underlying28 (by with_unfolding_all rfl) (by with_unfolding_all exact Try.size28) ?_))
        | (have := HX5; clear this; (with_reducible refine wpList_load_part (by with_unfolding_all rfl) 37 _ (by with_unfolding_all rfl) _ 0 [.int .u64 (S1 : Int), .int .i64 T1] _ (by with_unfolding_all rfl) HX5.out.whole Try.underlying37 (by with_unfolding_all rfl) (by with_unfolding_all exact Try.size37) ?_)))
      refine (HN2.out _).mono ?_
      rintro e w6 ⟨rfl, hg⟩
      have HB6 := hid (HB5.out.keep hg)
      have HX6 := hid (HX5.out.keep hg)
      have HG6 := hid (gtrans HG5.out hg)
      clear hg HB5 HX5 HG5
      go_upto_region 9 with (first
        | (have := HG7; clear this; (with_reducible refine wpList_store_all (by with_unfolding_all rfl) 37 _ _ (by with_unfolding_all rfl) _ [.int .u64 0, .int .i64 0] [.int .u64 (S2 : Int), .int .i64 T2] 37 (by with_unfolding_all rfl) (by with_unfolding_all rfl) HY7.out (by with_unfolding_all rfl) (by with_unfolding_all exact Try.size37) (one2 _ _ _ _) ?_); intro w8 B8 g8 s8; have HY8 := hid B8; have HB8 := hid (HB7.out.on g8 (by have := HB6.out.lt; simp; omega)); have HX8 := hid (HX7.out.on g8 (by have := HX6.out.lt; simp; omega)); have HG8 := hid (HG7.out.andThen g8 (fun j hj => .inl (by injection hj with hj; have := HG6.out.size; omega))); clear B8 g8 s8)
        | ((with_reducible refine wpList_alloc_row (by with_unfolding_all rfl) 37 (by with_unfolding_all rfl) [.int .u64 0, .int .i64 0] Try.zero37 ?_); intro w7 B7 s7 g7; have HY7 := hid B7; have HB7 := hid (HB6.out.keep g7); have HX7 := hid (HX6.out.keep g7); have HG7 := hid (gtrans HG6.out g7); clear B7 s7 g7))
      obtain ⟨p6, hp⟩ : ∃ x, w6.heap.size = x := ⟨_, rfl⟩
      rw [hp] at HY8
      simp only [hp]
      clear hp HB7 HB6 HX7 HX6 HY7 HG7 HG6 
      go_wp2_with fail
      refine wp_region_list (by kernel_rfl) [fun v _ => v = (Value.agg [Value.int .u64 (S2 : Int), Value.int .i64 T2].toArray), fun v _ => v = (Value.pointer (some ⟨p1, 0, none⟩)), fun v _ => v = (Value.agg [Value.int .i64 H, Value.int .u64 (l : Int)].toArray), fun v _ => v = (Value.pointer (some ⟨p1, 2, none⟩)), fun v _ => v = (Value.agg [Value.int .u64 (s : Int), Value.int .i64 ta].toArray), fun v _ => v = (Value.int .i64 bt), fun v _ => v = (Value.agg [Value.int .u64 (S2 : Int), Value.int .i64 T2].toArray), fun v _ => v = (Value.bool false), fun v _ => v = (Value.bool false), fun v _ => v = (Value.pointer (some ⟨p1, 0, none⟩)), fun v _ => v = (Value.agg [Value.int .i64 H, Value.int .u64 (l : Int)].toArray), fun v _ => v = (Value.agg [Value.int .u64 (S1 : Int), Value.int .i64 T1].toArray), fun v _ => v = (Value.bool true), fun v _ => v = (Value.bool false), fun v _ => v = (Value.bool false), fun v _ => v = (Value.bool false), fun v _ => v = (Value.pointer (some ⟨p1, 0, none⟩)), fun v _ => v = (Value.agg [Value.int .i64 H, Value.int .u64 (l : Int)].toArray), fun v _ => v = (Value.agg [Value.int .u64 (S2 : Int), Value.int .i64 T2].toArray), fun v _ => v = (Value.bool true), fun v _ => v = (Value.bool false), fun v _ => v = (Value.bool false)] (none) (fun _ => none) 22 (by kernel_rfl) (by kernel_rfl) (by kernel_rfl) (by kernel_rfl) (by decide) noRow_one (fun _ => .inl rfl) ⟨fun i v u u' hki h hg => h, fun i v u u' hki h hg => h, fun i v u u' hki h hg => h, fun i v u u' hki h hg => h, fun i v u u' hki h hg => h, fun i v u u' hki h hg => h, fun i v u u' hki h hg => h, fun i v u u' hki h hg => h, fun i v u u' hki h hg => h, fun i v u u' hki h hg => h, fun i v u u' hki h hg => h, fun i v u u' hki h hg => h, fun i v u u' hki h hg => h, fun i v u u' hki h hg => h, fun i v u u' hki h hg => h, fun i v u u' hki h hg => h, fun i v u u' hki h hg => h, fun i v u u' hki h hg => h, fun i v u u' hki h hg => h, fun i v u u' hki h hg => h, fun i v u u' hki h hg => h, fun i v u u' hki h hg => h, trivial⟩ ⟨?_, ?_, ?_, ?_, ?_, ?_, ?_, ?_, ?_, ?_, ?_, ?_, ?_, ?_, ?_, ?_, ?_, ?_, ?_, ?_, ?_, ?_, trivial⟩ ?_
      · intro A u hu hpu hsz hout hdeps
        have e6 : A.eval (.tmp 6) = (.pointer (some ⟨p6, 0, none⟩)) := (hout 6 (by kernel_rfl)).trans rfl
        refine ifw_none rfl ?_
        with_reducible refine shown_q (Value.agg [Value.int .u64 (S2 : Int), Value.int .i64 T2].toArray) ?qq_2_0 (fun _ _ => ?qr_2_0)
        case qr_2_0 => exact (rfl : (Value.agg [Value.int .u64 (S2 : Int), Value.int .i64 T2].toArray) = (Value.agg [Value.int .u64 (S2 : Int), Value.int .i64 T2].toArray))
        with_reducible refine quietAt_load 37 (.tmp 6) ?h0_2_0 p6 0 [Value.int .u64 (S2 : Int), Value.int .i64 T2] (.struct (Try.prog.fieldsOf 37)) ?h1_2_0 ?h2_2_0 ?h3_2_0 ?h4_2_0 ?h5_2_0
        case h0_2_0 => rfl
        case h1_2_0 => exact e6
        case h2_2_0 => exact (HY8.out.keep hu).whole
        case h3_2_0 => exact Try.underlying37
        case h4_2_0 => rfl
        case h5_2_0 => exact Try.size37
      · intro A u hu hpu hsz hout hdeps
        have e1 : A.eval (.tmp 1) = (.pointer (some ⟨p1, 0, none⟩)) := (hout 1 (by kernel_rfl)).trans rfl
        refine ifw_none rfl ?_
        with_reducible refine shown_q (Value.pointer (some ⟨p1, 0, none⟩)) ?qq_2_1 (fun _ _ => ?qr_2_1)
        case qr_2_1 => exact (rfl : (Value.pointer (some ⟨p1, 0, none⟩)) = (Value.pointer (some ⟨p1, 0, none⟩)))
        with_reducible refine quietAt_field 47 (.tmp 1) 0 ?h0_2_1 ⟨p1, 0, none⟩ ⟨p1, 0, none⟩ ?h1_2_1 ?h2_2_1
        case h0_2_1 => rfl
        case h1_2_1 => exact e1
        case h2_2_1 => kernel_rfl
      · intro A u hu hpu hsz hout hdeps
        have e40 : A.eval (.tmp 40) = (.pointer (some ⟨p1, 0, none⟩)) := by have h := depL hdeps 1 (by kernel_rfl) 40 (by kernel_rfl); exact h
        refine ifw_none rfl ?_
        with_reducible refine shown_q (Value.agg [Value.int .i64 H, Value.int .u64 (l : Int)].toArray) ?qq_2_2 (fun _ _ => ?qr_2_2)
        case qr_2_2 => exact (rfl : (Value.agg [Value.int .i64 H, Value.int .u64 (l : Int)].toArray) = (Value.agg [Value.int .i64 H, Value.int .u64 (l : Int)].toArray))
        with_reducible refine quietAt_load 28 (.tmp 40) ?h0_2_2 p1 0 [Value.int .i64 H, Value.int .u64 (l : Int)] (.struct (Try.prog.fieldsOf 28)) ?h1_2_2 ?h2_2_2 ?h3_2_2 ?h4_2_2 ?h5_2_2
        case h0_2_2 => rfl
        case h1_2_2 => exact e40
        case h2_2_2 => exact ((HB8.out.keep hu).range [] [.int .i64 H, .int .u64 (l : Int)] [.int .u64 (s : Int), .int .i64 ta, .int .i64 at1, .int .i64 bt] 0 rfl rfl)
        case h3_2_2 => exact Try.underlying28
        case h4_2_2 => rfl
        case h5_2_2 => exact Try.size28
      · intro A u hu hpu hsz hout hdeps
        have e1 : A.eval (.tmp 1) = (.pointer (some ⟨p1, 0, none⟩)) := (hout 1 (by kernel_rfl)).trans rfl
        refine ifw_none rfl ?_
        with_reducible refine shown_q (Value.pointer (some ⟨p1, 2, none⟩)) ?qq_2_3 (fun _ _ => ?qr_2_3)
        case qr_2_3 => exact (rfl : (Value.pointer (some ⟨p1, 2, none⟩)) = (Value.pointer (some ⟨p1, 2, none⟩)))
        with_reducible refine quietAt_field 47 (.tmp 1) 1 ?h0_2_3 ⟨p1, 0, none⟩ ⟨p1, 2, none⟩ ?h1_2_3 ?h2_2_3
        case h0_2_3 => rfl
        case h1_2_3 => exact e1
        case h2_2_3 => kernel_rfl
      · intro A u hu hpu hsz hout hdeps
        have e42 : A.eval (.tmp 42) = (.pointer (some ⟨p1, 2, none⟩)) := by have h := depL hdeps 3 (by kernel_rfl) 42 (by kernel_rfl); exact h
        refine ifw_none rfl ?_
        with_reducible refine shown_q (Value.agg [Value.int .u64 (s : Int), Value.int .i64 ta].toArray) ?qq_2_4 (fun _ _ => ?qr_2_4)
        case qr_2_4 => exact (rfl : (Value.agg [Value.int .u64 (s : Int), Value.int .i64 ta].toArray) = (Value.agg [Value.int .u64 (s : Int), Value.int .i64 ta].toArray))
        with_reducible refine quietAt_load 37 (.tmp 42) ?h0_2_4 p1 2 [Value.int .u64 (s : Int), Value.int .i64 ta] (.struct (Try.prog.fieldsOf 37)) ?h1_2_4 ?h2_2_4 ?h3_2_4 ?h4_2_4 ?h5_2_4
        case h0_2_4 => rfl
        case h1_2_4 => exact e42
        case h2_2_4 => exact ((HB8.out.keep hu).range [.int .i64 H, .int .u64 (l : Int)] [.int .u64 (s : Int), .int .i64 ta] [.int .i64 at1, .int .i64 bt] 2 rfl rfl)
        case h3_2_4 => exact Try.underlying37
        case h4_2_4 => rfl
        case h5_2_4 => exact Try.size37
      · intro A u hu hpu hsz hout hdeps
        have e4 : A.eval (.tmp 4) = (.int .i64 bt) := (hout 4 (by kernel_rfl)).trans rfl
        refine ifw_none rfl ?_
        with_reducible refine shown_q (Value.int .i64 bt) ?qq_2_5 (fun _ _ => ?qr_2_5)
        case qr_2_5 => exact (rfl : (Value.int .i64 bt) = (Value.int .i64 bt))
        with_reducible refine quietAt_mv (.tmp 4) (Value.int .i64 bt) ?h0_2_5 ?h1_2_5
        case h0_2_5 => rfl
        case h1_2_5 => exact e4
      · intro A u hu hpu hsz hout hdeps
        have e41 : A.eval (.tmp 41) = (.agg [.int .i64 H, .int .u64 (l : Int)].toArray) := by have h := depL hdeps 2 (by kernel_rfl) 41 (by kernel_rfl); exact h
        have e43 : A.eval (.tmp 43) = (.agg [.int .u64 (s : Int), .int .i64 ta].toArray) := by have h := depL hdeps 4 (by kernel_rfl) 43 (by kernel_rfl); exact h
        have e44 : A.eval (.tmp 44) = (.int .i64 bt) := by have h := depL hdeps 5 (by kernel_rfl) 44 (by kernel_rfl); exact h
        refine ifw_none rfl ?_
        with_reducible refine shown_q (Value.agg [Value.int .u64 (S2 : Int), Value.int .i64 T2].toArray) ?qq_2_6 (fun _ _ => ?qr_2_6)
        case qr_2_6 => exact (rfl : (Value.agg [Value.int .u64 (S2 : Int), Value.int .i64 T2].toArray) = (Value.agg [Value.int .u64 (S2 : Int), Value.int .i64 T2].toArray))
        with_reducible refine quietAt_call 14 Try.f14 ?h0_2_6 ?h1_2_6 ?h2_2_6 #[.tmp 41, .tmp 43, .tmp 44] #[28, 37, 2] ?h3_2_6 (Value.agg [Value.int .u64 (S2 : Int), Value.int .i64 T2].toArray) #[(Value.agg [Value.int .i64 H, Value.int .u64 (l : Int)].toArray), (Value.agg [Value.int .u64 (s : Int), Value.int .i64 ta].toArray), (Value.int .i64 bt)] ?h4_2_6 ?h5_2_6
        case h0_2_6 => exact Try.func14
        case h1_2_6 => kernel_rfl
        case h2_2_6 => kernel_rfl
        case h3_2_6 => rfl
        case h4_2_6 => exact map3 _ _ _ _ _ _ _ e41 e43 e44
        case h5_2_6 => exact HN3.out u
      · intro A u hu hpu hsz hout hdeps
        have e39 : A.eval (.tmp 39) = (.agg [.int .u64 (S2 : Int), .int .i64 T2].toArray) := by have h := depL hdeps 0 (by kernel_rfl) 39 (by kernel_rfl); exact h
        have e45 : A.eval (.tmp 45) = (.agg [.int .u64 (S2 : Int), .int .i64 T2].toArray) := by have h := depL hdeps 6 (by kernel_rfl) 45 (by kernel_rfl); exact h
        refine ifw_none rfl ?_
        with_reducible refine shown_q (Value.bool false) ?qq_2_7 (fun _ _ => ?qr_2_7)
        case qr_2_7 => exact (rfl : (Value.bool false) = (Value.bool false))
        with_reducible refine quietAt_bin .neq 37 (.tmp 39) (.tmp 45) 37 (Value.agg [Value.int .u64 (S2 : Int), Value.int .i64 T2].toArray) (Value.agg [Value.int .u64 (S2 : Int), Value.int .i64 T2].toArray) (Value.bool false) ?h0_2_7 ?h1_2_7 ?h2_2_7 ?h3_2_7
        case h0_2_7 => rfl
        case h1_2_7 => exact e39
        case h2_2_7 => exact e45
        case h3_2_7 => exact (by rw [neq37]; simp)
      · intro A u hu hpu hsz hout hdeps
        have e46 : A.eval (.tmp 46) = (.bool false) := by have h := depL hdeps 7 (by kernel_rfl) 46 (by kernel_rfl); exact h
        refine ifw_none rfl ?_
        with_reducible refine shown_q (Value.bool false) ?qq_2_8 (fun _ _ => ?qr_2_8)
        case qr_2_8 => exact (rfl : (Value.bool false) = (Value.bool false))
        with_reducible refine quietAt_mv (.tmp 46) (Value.bool false) ?h0_2_8 ?h1_2_8
        case h0_2_8 => rfl
        case h1_2_8 => exact e46
      · intro A u hu hpu hsz hout hdeps
        have e47 : A.eval (.tmp 47) = (.bool false) := by have h := depL hdeps 8 (by kernel_rfl) 47 (by kernel_rfl); exact h
        have e1 : A.eval (.tmp 1) = (.pointer (some ⟨p1, 0, none⟩)) := (hout 1 (by kernel_rfl)).trans rfl
        refine ifw_want 8 false 47 rfl rfl e47 ?_
        with_reducible refine shown_q (Value.pointer (some ⟨p1, 0, none⟩)) ?qq_2_9 (fun _ _ => ?qr_2_9)
        case qr_2_9 => exact (rfl : (Value.pointer (some ⟨p1, 0, none⟩)) = (Value.pointer (some ⟨p1, 0, none⟩)))
        with_reducible refine quietAt_field 47 (.tmp 1) 0 ?h0_2_9 ⟨p1, 0, none⟩ ⟨p1, 0, none⟩ ?h1_2_9 ?h2_2_9
        case h0_2_9 => rfl
        case h1_2_9 => exact e1
        case h2_2_9 => kernel_rfl
      · intro A u hu hpu hsz hout hdeps
        have e47 : A.eval (.tmp 47) = (.bool false) := by have h := depL hdeps 8 (by kernel_rfl) 47 (by kernel_rfl); exact h
        have e48 : A.eval (.tmp 48) = (.pointer (some ⟨p1, 0, none⟩)) := by have h := depL hdeps 9 (by kernel_rfl) 48 (by kernel_rfl); exact h
        refine ifw_want 8 false 47 rfl rfl e47 ?_
        with_reducible refine shown_q (Value.agg [Value.int .i64 H, Value.int .u64 (l : Int)].toArray) ?qq_2_10 (fun _ _ => ?qr_2_10)
        case qr_2_10 => exact (rfl : (Value.agg [Value.int .i64 H, Value.int .u64 (l : Int)].toArray) = (Value.agg [Value.int .i64 H, Value.int .u64 (l : Int)].toArray))
        with_reducible refine quietAt_load 28 (.tmp 48) ?h0_2_10 p1 0 [Value.int .i64 H, Value.int .u64 (l : Int)] (.struct (Try.prog.fieldsOf 28)) ?h1_2_10 ?h2_2_10 ?h3_2_10 ?h4_2_10 ?h5_2_10
        case h0_2_10 => rfl
        case h1_2_10 => exact e48
        case h2_2_10 => exact ((HB8.out.keep hu).range [] [.int .i64 H, .int .u64 (l : Int)] [.int .u64 (s : Int), .int .i64 ta, .int .i64 at1, .int .i64 bt] 0 rfl rfl)
        case h3_2_10 => exact Try.underlying28
        case h4_2_10 => rfl
        case h5_2_10 => exact Try.size28
      · intro A u hu hpu hsz hout hdeps
        have e47 : A.eval (.tmp 47) = (.bool false) := by have h := depL hdeps 8 (by kernel_rfl) 47 (by kernel_rfl); exact h
        have e5 : A.eval (.tmp 5) = (.pointer (some ⟨p5, 0, none⟩)) := (hout 5 (by kernel_rfl)).trans rfl
        refine ifw_want 8 false 47 rfl rfl e47 ?_
        with_reducible refine shown_q (Value.agg [Value.int .u64 (S1 : Int), Value.int .i64 T1].toArray) ?qq_2_11 (fun _ _ => ?qr_2_11)
        case qr_2_11 => exact (rfl : (Value.agg [Value.int .u64 (S1 : Int), Value.int .i64 T1].toArray) = (Value.agg [Value.int .u64 (S1 : Int), Value.int .i64 T1].toArray))
        with_reducible refine quietAt_load 37 (.tmp 5) ?h0_2_11 p5 0 [Value.int .u64 (S1 : Int), Value.int .i64 T1] (.struct (Try.prog.fieldsOf 37)) ?h1_2_11 ?h2_2_11 ?h3_2_11 ?h4_2_11 ?h5_2_11
        case h0_2_11 => rfl
        case h1_2_11 => exact e5
        case h2_2_11 => exact (HX8.out.keep hu).whole
        case h3_2_11 => exact Try.underlying37
        case h4_2_11 => rfl
        case h5_2_11 => exact Try.size37
      · intro A u hu hpu hsz hout hdeps
        have e47 : A.eval (.tmp 47) = (.bool false) := by have h := depL hdeps 8 (by kernel_rfl) 47 (by kernel_rfl); exact h
        have e49 : A.eval (.tmp 49) = (.agg [.int .i64 H, .int .u64 (l : Int)].toArray) := by have h := depL hdeps 10 (by kernel_rfl) 49 (by kernel_rfl); exact h
        have e50 : A.eval (.tmp 50) = (.agg [.int .u64 (S1 : Int), .int .i64 T1].toArray) := by have h := depL hdeps 11 (by kernel_rfl) 50 (by kernel_rfl); exact h
        refine ifw_want 8 false 47 rfl rfl e47 ?_
        with_reducible refine shown_q (Value.bool true) ?qq_2_12 (fun _ _ => ?qr_2_12)
        case qr_2_12 => exact (rfl : (Value.bool true) = (Value.bool true))
        with_reducible refine quietAt_call 24 Try.f24 ?h0_2_12 ?h1_2_12 ?h2_2_12 #[.tmp 49, .tmp 50] #[28, 37] ?h3_2_12 (Value.bool true) #[(Value.agg [Value.int .i64 H, Value.int .u64 (l : Int)].toArray), (Value.agg [Value.int .u64 (S1 : Int), Value.int .i64 T1].toArray)] ?h4_2_12 ?h5_2_12
        case h0_2_12 => exact Try.func24
        case h1_2_12 => kernel_rfl
        case h2_2_12 => kernel_rfl
        case h3_2_12 => rfl
        case h4_2_12 => exact map2 _ _ _ _ _ e49 e50
        case h5_2_12 => exact HF1.out u
      · intro A u hu hpu hsz hout hdeps
        have e47 : A.eval (.tmp 47) = (.bool false) := by have h := depL hdeps 8 (by kernel_rfl) 47 (by kernel_rfl); exact h
        have e51 : A.eval (.tmp 51) = (.bool true) := by have h := depL hdeps 12 (by kernel_rfl) 51 (by kernel_rfl); exact h
        refine ifw_want 8 false 47 rfl rfl e47 ?_
        with_reducible refine shown_q (Value.bool false) ?qq_2_13 (fun _ _ => ?qr_2_13)
        case qr_2_13 => exact (rfl : (Value.bool false) = (Value.bool false))
        with_reducible refine quietAt_un .not 4 (.tmp 51) (Value.bool true) (Value.bool false) ?h0_2_13 ?h1_2_13 ?h2_2_13
        case h0_2_13 => rfl
        case h1_2_13 => exact e51
        case h2_2_13 => rfl
      · intro A u hu hpu hsz hout hdeps
        have e47 : A.eval (.tmp 47) = (.bool false) := by have h := depL hdeps 8 (by kernel_rfl) 47 (by kernel_rfl); exact h
        have e52 : A.eval (.tmp 52) = (.bool false) := by have h := depL hdeps 13 (by kernel_rfl) 52 (by kernel_rfl); exact h
        refine ifw_none rfl ?_
        with_reducible refine shown_q (Value.bool false) ?qq_2_14 (fun _ _ => ?qr_2_14)
        case qr_2_14 => exact (rfl : (Value.bool false) = (Value.bool false))
        with_reducible refine quietAt_pick (.tmp 47) (.const (.bool true)) (.tmp 52) false (Value.bool false) ?h0_2_14 ?h1_2_14 ?h2_2_14
        case h0_2_14 => rfl
        case h1_2_14 => exact e47
        case h2_2_14 => rw [if_neg (by decide)]; exact e52
      · intro A u hu hpu hsz hout hdeps
        have e53 : A.eval (.tmp 53) = (.bool false) := by have h := depL hdeps 14 (by kernel_rfl) 53 (by kernel_rfl); exact h
        refine ifw_none rfl ?_
        with_reducible refine shown_q (Value.bool false) ?qq_2_15 (fun _ _ => ?qr_2_15)
        case qr_2_15 => exact (rfl : (Value.bool false) = (Value.bool false))
        with_reducible refine quietAt_mv (.tmp 53) (Value.bool false) ?h0_2_15 ?h1_2_15
        case h0_2_15 => rfl
        case h1_2_15 => exact e53
      · intro A u hu hpu hsz hout hdeps
        have e54 : A.eval (.tmp 54) = (.bool false) := by have h := depL hdeps 15 (by kernel_rfl) 54 (by kernel_rfl); exact h
        have e1 : A.eval (.tmp 1) = (.pointer (some ⟨p1, 0, none⟩)) := (hout 1 (by kernel_rfl)).trans rfl
        refine ifw_want 15 false 54 rfl rfl e54 ?_
        with_reducible refine shown_q (Value.pointer (some ⟨p1, 0, none⟩)) ?qq_2_16 (fun _ _ => ?qr_2_16)
        case qr_2_16 => exact (rfl : (Value.pointer (some ⟨p1, 0, none⟩)) = (Value.pointer (some ⟨p1, 0, none⟩)))
        with_reducible refine quietAt_field 47 (.tmp 1) 0 ?h0_2_16 ⟨p1, 0, none⟩ ⟨p1, 0, none⟩ ?h1_2_16 ?h2_2_16
        case h0_2_16 => rfl
        case h1_2_16 => exact e1
        case h2_2_16 => kernel_rfl
      · intro A u hu hpu hsz hout hdeps
        have e54 : A.eval (.tmp 54) = (.bool false) := by have h := depL hdeps 15 (by kernel_rfl) 54 (by kernel_rfl); exact h
        have e55 : A.eval (.tmp 55) = (.pointer (some ⟨p1, 0, none⟩)) := by have h := depL hdeps 16 (by kernel_rfl) 55 (by kernel_rfl); exact h
        refine ifw_want 15 false 54 rfl rfl e54 ?_
        with_reducible refine shown_q (Value.agg [Value.int .i64 H, Value.int .u64 (l : Int)].toArray) ?qq_2_17 (fun _ _ => ?qr_2_17)
        case qr_2_17 => exact (rfl : (Value.agg [Value.int .i64 H, Value.int .u64 (l : Int)].toArray) = (Value.agg [Value.int .i64 H, Value.int .u64 (l : Int)].toArray))
        with_reducible refine quietAt_load 28 (.tmp 55) ?h0_2_17 p1 0 [Value.int .i64 H, Value.int .u64 (l : Int)] (.struct (Try.prog.fieldsOf 28)) ?h1_2_17 ?h2_2_17 ?h3_2_17 ?h4_2_17 ?h5_2_17
        case h0_2_17 => rfl
        case h1_2_17 => exact e55
        case h2_2_17 => exact ((HB8.out.keep hu).range [] [.int .i64 H, .int .u64 (l : Int)] [.int .u64 (s : Int), .int .i64 ta, .int .i64 at1, .int .i64 bt] 0 rfl rfl)
        case h3_2_17 => exact Try.underlying28
        case h4_2_17 => rfl
        case h5_2_17 => exact Try.size28
      · intro A u hu hpu hsz hout hdeps
        have e54 : A.eval (.tmp 54) = (.bool false) := by have h := depL hdeps 15 (by kernel_rfl) 54 (by kernel_rfl); exact h
        have e6 : A.eval (.tmp 6) = (.pointer (some ⟨p6, 0, none⟩)) := (hout 6 (by kernel_rfl)).trans rfl
        refine ifw_want 15 false 54 rfl rfl e54 ?_
        with_reducible refine shown_q (Value.agg [Value.int .u64 (S2 : Int), Value.int .i64 T2].toArray) ?qq_2_18 (fun _ _ => ?qr_2_18)
        case qr_2_18 => exact (rfl : (Value.agg [Value.int .u64 (S2 : Int), Value.int .i64 T2].toArray) = (Value.agg [Value.int .u64 (S2 : Int), Value.int .i64 T2].toArray))
        with_reducible refine quietAt_load 37 (.tmp 6) ?h0_2_18 p6 0 [Value.int .u64 (S2 : Int), Value.int .i64 T2] (.struct (Try.prog.fieldsOf 37)) ?h1_2_18 ?h2_2_18 ?h3_2_18 ?h4_2_18 ?h5_2_18
        case h0_2_18 => rfl
        case h1_2_18 => exact e6
        case h2_2_18 => exact (HY8.out.keep hu).whole
        case h3_2_18 => exact Try.underlying37
        case h4_2_18 => rfl
        case h5_2_18 => exact Try.size37
      · intro A u hu hpu hsz hout hdeps
        have e54 : A.eval (.tmp 54) = (.bool false) := by have h := depL hdeps 15 (by kernel_rfl) 54 (by kernel_rfl); exact h
        have e56 : A.eval (.tmp 56) = (.agg [.int .i64 H, .int .u64 (l : Int)].toArray) := by have h := depL hdeps 17 (by kernel_rfl) 56 (by kernel_rfl); exact h
        have e57 : A.eval (.tmp 57) = (.agg [.int .u64 (S2 : Int), .int .i64 T2].toArray) := by have h := depL hdeps 18 (by kernel_rfl) 57 (by kernel_rfl); exact h
        refine ifw_want 15 false 54 rfl rfl e54 ?_
        with_reducible refine shown_q (Value.bool true) ?qq_2_19 (fun _ _ => ?qr_2_19)
        case qr_2_19 => exact (rfl : (Value.bool true) = (Value.bool true))
        with_reducible refine quietAt_call 24 Try.f24 ?h0_2_19 ?h1_2_19 ?h2_2_19 #[.tmp 56, .tmp 57] #[28, 37] ?h3_2_19 (Value.bool true) #[(Value.agg [Value.int .i64 H, Value.int .u64 (l : Int)].toArray), (Value.agg [Value.int .u64 (S2 : Int), Value.int .i64 T2].toArray)] ?h4_2_19 ?h5_2_19
        case h0_2_19 => exact Try.func24
        case h1_2_19 => kernel_rfl
        case h2_2_19 => kernel_rfl
        case h3_2_19 => rfl
        case h4_2_19 => exact map2 _ _ _ _ _ e56 e57
        case h5_2_19 => exact HF2.out u
      · intro A u hu hpu hsz hout hdeps
        have e54 : A.eval (.tmp 54) = (.bool false) := by have h := depL hdeps 15 (by kernel_rfl) 54 (by kernel_rfl); exact h
        have e58 : A.eval (.tmp 58) = (.bool true) := by have h := depL hdeps 19 (by kernel_rfl) 58 (by kernel_rfl); exact h
        refine ifw_want 15 false 54 rfl rfl e54 ?_
        with_reducible refine shown_q (Value.bool false) ?qq_2_20 (fun _ _ => ?qr_2_20)
        case qr_2_20 => exact (rfl : (Value.bool false) = (Value.bool false))
        with_reducible refine quietAt_un .not 4 (.tmp 58) (Value.bool true) (Value.bool false) ?h0_2_20 ?h1_2_20 ?h2_2_20
        case h0_2_20 => rfl
        case h1_2_20 => exact e58
        case h2_2_20 => rfl
      · intro A u hu hpu hsz hout hdeps
        have e54 : A.eval (.tmp 54) = (.bool false) := by have h := depL hdeps 15 (by kernel_rfl) 54 (by kernel_rfl); exact h
        have e59 : A.eval (.tmp 59) = (.bool false) := by have h := depL hdeps 20 (by kernel_rfl) 59 (by kernel_rfl); exact h
        refine ifw_none rfl ?_
        with_reducible refine shown_q (Value.bool false) ?qq_2_21 (fun _ _ => ?qr_2_21)
        case qr_2_21 => exact (rfl : (Value.bool false) = (Value.bool false))
        with_reducible refine quietAt_pick (.tmp 54) (.const (.bool true)) (.tmp 59) false (Value.bool false) ?h0_2_21 ?h1_2_21 ?h2_2_21
        case h0_2_21 => rfl
        case h1_2_21 => exact e54
        case h2_2_21 => rw [if_neg (by decide)]; exact e59
      · intro A w9 listed hh hall
        have hA := hh.frame
        have HU := hid hh.grown
        obtain ⟨x39, hx39⟩ : ∃ x, A.eval (.tmp 39) = x := ⟨_, rfl⟩
        have f39 : (fun v _ => v = (Value.agg [Value.int .u64 (S2 : Int), Value.int .i64 T2].toArray)) x39 w9 := by rw [← hx39]; exact hh.got 0 _ 39 rfl rfl (hall 0 (by decide))
        obtain ⟨x40, hx40⟩ : ∃ x, A.eval (.tmp 40) = x := ⟨_, rfl⟩
        have f40 : (fun v _ => v = (Value.pointer (some ⟨p1, 0, none⟩))) x40 w9 := by rw [← hx40]; exact hh.got 1 _ 40 rfl rfl (hall 1 (by decide))
        obtain ⟨x41, hx41⟩ : ∃ x, A.eval (.tmp 41) = x := ⟨_, rfl⟩
        have f41 : (fun v _ => v = (Value.agg [Value.int .i64 H, Value.int .u64 (l : Int)].toArray)) x41 w9 := by rw [← hx41]; exact hh.got 2 _ 41 rfl rfl (hall 2 (by decide))
        obtain ⟨x42, hx42⟩ : ∃ x, A.eval (.tmp 42) = x := ⟨_, rfl⟩
        have f42 : (fun v _ => v = (Value.pointer (some ⟨p1, 2, none⟩))) x42 w9 := by rw [← hx42]; exact hh.got 3 _ 42 rfl rfl (hall 3 (by decide))
        obtain ⟨x43, hx43⟩ : ∃ x, A.eval (.tmp 43) = x := ⟨_, rfl⟩
        have f43 : (fun v _ => v = (Value.agg [Value.int .u64 (s : Int), Value.int .i64 ta].toArray)) x43 w9 := by rw [← hx43]; exact hh.got 4 _ 43 rfl rfl (hall 4 (by decide))
        obtain ⟨x44, hx44⟩ : ∃ x, A.eval (.tmp 44) = x := ⟨_, rfl⟩
        have f44 : (fun v _ => v = (Value.int .i64 bt)) x44 w9 := by rw [← hx44]; exact hh.got 5 _ 44 rfl rfl (hall 5 (by decide))
        obtain ⟨x45, hx45⟩ : ∃ x, A.eval (.tmp 45) = x := ⟨_, rfl⟩
        have f45 : (fun v _ => v = (Value.agg [Value.int .u64 (S2 : Int), Value.int .i64 T2].toArray)) x45 w9 := by rw [← hx45]; exact hh.got 6 _ 45 rfl rfl (hall 6 (by decide))
        obtain ⟨x46, hx46⟩ : ∃ x, A.eval (.tmp 46) = x := ⟨_, rfl⟩
        have f46 : (fun v _ => v = (Value.bool false)) x46 w9 := by rw [← hx46]; exact hh.got 7 _ 46 rfl rfl (hall 7 (by decide))
        obtain ⟨x47, hx47⟩ : ∃ x, A.eval (.tmp 47) = x := ⟨_, rfl⟩
        have f47 : (fun v _ => v = (Value.bool false)) x47 w9 := by rw [← hx47]; exact hh.got 8 _ 47 rfl rfl (hall 8 (by decide))
        obtain ⟨x48, hx48⟩ : ∃ x, A.eval (.tmp 48) = x := ⟨_, rfl⟩
        have f48 : (fun v _ => v = (Value.pointer (some ⟨p1, 0, none⟩))) x48 w9 := by rw [← hx48]; exact hh.got 9 _ 48 rfl rfl (hall 9 (by decide))
        obtain ⟨x49, hx49⟩ : ∃ x, A.eval (.tmp 49) = x := ⟨_, rfl⟩
        have f49 : (fun v _ => v = (Value.agg [Value.int .i64 H, Value.int .u64 (l : Int)].toArray)) x49 w9 := by rw [← hx49]; exact hh.got 10 _ 49 rfl rfl (hall 10 (by decide))
        obtain ⟨x50, hx50⟩ : ∃ x, A.eval (.tmp 50) = x := ⟨_, rfl⟩
        have f50 : (fun v _ => v = (Value.agg [Value.int .u64 (S1 : Int), Value.int .i64 T1].toArray)) x50 w9 := by rw [← hx50]; exact hh.got 11 _ 50 rfl rfl (hall 11 (by decide))
        obtain ⟨x51, hx51⟩ : ∃ x, A.eval (.tmp 51) = x := ⟨_, rfl⟩
        have f51 : (fun v _ => v = (Value.bool true)) x51 w9 := by rw [← hx51]; exact hh.got 12 _ 51 rfl rfl (hall 12 (by decide))
        obtain ⟨x52, hx52⟩ : ∃ x, A.eval (.tmp 52) = x := ⟨_, rfl⟩
        have f52 : (fun v _ => v = (Value.bool false)) x52 w9 := by rw [← hx52]; exact hh.got 13 _ 52 rfl rfl (hall 13 (by decide))
        obtain ⟨x53, hx53⟩ : ∃ x, A.eval (.tmp 53) = x := ⟨_, rfl⟩
        have f53 : (fun v _ => v = (Value.bool false)) x53 w9 := by rw [← hx53]; exact hh.got 14 _ 53 rfl rfl (hall 14 (by decide))
        obtain ⟨x54, hx54⟩ : ∃ x, A.eval (.tmp 54) = x := ⟨_, rfl⟩
        have f54 : (fun v _ => v = (Value.bool false)) x54 w9 := by rw [← hx54]; exact hh.got 15 _ 54 rfl rfl (hall 15 (by decide))
        obtain ⟨x55, hx55⟩ : ∃ x, A.eval (.tmp 55) = x := ⟨_, rfl⟩
        have f55 : (fun v _ => v = (Value.pointer (some ⟨p1, 0, none⟩))) x55 w9 := by rw [← hx55]; exact hh.got 16 _ 55 rfl rfl (hall 16 (by decide))
        obtain ⟨x56, hx56⟩ : ∃ x, A.eval (.tmp 56) = x := ⟨_, rfl⟩
        have f56 : (fun v _ => v = (Value.agg [Value.int .i64 H, Value.int .u64 (l : Int)].toArray)) x56 w9 := by rw [← hx56]; exact hh.got 17 _ 56 rfl rfl (hall 17 (by decide))
        obtain ⟨x57, hx57⟩ : ∃ x, A.eval (.tmp 57) = x := ⟨_, rfl⟩
        have f57 : (fun v _ => v = (Value.agg [Value.int .u64 (S2 : Int), Value.int .i64 T2].toArray)) x57 w9 := by rw [← hx57]; exact hh.got 18 _ 57 rfl rfl (hall 18 (by decide))
        obtain ⟨x58, hx58⟩ : ∃ x, A.eval (.tmp 58) = x := ⟨_, rfl⟩
        have f58 : (fun v _ => v = (Value.bool true)) x58 w9 := by rw [← hx58]; exact hh.got 19 _ 58 rfl rfl (hall 19 (by decide))
        obtain ⟨x59, hx59⟩ : ∃ x, A.eval (.tmp 59) = x := ⟨_, rfl⟩
        have f59 : (fun v _ => v = (Value.bool false)) x59 w9 := by rw [← hx59]; exact hh.got 20 _ 59 rfl rfl (hall 20 (by decide))
        obtain ⟨x60, hx60⟩ : ∃ x, A.eval (.tmp 60) = x := ⟨_, rfl⟩
        have f60 : (fun v _ => v = (Value.bool false)) x60 w9 := by rw [← hx60]; exact hh.got 21 _ 60 rfl rfl (hall 21 (by decide))
        dsimp only [wrote, List.foldl] at hA
        rw [hx39, hx40, hx41, hx42, hx43, hx44, hx45, hx46, hx47, hx48, hx49, hx50, hx51, hx52, hx53, hx54, hx55, hx56, hx57, hx58, hx59, hx60] at hA
        clear hh hall hx39 hx40 hx41 hx42 hx43 hx44 hx45 hx46 hx47 hx48 hx49 hx50 hx51 hx52 hx53 hx54 hx55 hx56 hx57 hx58 hx59 hx60
        replace f39 := (f39 : x39 = (.agg [.int .u64 (S2 : Int), .int .i64 T2].toArray))
        subst f39
        replace f40 := (f40 : x40 = (.pointer (some ⟨p1, 0, none⟩)))
        subst f40
        replace f41 := (f41 : x41 = (.agg [.int .i64 H, .int .u64 (l : Int)].toArray))
        subst f41
        replace f42 := (f42 : x42 = (.pointer (some ⟨p1, 2, none⟩)))
        subst f42
        replace f43 := (f43 : x43 = (.agg [.int .u64 (s : Int), .int .i64 ta].toArray))
        subst f43
        replace f44 := (f44 : x44 = (.int .i64 bt))
        subst f44
        replace f45 := (f45 : x45 = (.agg [.int .u64 (S2 : Int), .int .i64 T2].toArray))
        subst f45
        replace f46 := (f46 : x46 = (.bool false))
        subst f46
        replace f47 := (f47 : x47 = (.bool false))
        subst f47
        replace f48 := (f48 : x48 = (.pointer (some ⟨p1, 0, none⟩)))
        subst f48
        replace f49 := (f49 : x49 = (.agg [.int .i64 H, .int .u64 (l : Int)].toArray))
        subst f49
        replace f50 := (f50 : x50 = (.agg [.int .u64 (S1 : Int), .int .i64 T1].toArray))
        subst f50
        replace f51 := (f51 : x51 = (.bool true))
        subst f51
        replace f52 := (f52 : x52 = (.bool false))
        subst f52
        replace f53 := (f53 : x53 = (.bool false))
        subst f53
        replace f54 := (f54 : x54 = (.bool false))
        subst f54
        replace f55 := (f55 : x55 = (.pointer (some ⟨p1, 0, none⟩)))
        subst f55
        replace f56 := (f56 : x56 = (.agg [.int .i64 H, .int .u64 (l : Int)].toArray))
        subst f56
        replace f57 := (f57 : x57 = (.agg [.int .u64 (S2 : Int), .int .i64 T2].toArray))
        subst f57
        replace f58 := (f58 : x58 = (.bool true))
        subst f58
        replace f59 := (f59 : x59 = (.bool false))
        subst f59
        replace f60 := (f60 : x60 = (.bool false))
        subst f60
        subst hA
        show wpList _ _ _ [] _ _
        unfold wpList
        simp only [Act.put, List.setIfInBounds_toArray, List.set_cons_succ, List.set_cons_zero]
        have HB9 := hid (HB8.out.keep HU.out)
        have HX9 := hid (HX8.out.keep HU.out)
        have HY9 := hid (HY8.out.keep HU.out)
        have HG9 := hid (gtrans HG8.out HU.out)
        clear HB8 HX8 HY8 HG8 HU HN1 HN2 HN3
        have y0 := HY9.out.cell 0
        go_wp2_with (first
          | (have := HB9; clear this; (with_reducible refine wpList_load_part (by with_unfolding_all rfl) 28 _ (by with_unfolding_all rfl) _ 0 [.int .i64 H, .int .u64 (l : Int)] _ (by with_unfolding_all rfl) (HB9.out.range [] [.int .i64 H, .int .u64 (l : Int)] [.int .u64 (s : Int), .int .i64 ta, .int .i64 at1, .int .i64 bt] 0 rfl rfl) Try.underlying28 (by with_unfolding_all rfl) (by with_unfolding_all exact Try.size28) ?_))
          | (have := HB9; clear this; (with_reducible refine wpList_load_part (by with_unfolding_all rfl) 37 _ (by with_unfolding_all rfl) _ 2 [.int .u64 (s : Int), .int .i64 ta] _ (by with_unfolding_all rfl) (HB9.out.range [.int .i64 H, .int .u64 (l : Int)] [.int .u64 (s : Int), .int .i64 ta] [.int .i64 at1, .int .i64 bt] 2 rfl rfl) Try.underlying37 (by with_unfolding_all rfl) (by with_unfolding_all exact Try.size37) ?_)))
        clear y0
        refine (HFl.out _).mono ?_
        rintro e w10 ⟨rfl, hg⟩
        have HB10 := hid (HB9.out.keep hg)
        have HX10 := hid (HX9.out.keep hg)
        have HY10 := hid (HY9.out.keep hg)
        have HG10 := hid (gtrans HG9.out hg)
        clear hg HB9 HX9 HY9 HG9
        go_upto_region 13 with (first
          | (have := HG11; clear this; (with_reducible refine wpList_store_all (by with_unfolding_all rfl) 37 _ _ (by with_unfolding_all rfl) _ [.int .u64 0, .int .i64 0] [.int .u64 (SF : Int), .int .i64 T2] 37 (by with_unfolding_all rfl) (by with_unfolding_all rfl) HF11.out (by with_unfolding_all rfl) (by with_unfolding_all exact Try.size37) (one2 _ _ _ _) ?_); intro w12 B12 g12 s12; have HF12 := hid B12; have HB12 := hid (HB11.out.on g12 (by have := HB10.out.lt; simp; omega)); have HX12 := hid (HX11.out.on g12 (by have := HX10.out.lt; simp; omega)); have HY12 := hid (HY11.out.on g12 (by have := HY10.out.lt; simp; omega)); have HG12 := hid (HG11.out.andThen g12 (fun j hj => .inl (by injection hj with hj; have := HG10.out.size; omega))); clear B12 g12 s12)
          | ((with_reducible refine wpList_alloc_row (by with_unfolding_all rfl) 37 (by with_unfolding_all rfl) [.int .u64 0, .int .i64 0] Try.zero37 ?_); intro w11 B11 s11 g11; have HF11 := hid B11; have HB11 := hid (HB10.out.keep g11); have HX11 := hid (HX10.out.keep g11); have HY11 := hid (HY10.out.keep g11); have HG11 := hid (gtrans HG10.out g11); clear B11 s11 g11))
        obtain ⟨p8, hp⟩ : ∃ x, w10.heap.size = x := ⟨_, rfl⟩
        rw [hp] at HF12
        simp only [hp]
        clear hp HB11 HB10 HX11 HX10 HY11 HY10 HF11 HG11 HG10 
        go_wp2_with (first
          | (have := HB12; clear this; (with_reducible refine wpList_load_part (by with_unfolding_all rfl) 28 _ (by with_unfolding_all rfl) _ 0 [.int .i64 H, .int .u64 (l : Int)] _ (by with_unfolding_all rfl) (HB12.out.range [] [.int .i64 H, .int .u64 (l : Int)] [.int .u64 (s : Int), .int .i64 ta, .int .i64 at1, .int .i64 bt] 0 rfl rfl) Try.underlying28 (by with_unfolding_all rfl) (by with_unfolding_all exact Try.size28) ?_))
          | (have := HB12; clear this; (with_reducible refine wpList_load_part (by with_unfolding_all rfl) 37 _ (by with_unfolding_all rfl) _ 2 [.int .u64 (s : Int), .int .i64 ta] _ (by with_unfolding_all rfl) (HB12.out.range [.int .i64 H, .int .u64 (l : Int)] [.int .u64 (s : Int), .int .i64 ta] [.int .i64 at1, .int .i64 bt] 2 rfl rfl) Try.underlying37 (by with_unfolding_all rfl) (by with_unfolding_all exact Try.size37) ?_)))
        refine (HPs.out _).mono ?_
        rintro e w13 ⟨rfl, hg⟩
        have HB13 := hid (HB12.out.keep hg)
        have HX13 := hid (HX12.out.keep hg)
        have HY13 := hid (HY12.out.keep hg)
        have HF13 := hid (HF12.out.keep hg)
        have HG13 := hid (gtrans HG12.out hg)
        clear hg HB12 HX12 HY12 HF12 HG12
        go_upto_region 14 with (first
          | (have := HG14; clear this; (with_reducible refine wpList_store_all (by with_unfolding_all rfl) 37 _ _ (by with_unfolding_all rfl) _ [.int .u64 0, .int .i64 0] [.int .u64 (SQ : Int), .int .i64 T2] 37 (by with_unfolding_all rfl) (by with_unfolding_all rfl) HQ14.out (by with_unfolding_all rfl) (by with_unfolding_all exact Try.size37) (one2 _ _ _ _) ?_); intro w15 B15 g15 s15; have HQ15 := hid B15; have HB15 := hid (HB14.out.on g15 (by have := HB13.out.lt; simp; omega)); have HX15 := hid (HX14.out.on g15 (by have := HX13.out.lt; simp; omega)); have HY15 := hid (HY14.out.on g15 (by have := HY13.out.lt; simp; omega)); have HF15 := hid (HF14.out.on g15 (by have := HF13.out.lt; simp; omega)); have HG15 := hid (HG14.out.andThen g15 (fun j hj => .inl (by injection hj with hj; have := HG13.out.size; omega))); clear B15 g15 s15)
          | ((with_reducible refine wpList_alloc_row (by with_unfolding_all rfl) 37 (by with_unfolding_all rfl) [.int .u64 0, .int .i64 0] Try.zero37 ?_); intro w14 B14 s14 g14; have HQ14 := hid B14; have HB14 := hid (HB13.out.keep g14); have HX14 := hid (HX13.out.keep g14); have HY14 := hid (HY13.out.keep g14); have HF14 := hid (HF13.out.keep g14); have HG14 := hid (gtrans HG13.out g14); clear B14 s14 g14))
        obtain ⟨p9, hp⟩ : ∃ x, w13.heap.size = x := ⟨_, rfl⟩
        rw [hp] at HQ15
        simp only [hp]
        clear hp HB14 HB13 HX14 HX13 HY14 HY13 HF14 HF13 HQ14 HG14 HG13 
        go_wp2_with (first
          | (have := HB15; clear this; (with_reducible refine wpList_load_part (by with_unfolding_all rfl) 28 _ (by with_unfolding_all rfl) _ 0 [.int .i64 H, .int .u64 (l : Int)] _ (by with_unfolding_all rfl) (HB15.out.range [] [.int .i64 H, .int .u64 (l : Int)] [.int .u64 (s : Int), .int .i64 ta, .int .i64 at1, .int .i64 bt] 0 rfl rfl) Try.underlying28 (by with_unfolding_all rfl) (by with_unfolding_all exact Try.size28) ?_))
          | (have := HF15; clear this; (with_reducible refine wpList_load_part (by with_unfolding_all rfl) 37 _ (by with_unfolding_all rfl) _ 0 [.int .u64 (SF : Int), .int .i64 T2] _ (by with_unfolding_all rfl) HF15.out.whole Try.underlying37 (by with_unfolding_all rfl) (by with_unfolding_all exact Try.size37) ?_)))
        refine (HF3.out _).mono ?_
        rintro e w16 ⟨rfl, hg⟩
        have HB16 := hid (HB15.out.keep hg)
        have HX16 := hid (HX15.out.keep hg)
        have HY16 := hid (HY15.out.keep hg)
        have HF16 := hid (HF15.out.keep hg)
        have HQ16 := hid (HQ15.out.keep hg)
        have HG16 := hid (gtrans HG15.out hg)
        clear hg HB15 HX15 HY15 HF15 HQ15 HG15
        go_wp2_with (first
          | (have := HB16; clear this; (with_reducible refine wpList_load_partW (by with_unfolding_all rfl) 28 _ (by with_unfolding_all rfl) _ 0 [.int .i64 H, .int .u64 (l : Int)] _ (by with_unfolding_all rfl) (HB16.out.range [] [.int .i64 H, .int .u64 (l : Int)] [.int .u64 (s : Int), .int .i64 ta, .int .i64 at1, .int .i64 bt] 0 rfl rfl) Try.underlying28 (by with_unfolding_all rfl) (by with_unfolding_all exact Try.size28) ?_))
          | (have := HQ16; clear this; (with_reducible refine wpList_load_partW (by with_unfolding_all rfl) 37 _ (by with_unfolding_all rfl) _ 0 [.int .u64 (SQ : Int), .int .i64 T2] _ (by with_unfolding_all rfl) HQ16.out.whole Try.underlying37 (by with_unfolding_all rfl) (by with_unfolding_all exact Try.size37) ?_)))
        refine (HF4.out _).mono ?_
        rintro e w17 ⟨rfl, hg⟩
        have HB17 := hid (HB16.out.keep hg)
        have HX17 := hid (HX16.out.keep hg)
        have HY17 := hid (HY16.out.keep hg)
        have HF17 := hid (HF16.out.keep hg)
        have HQ17 := hid (HQ16.out.keep hg)
        have HG17 := hid (gtrans HG16.out hg)
        clear hg HB16 HX16 HY16 HF16 HQ16 HG16
        have y1 := HY17.out.cell 1
        have f1 := HF17.out.cell 1
        have q1 := HQ17.out.cell 1
        have f0 := HF17.out.cell 0
        have q0 := HQ17.out.cell 0
        have x0 := HX17.out.cell 0
        by_cases hgt : 4831355200913801216 < S2
        · have HG1 : Hid (∀ (x y : Operand) (u : World), (do eqGuard .gtr 49 x y (.float .f64 S2) (.float .f64 4831355200913801216); binOp .gtr 49 (.float .f64 S2) (.float .f64 4831355200913801216) : Sem Value).run Try.prog u = .ok (.bool true) u) := hid (fun x y u => gtr49 HS2.out (by unfold Fnt; omega) (decide_eq_true hgt) u)
          clear hgt
          go_wp2_with (first
            | ((with_reducible refine wpList_binW (by with_unfolding_all rfl) .leq 49 _ _ 49 (by with_unfolding_all rfl) (.float .f64 S2) (.float .f64 S1) (.bool true) (by with_unfolding_all rfl) (by with_unfolding_all rfl) (HL1.out _ _ _) ?_))
            | ((with_reducible refine wpList_binW (by with_unfolding_all rfl) .geq 49 _ _ 49 (by with_unfolding_all rfl) (.float .f64 SF) (.float .f64 S2) (.bool true) (by with_unfolding_all rfl) (by with_unfolding_all rfl) (HL2.out _ _ _) ?_))
            | ((with_reducible refine wpList_binW (by with_unfolding_all rfl) .leq 49 _ _ 49 (by with_unfolding_all rfl) (.float .f64 SQ) (.float .f64 S2) (.bool true) (by with_unfolding_all rfl) (by with_unfolding_all rfl) (HL3.out _ _ _) ?_))
            | ((with_reducible refine wpList_binW (by with_unfolding_all rfl) .gtr 49 _ _ 49 (by with_unfolding_all rfl) (.float .f64 S2) (.float .f64 4831355200913801216) (.bool true) (by with_unfolding_all rfl) (by with_unfolding_all rfl) (HG1.out _ _ _) ?_)))
          refine (wakes_any _).mono ?_
          rintro e w18 ⟨rfl, hg⟩
          have HG18 := hid (gtrans HG17.out hg)
          go_wp2_with fail
          go_ret
          exact ⟨rfl, HG18.out⟩
        · have HG1 : Hid (∀ (x y : Operand) (u : World), (do eqGuard .gtr 49 x y (.float .f64 S2) (.float .f64 4831355200913801216); binOp .gtr 49 (.float .f64 S2) (.float .f64 4831355200913801216) : Sem Value).run Try.prog u = .ok (.bool false) u) := hid (fun x y u => gtr49 HS2.out (by unfold Fnt; omega) (decide_eq_false hgt) u)
          have HG2 : Hid (∀ (x y : Operand) (u : World), (do eqGuard .gtr 49 x y (.float .f64 SF) (.float .f64 S2); binOp .gtr 49 (.float .f64 SF) (.float .f64 S2) : Sem Value).run Try.prog u = .ok (.bool true) u) := hid (fun x y u => gtr49 HSF.out HS2.out (decide_eq_true (HUp.out (by omega))) u)
          clear hgt
          go_wp2_with (first
            | ((with_reducible refine wpList_binW (by with_unfolding_all rfl) .leq 49 _ _ 49 (by with_unfolding_all rfl) (.float .f64 S2) (.float .f64 S1) (.bool true) (by with_unfolding_all rfl) (by with_unfolding_all rfl) (HL1.out _ _ _) ?_))
            | ((with_reducible refine wpList_binW (by with_unfolding_all rfl) .geq 49 _ _ 49 (by with_unfolding_all rfl) (.float .f64 SF) (.float .f64 S2) (.bool true) (by with_unfolding_all rfl) (by with_unfolding_all rfl) (HL2.out _ _ _) ?_))
            | ((with_reducible refine wpList_binW (by with_unfolding_all rfl) .leq 49 _ _ 49 (by with_unfolding_all rfl) (.float .f64 SQ) (.float .f64 S2) (.bool true) (by with_unfolding_all rfl) (by with_unfolding_all rfl) (HL3.out _ _ _) ?_))
            | ((with_reducible refine wpList_binW (by with_unfolding_all rfl) .gtr 49 _ _ 49 (by with_unfolding_all rfl) (.float .f64 S2) (.float .f64 4831355200913801216) (.bool false) (by with_unfolding_all rfl) (by with_unfolding_all rfl) (HG1.out _ _ _) ?_))
            | ((with_reducible refine wpList_binW (by with_unfolding_all rfl) .gtr 49 _ _ 49 (by with_unfolding_all rfl) (.float .f64 SF) (.float .f64 S2) (.bool true) (by with_unfolding_all rfl) (by with_unfolding_all rfl) (HG2.out _ _ _) ?_)))
          refine (wakes_any _).mono ?_
          rintro e w18 ⟨rfl, hg⟩
          have HG18 := hid (gtrans HG17.out hg)
          go_wp2_with fail
          go_ret
          exact ⟨rfl, HG18.out⟩
end Go.Proofs.Ytnbcplpmpocbpaa
