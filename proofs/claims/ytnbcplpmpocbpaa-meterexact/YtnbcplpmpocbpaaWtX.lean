/- MeterWaits: its walk. -/
import Derived.Test.YtnbcplpmpocbpaaRwX
namespace Go.Proofs.Ytnbcplpmpocbpaa
open Go Go.RowKit
open Go.RowKit (wrap32 wrap64)

section
variable {P : Program} {ops : Array Oper} {rest : List Oper} {o : Oper} {a : Act} {w : World} {Q : Exit → Act → World → Prop}
theorem wpList_load_partW (hw : Region.wanted o (yielded ops a.tmps) = true) (ty : TypeId) (x : Operand) (ho : o.op = .load ty x) (b off : Nat) (vs : List Value) (d : TypeDesc) (hx : a.eval x = .pointer (some ⟨b, off, none⟩)) (hc : w.rangeAt b off vs)
    (hu : P.underlying ty = some d) (hd : d.isRow = true) (hi : (P.info? ty).map (·.size) = some vs.length)
    (h : wpList P ops Q rest (a.put o.dst (.agg vs.toArray)) w) : wpList P ops Q (o :: rest) a w :=
  wpList_want hw fun _ hK => wp_load_mid ty x ho b off hx vs d hc hu hd hi (hK _ _ h)
theorem wpList_binW (hw : Region.wanted o (yielded ops a.tmps) = true) (op : BinOp) (t : TypeId) (x y : Operand) (ty : TypeId) (ho : o.op = .binOp op t x y ty) (vx vy v : Value) (hx : a.eval x = vx) (hy : a.eval y = vy) (hr : (do eqGuard op t x y vx vy; binOp op t vx vy : Sem Value).run P w = .ok v w)
    (h : wpList P ops Q rest (a.put o.dst v) w) : wpList P ops Q (o :: rest) a w :=
  wpList_want hw fun _ hK => by
    subst hx hy
    unfold Oper.wp execOp
    simp only [ho]
    rw [Sem.run_bind, hr]
    exact hK _ _ h
end
theorem nowS_le {H ta now : Int} {s : Nat} (h : now ≤ ta) : nowS H s ta now = s := by unfold nowS; rw [if_pos h]
theorem nowA_le {H ta now : Int} (h : now ≤ ta) : nowA H ta now = ta := by unfold nowA; rw [if_pos h]
theorem nowS_gt {H ta now : Int} {s : Nat} (h : ta < now) : nowS H s ta now = hfN (nowK H ta now).toNat s := by unfold nowS; rw [if_neg (by omega)]
theorem nowA_gt {H ta now : Int} (h : ta < now) : nowA H ta now = ta + nowK H ta now * max H 1 := by unfold nowA; rw [if_neg (by omega)]
theorem nowK_sub {H ta now : Int} (K : Int) : nowK H (ta + K * max H 1) now = nowK H ta now - K := by
  unfold nowK
  rw [show now - (ta + K * max H 1) = now - ta + -K * max H 1 by rw [Int.neg_mul]; omega, Int.add_mul_ediv_right _ _ (by omega)]
  omega
/-- Now of Now. -/
theorem later_S {H ta now b : Int} {s : Nat} (h : now ≤ b) : nowS H (nowS H s ta now) (nowA H ta now) b = nowS H s ta b ∧ nowA H (nowA H ta now) b = nowA H ta b := by
  by_cases h1 : now ≤ ta
  · rw [nowS_le h1, nowA_le h1]; exact ⟨rfl, rfl⟩
  · have hk := nowK_bd (H := H) (show ta < now by omega)
    have hk2 := nowK_bd (H := H) (show ta < b by omega)
    rw [nowS_gt (H := H) (s := s) (ta := ta) (now := now) (by omega), nowA_gt (H := H) (ta := ta) (now := now) (by omega), nowS_gt (H := H) (s := s) (show ta < b by omega), nowA_gt (H := H) (show ta < b by omega)]
    by_cases h2 : b ≤ ta + nowK H ta now * max H 1
    · have e : b = now := by omega
      subst e
      rw [nowS_le h2, nowA_le h2]
      exact ⟨rfl, rfl⟩
    · have hk3 := nowK_bd (H := H) (show ta + nowK H ta now * max H 1 < b by omega)
      rw [nowS_gt (by omega), nowA_gt (by omega), nowK_sub]
      rw [nowK_sub] at hk3
      refine ⟨?_, ?_⟩
      · rw [← hfN_add]
        congr 1
        omega
      · rw [Int.sub_mul]; omega
theorem nowS_end {H T : Int} {S k : Nat} : nowS H S T (T + k * max H 1) = hfN k S := by
  have hM : 0 < max H 1 := by omega
  by_cases h : k = 0
  · subst h; rw [nowS_le (by omega)]; rfl
  · have : 0 < (k : Int) * max H 1 := Int.mul_pos (by omega) hM
    rw [nowS_gt (by omega)]
    congr 1
    unfold nowK
    rw [show T + (k : Int) * max H 1 - T = k * max H 1 by omega, Int.mul_ediv_cancel _ (by omega)]
    omega
theorem nowS_ahead {H T : Int} {S k : Nat} (hk : 1 ≤ k) : nowS H S T (T + k * max H 1 - 1) = hfN (k - 1) S := by
  obtain ⟨M, hM⟩ : ∃ M, max H 1 = M := ⟨_, rfl⟩
  have hM0 : 0 < M := by omega
  obtain ⟨j, rfl⟩ : ∃ j, k = j + 1 := ⟨k - 1, by omega⟩
  have e : ((j + 1 : Nat) : Int) * M = j * M + M := by rw [show ((j + 1 : Nat) : Int) = (j : Int) + 1 by omega, Int.add_mul, Int.one_mul]
  have hj : 0 ≤ (j : Int) * M := Int.mul_nonneg (by omega) (by omega)
  rw [hM, e, Nat.add_sub_cancel]
  by_cases h : T + ((j : Int) * M + M) - 1 ≤ T
  · rw [nowS_le h]
    have : j = 0 := by
      rcases Nat.eq_zero_or_pos j with h0 | h0
      · exact h0
      · have : 0 < (j : Int) * M := Int.mul_pos (by omega) hM0
        omega
    subst this; rfl
  · rw [nowS_gt (by omega)]
    congr 1
    unfold nowK
    rw [hM, show T + ((j : Int) * M + M) - 1 - T = (M - 1) + j * M by omega, Int.add_mul_ediv_right _ _ (by omega), Int.ediv_eq_zero_of_lt (by omega) (by omega)]
    omega
theorem fnB_true {H : Int} {l s : Nat} (h : fnB H l s = true) : 1 ≤ H ∧ 4607182418800017408 ≤ l ∧ Fnt l ∧ Fnt s := by
  unfold fnB ckB at h
  simp only [Bool.and_eq_true, decide_eq_true_eq] at h
  exact ⟨h.1.1, h.1.2.1, h.1.2.2, h.2⟩
/-- What Wait promises. -/
theorem wait_no {H : Int} {l s : Nat} {ta now x : Int} (h : waitIs H l s ta now x false) : x = 0 ∧ l ≤ nowS H s ta now := by
  rcases h with ⟨_, _, h⟩ | ⟨h, k, _, ⟨_, _, _, h2⟩ | ⟨_, h2, _⟩⟩
  · cases h
  · cases h2
  · exact ⟨h2, h⟩
theorem wait_yes {H : Int} {l s : Nat} {ta now x : Int} (h1 : -9223372036854775808 ≤ ta) (h2 : ta ≤ 9223372036854775807) (h3 : now ≤ 9223372036854775807) (h : waitIs H l s ta now x true) :
    (x = 0 ∧ ¬ l ≤ nowS H s ta now) ∨ (0 < x ∧ x ≤ 9223372036854775807 ∧ now + x ≤ 9223372036854775807 ∧ l ≤ nowS H s ta now ∧ ¬ l ≤ nowS H s ta (now + x) ∧ l ≤ nowS H s ta (now + x - 1)) := by
  rcases h with ⟨h, h', _⟩ | ⟨h, k, hk, ⟨a1, a2, a3, _⟩ | ⟨_, _, h2⟩⟩
  · exact .inl ⟨h', by omega⟩
  · right
    have hb := nowA_bd (H := H) h1 h2 h3
    have hk1 : 1 ≤ k := by
      rcases Nat.eq_zero_or_pos k with h0 | h0
      · subst h0
        have := hk.2
        have e : hfN 0 (nowS H s ta now) = nowS H s ta now := rfl
        omega
      · exact h0
    have hM : (1 : Int) * max H 1 ≤ (k : Int) * max H 1 := Int.mul_le_mul_of_nonneg_right (by omega) (by omega)
    have e1 : now + x = nowA H ta now + k * max H 1 := by omega
    refine ⟨by omega, by omega, by omega, h, ?_, ?_⟩
    · rw [← (later_S (H := H) (ta := ta) (s := s) (now := now) (b := now + x) (by omega)).1, e1, nowS_end]
      have := hk.2
      omega
    · rw [← (later_S (H := H) (ta := ta) (s := s) (now := now) (b := now + x - 1) (by omega)).1, e1, nowS_ahead hk1]
      exact hk.1 _ (by omega)
  · cases h2
theorem one6 (h l s ta a b : Int) : ∀ v ∈ [Value.int .i64 h, .int .u64 l, .int .u64 s, .int .i64 ta, .int .i64 a, .int .i64 b], v.oneCell' = true := by
  intro v hv
  simp at hv
  rcases hv with rfl | rfl | rfl | rfl | rfl | rfl <;> rfl
set_option maxRecDepth 100000 in
set_option maxHeartbeats 3200000 in
theorem waits_walk (w : World) (p : Int × Nat) (s : Nat) (ta at1 bt : Int) (hp : lkOk p) (hs : s < 18446744073709551616) (hta : -9223372036854775808 ≤ ta ∧ ta ≤ 9223372036854775807) (hat : -9223372036854775808 ≤ at1 ∧ at1 ≤ 9223372036854775807) (_hbt : -9223372036854775808 ≤ bt ∧ bt ≤ 9223372036854775807) :
    Calls Try.prog 7 #[.agg #[.int .i64 p.1, .int .u64 (p.2 : Int), .int .u64 (s : Int), .int .i64 ta, .int .i64 at1, .int .i64 bt]] w fun e w' => e = .returned (.bool true) ∧ w.grownBy w' none := by
  obtain ⟨H, l⟩ := p
  show Calls Try.prog 7 #[.agg #[.int .i64 H, .int .u64 (l : Int), .int .u64 (s : Int), .int .i64 ta, .int .i64 at1, .int .i64 bt]] w _
  obtain ⟨j1, j2, j3⟩ := hp
  have HFn := hid (fun u => lfine_any H l s ta j3 hs u)
  have HWt := hid (fun u => wait_any H l s ta at1 u j2 hta.1 hta.2 hat.2 hat.1)
  have HLk := hid (fun (now : Int) (hn : now ≤ 9223372036854775807) (g : Bool) (h1 : Fnt s) (h2 : Fnt l) (hg : decide (l ≤ nowS H s ta now) = g) u => locked_fin H l s ta now g u j2 hta.1 hta.2 hn h1 h2 hg)
  have HFt : Hid (fnB H l s = true → 1 ≤ H ∧ 4607182418800017408 ≤ l ∧ Fnt l ∧ Fnt s) := hid fnB_true
  have HTA := hid hta
  have HAT := hid hat
  obtain ⟨g, hg⟩ : ∃ g, fnB H l s = g := ⟨_, rfl⟩
  rw [hg] at HFn HFt
  clear hg j1 j2 j3 hs hta hat
  go_enter Try.func7, Try.ntmps7
  go_wp2_with (first
    | (have := HB1; clear this; (with_reducible refine wpList_load_part (by with_unfolding_all rfl) 37 _ (by with_unfolding_all rfl) _ 2 [.int .u64 (s : Int), .int .i64 ta] _ (by with_unfolding_all rfl) (HB1.out.range [.int .i64 H, .int .u64 (l : Int)] [.int .u64 (s : Int), .int .i64 ta] [.int .i64 at1, .int .i64 bt] 2 rfl rfl) Try.underlying37 (by with_unfolding_all rfl) (by with_unfolding_all exact Try.size37) ?_))
    | (have := HB1; clear this; (with_reducible refine wpList_load_part (by with_unfolding_all rfl) 28 _ (by with_unfolding_all rfl) _ 0 [.int .i64 H, .int .u64 (l : Int)] _ (by with_unfolding_all rfl) (HB1.out.range [] [.int .i64 H, .int .u64 (l : Int)] [.int .u64 (s : Int), .int .i64 ta, .int .i64 at1, .int .i64 bt] 0 rfl rfl) Try.underlying28 (by with_unfolding_all rfl) (by with_unfolding_all exact Try.size28) ?_))
    | ((with_reducible refine wpList_box_row (by with_unfolding_all rfl) 47 _ (by with_unfolding_all rfl) [.int .i64 H, .int .u64 (l : Int), .int .u64 (s : Int), .int .i64 ta, .int .i64 at1, .int .i64 bt] (by with_unfolding_all rfl) ?_); intro w1 B1 s1 g1; have HB1 := hid B1; have HG1 := hid g1; clear B1 s1 g1))
  refine (HFn.out _).mono ?_
  rintro e w2 ⟨rfl, hg⟩
  have HB2 := hid (HB1.out.keep hg)
  have HG2 := hid (gtrans HG1.out hg)
  have x0 := HB2.out.cell 0
  have x1 := HB2.out.cell 1
  have x2 := HB2.out.cell 2
  have x3 := HB2.out.cell 3
  have x4 := HB2.out.cell 4
  have x5 := HB2.out.cell 5
  clear hg
  cases g with
  | false =>
    go_wp2_with fail
    refine (wakes_any _).mono ?_
    rintro e w9 ⟨rfl, hg9⟩
    have HG9 := hid (gtrans HG2.out hg9)
    go_wp2_with fail
    go_ret
    exact ⟨rfl, HG9.out⟩
  | true =>
    obtain ⟨f1, f2, f3, f4⟩ := HFt.out rfl
    have HF3 := hid f3
    have HF4 := hid f4
    have HL0 : Hid (0 < l) := hid (by omega)
    clear f1 f2 f3 f4
    go_wp2_with (first
      | (have := HB2; clear this; (with_reducible refine wpList_load_part (by with_unfolding_all rfl) 28 _ (by with_unfolding_all rfl) _ 0 [.int .i64 H, .int .u64 (l : Int)] _ (by with_unfolding_all rfl) (HB2.out.range [] [.int .i64 H, .int .u64 (l : Int)] [.int .u64 (s : Int), .int .i64 ta, .int .i64 at1, .int .i64 bt] 0 rfl rfl) Try.underlying28 (by with_unfolding_all rfl) (by with_unfolding_all exact Try.size28) ?_))
      | (have := HB2; clear this; (with_reducible refine wpList_load_part (by with_unfolding_all rfl) 37 _ (by with_unfolding_all rfl) _ 2 [.int .u64 (s : Int), .int .i64 ta] _ (by with_unfolding_all rfl) (HB2.out.range [.int .i64 H, .int .u64 (l : Int)] [.int .u64 (s : Int), .int .i64 ta] [.int .i64 at1, .int .i64 bt] 2 rfl rfl) Try.underlying37 (by with_unfolding_all rfl) (by with_unfolding_all exact Try.size37) ?_)))
    clear x0 x1 x2 x3 x4 x5
    refine (HWt.out _).mono ?_
    rintro e w3 ⟨x, b, rfl, hw, hg⟩
    have HB3 := hid (HB2.out.keep hg)
    have HG3 := hid (gtrans HG2.out hg)
    have x0 := HB3.out.cell 0
    have x1 := HB3.out.cell 1
    have x2 := HB3.out.cell 2
    have x3 := HB3.out.cell 3
    have x4 := HB3.out.cell 4
    have x5 := HB3.out.cell 5
    clear hg
    have HW := hid (hw HF4.out HF3.out HL0.out)
    clear hw HB1 HB2 HG1 HG2
    cases b with
    | false =>
      obtain ⟨rfl, hle⟩ := wait_no HW.out
      have HL1 := hid (fun u => HLk.out at1 HAT.out.2 true HF4.out HF3.out (decide_eq_true hle) u)
      clear hle
      go_wp2_with (first
        | (have := HB3; clear this; (with_reducible refine wpList_load_partW (by with_unfolding_all rfl) 28 _ (by with_unfolding_all rfl) _ 0 [.int .i64 H, .int .u64 (l : Int)] _ (by with_unfolding_all rfl) (HB3.out.range [] [.int .i64 H, .int .u64 (l : Int)] [.int .u64 (s : Int), .int .i64 ta, .int .i64 at1, .int .i64 bt] 0 rfl rfl) Try.underlying28 (by with_unfolding_all rfl) (by with_unfolding_all exact Try.size28) ?_))
        | (have := HB3; clear this; (with_reducible refine wpList_load_partW (by with_unfolding_all rfl) 37 _ (by with_unfolding_all rfl) _ 2 [.int .u64 (s : Int), .int .i64 ta] _ (by with_unfolding_all rfl) (HB3.out.range [.int .i64 H, .int .u64 (l : Int)] [.int .u64 (s : Int), .int .i64 ta] [.int .i64 at1, .int .i64 bt] 2 rfl rfl) Try.underlying37 (by with_unfolding_all rfl) (by with_unfolding_all exact Try.size37) ?_)))
      clear x0 x1 x2 x3 x4 x5
      refine (HL1.out _).mono ?_
      rintro e w4 ⟨rfl, hg⟩
      have HB4 := hid (HB3.out.keep hg)
      have HG4 := hid (gtrans HG3.out hg)
      have x0 := HB4.out.cell 0
      have x1 := HB4.out.cell 1
      have x2 := HB4.out.cell 2
      have x3 := HB4.out.cell 3
      have x4 := HB4.out.cell 4
      have x5 := HB4.out.cell 5
      clear hg
      go_wp2_with fail
      refine (wakes_any _).mono ?_
      rintro e w9 ⟨rfl, hg9⟩
      have HG9 := hid (gtrans HG4.out hg9)
      go_wp2_with fail
      go_ret
      exact ⟨rfl, HG9.out⟩
    | true =>
      have hat1 := HAT.out.1
      have hat2 := HAT.out.2
      rcases wait_yes HTA.out.1 HTA.out.2 HAT.out.2 HW.out with ⟨rfl, hle⟩ | ⟨q1, q2, q3, q4, q5, q6⟩
      · have HL1 := hid (fun u => HLk.out at1 HAT.out.2 false HF4.out HF3.out (decide_eq_false hle) u)
        clear hle HW
        by_cases ha0 : 0 < at1
        · go_wp2_with (first
            | (have := HB3; clear this; (with_reducible refine wpList_load_partW (by with_unfolding_all rfl) 28 _ (by with_unfolding_all rfl) _ 0 [.int .i64 H, .int .u64 (l : Int)] _ (by with_unfolding_all rfl) (HB3.out.range [] [.int .i64 H, .int .u64 (l : Int)] [.int .u64 (s : Int), .int .i64 ta, .int .i64 at1, .int .i64 bt] 0 rfl rfl) Try.underlying28 (by with_unfolding_all rfl) (by with_unfolding_all exact Try.size28) ?_))
            | (have := HB3; clear this; (with_reducible refine wpList_load_partW (by with_unfolding_all rfl) 37 _ (by with_unfolding_all rfl) _ 2 [.int .u64 (s : Int), .int .i64 ta] _ (by with_unfolding_all rfl) (HB3.out.range [.int .i64 H, .int .u64 (l : Int)] [.int .u64 (s : Int), .int .i64 ta] [.int .i64 at1, .int .i64 bt] 2 rfl rfl) Try.underlying37 (by with_unfolding_all rfl) (by with_unfolding_all exact Try.size37) ?_)))
          all_goals (try omega)
          clear x0 x1 x2 x3 x4 x5
          refine (HL1.out _).mono ?_
          rintro e w4 ⟨rfl, hg⟩
          have HB4 := hid (HB3.out.keep hg)
          have HG4 := hid (gtrans HG3.out hg)
          have x0 := HB4.out.cell 0
          have x1 := HB4.out.cell 1
          have x2 := HB4.out.cell 2
          have x3 := HB4.out.cell 3
          have x4 := HB4.out.cell 4
          have x5 := HB4.out.cell 5
          clear hg
          go_wp2_with fail
          refine (wakes_any _).mono ?_
          rintro e w9 ⟨rfl, hg9⟩
          have HG9 := hid (gtrans HG4.out hg9)
          go_wp2_with fail
          go_ret
          exact ⟨rfl, HG9.out⟩
        · go_wp2_with (first
            | (have := HB3; clear this; (with_reducible refine wpList_load_partW (by with_unfolding_all rfl) 28 _ (by with_unfolding_all rfl) _ 0 [.int .i64 H, .int .u64 (l : Int)] _ (by with_unfolding_all rfl) (HB3.out.range [] [.int .i64 H, .int .u64 (l : Int)] [.int .u64 (s : Int), .int .i64 ta, .int .i64 at1, .int .i64 bt] 0 rfl rfl) Try.underlying28 (by with_unfolding_all rfl) (by with_unfolding_all exact Try.size28) ?_))
            | (have := HB3; clear this; (with_reducible refine wpList_load_partW (by with_unfolding_all rfl) 37 _ (by with_unfolding_all rfl) _ 2 [.int .u64 (s : Int), .int .i64 ta] _ (by with_unfolding_all rfl) (HB3.out.range [.int .i64 H, .int .u64 (l : Int)] [.int .u64 (s : Int), .int .i64 ta] [.int .i64 at1, .int .i64 bt] 2 rfl rfl) Try.underlying37 (by with_unfolding_all rfl) (by with_unfolding_all exact Try.size37) ?_)))
          all_goals (try omega)
          clear x0 x1 x2 x3 x4 x5
          refine (HL1.out _).mono ?_
          rintro e w4 ⟨rfl, hg⟩
          have HB4 := hid (HB3.out.keep hg)
          have HG4 := hid (gtrans HG3.out hg)
          have x0 := HB4.out.cell 0
          have x1 := HB4.out.cell 1
          have x2 := HB4.out.cell 2
          have x3 := HB4.out.cell 3
          have x4 := HB4.out.cell 4
          have x5 := HB4.out.cell 5
          clear hg
          go_wp2_with fail
          refine (wakes_any _).mono ?_
          rintro e w9 ⟨rfl, hg9⟩
          have HG9 := hid (gtrans HG4.out hg9)
          go_wp2_with fail
          go_ret
          exact ⟨rfl, HG9.out⟩
      · have HL1 := hid (fun u => HLk.out (at1 + x) q3 false HF4.out HF3.out (decide_eq_false q5) u)
        have HL2 := hid (fun u => HLk.out at1 HAT.out.2 true HF4.out HF3.out (decide_eq_true q4) u)
        have HL3 := hid (fun u => HLk.out (at1 + x - 1) (by omega) true HF4.out HF3.out (decide_eq_true q6) u)
        clear q4 q5 q6 HW
        by_cases ha0 : 0 < at1
        · have q7 : ¬ x < 0 := by omega
          go_wp2_with (first
            | (have := HB3; clear this; (with_reducible refine wpList_load_partW (by with_unfolding_all rfl) 28 _ (by with_unfolding_all rfl) _ 0 [.int .i64 H, .int .u64 (l : Int)] _ (by with_unfolding_all rfl) (HB3.out.range [] [.int .i64 H, .int .u64 (l : Int)] [.int .u64 (s : Int), .int .i64 ta, .int .i64 at1, .int .i64 bt] 0 rfl rfl) Try.underlying28 (by with_unfolding_all rfl) (by with_unfolding_all exact Try.size28) ?_))
            | (have := HB3; clear this; (with_reducible refine wpList_load_partW (by with_unfolding_all rfl) 37 _ (by with_unfolding_all rfl) _ 2 [.int .u64 (s : Int), .int .i64 ta] _ (by with_unfolding_all rfl) (HB3.out.range [.int .i64 H, .int .u64 (l : Int)] [.int .u64 (s : Int), .int .i64 ta] [.int .i64 at1, .int .i64 bt] 2 rfl rfl) Try.underlying37 (by with_unfolding_all rfl) (by with_unfolding_all exact Try.size37) ?_)))
          all_goals (try omega)
          clear x0 x1 x2 x3 x4 x5
          refine (HL1.out _).mono ?_
          rintro e w4 ⟨rfl, hg⟩
          have HB4 := hid (HB3.out.keep hg)
          have HG4 := hid (gtrans HG3.out hg)
          have x0 := HB4.out.cell 0
          have x1 := HB4.out.cell 1
          have x2 := HB4.out.cell 2
          have x3 := HB4.out.cell 3
          have x4 := HB4.out.cell 4
          have x5 := HB4.out.cell 5
          clear hg
          go_wp2_with (first
            | (have := HB4; clear this; (with_reducible refine wpList_load_partW (by with_unfolding_all rfl) 28 _ (by with_unfolding_all rfl) _ 0 [.int .i64 H, .int .u64 (l : Int)] _ (by with_unfolding_all rfl) (HB4.out.range [] [.int .i64 H, .int .u64 (l : Int)] [.int .u64 (s : Int), .int .i64 ta, .int .i64 at1, .int .i64 bt] 0 rfl rfl) Try.underlying28 (by with_unfolding_all rfl) (by with_unfolding_all exact Try.size28) ?_))
            | (have := HB4; clear this; (with_reducible refine wpList_load_partW (by with_unfolding_all rfl) 37 _ (by with_unfolding_all rfl) _ 2 [.int .u64 (s : Int), .int .i64 ta] _ (by with_unfolding_all rfl) (HB4.out.range [.int .i64 H, .int .u64 (l : Int)] [.int .u64 (s : Int), .int .i64 ta] [.int .i64 at1, .int .i64 bt] 2 rfl rfl) Try.underlying37 (by with_unfolding_all rfl) (by with_unfolding_all exact Try.size37) ?_)))
          clear x0 x1 x2 x3 x4 x5
          refine (HL2.out _).mono ?_
          rintro e w5 ⟨rfl, hg⟩
          have HB5 := hid (HB4.out.keep hg)
          have HG5 := hid (gtrans HG4.out hg)
          have x0 := HB5.out.cell 0
          have x1 := HB5.out.cell 1
          have x2 := HB5.out.cell 2
          have x3 := HB5.out.cell 3
          have x4 := HB5.out.cell 4
          have x5 := HB5.out.cell 5
          clear hg
          go_wp2_with (first
            | (have := HB5; clear this; (with_reducible refine wpList_load_partW (by with_unfolding_all rfl) 28 _ (by with_unfolding_all rfl) _ 0 [.int .i64 H, .int .u64 (l : Int)] _ (by with_unfolding_all rfl) (HB5.out.range [] [.int .i64 H, .int .u64 (l : Int)] [.int .u64 (s : Int), .int .i64 ta, .int .i64 at1, .int .i64 bt] 0 rfl rfl) Try.underlying28 (by with_unfolding_all rfl) (by with_unfolding_all exact Try.size28) ?_))
            | (have := HB5; clear this; (with_reducible refine wpList_load_partW (by with_unfolding_all rfl) 37 _ (by with_unfolding_all rfl) _ 2 [.int .u64 (s : Int), .int .i64 ta] _ (by with_unfolding_all rfl) (HB5.out.range [.int .i64 H, .int .u64 (l : Int)] [.int .u64 (s : Int), .int .i64 ta] [.int .i64 at1, .int .i64 bt] 2 rfl rfl) Try.underlying37 (by with_unfolding_all rfl) (by with_unfolding_all exact Try.size37) ?_)))
          clear x0 x1 x2 x3 x4 x5
          refine (HL3.out _).mono ?_
          rintro e w6 ⟨rfl, hg⟩
          have HB6 := hid (HB5.out.keep hg)
          have HG6 := hid (gtrans HG5.out hg)
          have x0 := HB6.out.cell 0
          have x1 := HB6.out.cell 1
          have x2 := HB6.out.cell 2
          have x3 := HB6.out.cell 3
          have x4 := HB6.out.cell 4
          have x5 := HB6.out.cell 5
          clear hg
          go_wp2_with fail
          refine (wakes_any _).mono ?_
          rintro e w9 ⟨rfl, hg9⟩
          have HG9 := hid (gtrans HG6.out hg9)
          go_wp2_with fail
          go_ret
          exact ⟨rfl, HG9.out⟩
        · have q7 : ¬ x < 0 := by omega
          go_wp2_with (first
            | (have := HB3; clear this; (with_reducible refine wpList_load_partW (by with_unfolding_all rfl) 28 _ (by with_unfolding_all rfl) _ 0 [.int .i64 H, .int .u64 (l : Int)] _ (by with_unfolding_all rfl) (HB3.out.range [] [.int .i64 H, .int .u64 (l : Int)] [.int .u64 (s : Int), .int .i64 ta, .int .i64 at1, .int .i64 bt] 0 rfl rfl) Try.underlying28 (by with_unfolding_all rfl) (by with_unfolding_all exact Try.size28) ?_))
            | (have := HB3; clear this; (with_reducible refine wpList_load_partW (by with_unfolding_all rfl) 37 _ (by with_unfolding_all rfl) _ 2 [.int .u64 (s : Int), .int .i64 ta] _ (by with_unfolding_all rfl) (HB3.out.range [.int .i64 H, .int .u64 (l : Int)] [.int .u64 (s : Int), .int .i64 ta] [.int .i64 at1, .int .i64 bt] 2 rfl rfl) Try.underlying37 (by with_unfolding_all rfl) (by with_unfolding_all exact Try.size37) ?_)))
          all_goals (try omega)
          clear x0 x1 x2 x3 x4 x5
          refine (HL1.out _).mono ?_
          rintro e w4 ⟨rfl, hg⟩
          have HB4 := hid (HB3.out.keep hg)
          have HG4 := hid (gtrans HG3.out hg)
          have x0 := HB4.out.cell 0
          have x1 := HB4.out.cell 1
          have x2 := HB4.out.cell 2
          have x3 := HB4.out.cell 3
          have x4 := HB4.out.cell 4
          have x5 := HB4.out.cell 5
          clear hg
          go_wp2_with (first
            | (have := HB4; clear this; (with_reducible refine wpList_load_partW (by with_unfolding_all rfl) 28 _ (by with_unfolding_all rfl) _ 0 [.int .i64 H, .int .u64 (l : Int)] _ (by with_unfolding_all rfl) (HB4.out.range [] [.int .i64 H, .int .u64 (l : Int)] [.int .u64 (s : Int), .int .i64 ta, .int .i64 at1, .int .i64 bt] 0 rfl rfl) Try.underlying28 (by with_unfolding_all rfl) (by with_unfolding_all exact Try.size28) ?_))
            | (have := HB4; clear this; (with_reducible refine wpList_load_partW (by with_unfolding_all rfl) 37 _ (by with_unfolding_all rfl) _ 2 [.int .u64 (s : Int), .int .i64 ta] _ (by with_unfolding_all rfl) (HB4.out.range [.int .i64 H, .int .u64 (l : Int)] [.int .u64 (s : Int), .int .i64 ta] [.int .i64 at1, .int .i64 bt] 2 rfl rfl) Try.underlying37 (by with_unfolding_all rfl) (by with_unfolding_all exact Try.size37) ?_)))
          clear x0 x1 x2 x3 x4 x5
          refine (HL2.out _).mono ?_
          rintro e w5 ⟨rfl, hg⟩
          have HB5 := hid (HB4.out.keep hg)
          have HG5 := hid (gtrans HG4.out hg)
          have x0 := HB5.out.cell 0
          have x1 := HB5.out.cell 1
          have x2 := HB5.out.cell 2
          have x3 := HB5.out.cell 3
          have x4 := HB5.out.cell 4
          have x5 := HB5.out.cell 5
          clear hg
          go_wp2_with (first
            | (have := HB5; clear this; (with_reducible refine wpList_load_partW (by with_unfolding_all rfl) 28 _ (by with_unfolding_all rfl) _ 0 [.int .i64 H, .int .u64 (l : Int)] _ (by with_unfolding_all rfl) (HB5.out.range [] [.int .i64 H, .int .u64 (l : Int)] [.int .u64 (s : Int), .int .i64 ta, .int .i64 at1, .int .i64 bt] 0 rfl rfl) Try.underlying28 (by with_unfolding_all rfl) (by with_unfolding_all exact Try.size28) ?_))
            | (have := HB5; clear this; (with_reducible refine wpList_load_partW (by with_unfolding_all rfl) 37 _ (by with_unfolding_all rfl) _ 2 [.int .u64 (s : Int), .int .i64 ta] _ (by with_unfolding_all rfl) (HB5.out.range [.int .i64 H, .int .u64 (l : Int)] [.int .u64 (s : Int), .int .i64 ta] [.int .i64 at1, .int .i64 bt] 2 rfl rfl) Try.underlying37 (by with_unfolding_all rfl) (by with_unfolding_all exact Try.size37) ?_)))
          clear x0 x1 x2 x3 x4 x5
          refine (HL3.out _).mono ?_
          rintro e w6 ⟨rfl, hg⟩
          have HB6 := hid (HB5.out.keep hg)
          have HG6 := hid (gtrans HG5.out hg)
          have x0 := HB6.out.cell 0
          have x1 := HB6.out.cell 1
          have x2 := HB6.out.cell 2
          have x3 := HB6.out.cell 3
          have x4 := HB6.out.cell 4
          have x5 := HB6.out.cell 5
          clear hg
          go_wp2_with fail
          refine (wakes_any _).mono ?_
          rintro e w9 ⟨rfl, hg9⟩
          have HG9 := hid (gtrans HG6.out hg9)
          go_wp2_with fail
          go_ret
          exact ⟨rfl, HG9.out⟩
end Go.Proofs.Ytnbcplpmpocbpaa
