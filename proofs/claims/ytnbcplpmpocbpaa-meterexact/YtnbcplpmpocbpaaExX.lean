/- MeterExact: its walk. -/
import Derived.Test.YtnbcplpmpocbpaaLtX
import Derived.Test.YtnbcplpmpocbpaaRe
namespace Go.Proofs.Ytnbcplpmpocbpaa
open Go Go.RowKit
open Go.RowKit (wrap32 wrap64)

def lockH (H : Int) (l : Nat) : Int := if ckB H l = true then H else 10
def lockL (H : Int) (l : Nat) : Nat := if ckB H l = true then l else 4613937818241073152
theorem lock_ok (H : Int) (l : Nat) : ckB (lockH H l) (lockL H l) = true := by
  unfold lockH lockL
  by_cases h : ckB H l = true
  · rw [if_pos h, if_pos h]; exact h
  · rw [if_neg h, if_neg h]; decide +kernel
theorem ckB_true {H : Int} {l : Nat} (h : ckB H l = true) : 1 ≤ H ∧ 4607182418800017408 ≤ l ∧ Fnt l := by
  unfold ckB at h
  simp only [Bool.and_eq_true, decide_eq_true_eq] at h
  exact ⟨h.1, h.2.1, h.2.2⟩
set_option maxRecDepth 100000 in
theorem lock_any (H : Int) (l : Nat) (w : World) : Calls Try.prog 12 #[.agg #[.int .i64 H, .int .u64 (l : Int)]] w fun e w' => e = .returned (.agg #[.int .i64 (lockH H l), .int .u64 (lockL H l : Int)]) ∧ w.grownBy w' none := by
  have HCk := hid (fun u => rcheck_any H l u)
  have HR : Hid (ckR H l = if ckB H l = true then 0 else 80) := hid rfl
  have HH : Hid (lockH H l = if ckB H l = true then H else 10) := hid rfl
  have HL : Hid (lockL H l = if ckB H l = true then l else 4613937818241073152) := hid rfl
  obtain ⟨c, hc⟩ : ∃ c, ckB H l = c := ⟨_, rfl⟩
  rw [hc] at HR HH HL
  rw [HH.out, HL.out]
  rw [HR.out] at HCk
  clear hc HR HH HL
  cases c with
  | false =>
    rw [if_neg (by decide)] at HCk
    rw [if_neg (by decide), if_neg (by decide)]
    show Calls Try.prog 12 _ w fun e w' => e = .returned (.agg #[.int .i64 10, .int .u64 4613937818241073152]) ∧ w.grownBy w' none
    go_enter Try.func12, Try.ntmps12
    go_wp2_with (first
      | (have := HG2; clear this; (with_reducible refine wpList_load_part (by with_unfolding_all rfl) 28 _ (by with_unfolding_all rfl) _ 0 [.int .i64 H, .int .u64 (l : Int)] _ (by with_unfolding_all rfl) HC2.out.whole Try.underlying28 (by with_unfolding_all rfl) (by with_unfolding_all exact Try.size28) ?_))
      | (have := HG1; clear this; (with_reducible refine wpList_alloc_row (by with_unfolding_all rfl) 28 (by with_unfolding_all rfl) [.int .i64 0, .int .u64 0] Try.zero28 ?_); intro w2 B2 s2 g2; have HB2 := hid B2; have HC2 := hid (HB1.out.keep g2); have HG2 := hid (gtrans HG1.out g2); clear B2 s2 g2)
      | ((with_reducible refine wpList_box_row (by with_unfolding_all rfl) 28 _ (by with_unfolding_all rfl) [.int .i64 H, .int .u64 (l : Int)] (by with_unfolding_all rfl) ?_); intro w1 B1 s1 g1; have HB1 := hid B1; have HG1 := hid g1; clear B1 s1 g1))
    refine (HCk.out _).mono ?_
    rintro e w3 ⟨rfl, hg3⟩
    have HB3 := hid (HB2.out.keep hg3)
    have HC3 := hid (HC2.out.keep hg3)
    have HG3 := hid (gtrans HG2.out hg3)
    clear hg3
    go_wp2_with (first
      | (with_reducible refine wpList_build_of (by with_unfolding_all rfl) 28 _ (by with_unfolding_all rfl) [(0, .int .i64 10), (1, .int .u64 4613937818241073152)] (by with_unfolding_all rfl) [.int .i64 10, .int .u64 4613937818241073152] (built28 _ _) ?_)
      | ((with_reducible refine wpList_store_all (by with_unfolding_all rfl) 28 _ _ (by with_unfolding_all rfl) _ [.int .i64 0, .int .u64 0] [.int .i64 10, .int .u64 4613937818241073152] 28 (by with_unfolding_all rfl) (by with_unfolding_all rfl) HB3.out (by with_unfolding_all rfl) (by with_unfolding_all exact Try.size28) (one2 _ _ _ _) ?_); intro w4 B4 g4 s4; have HB4 := hid B4; have HG4 := hid (HG3.out.andThen g4 (fun j hj => .inl (by injection hj with hj; have := HG1.out.size; omega))); clear B4 g4 s4))
    refine bodyPost_ret (results_blk rfl _ w1.heap.size 28 [.int .i64 10, .int .u64 4613937818241073152] _ rfl HB4.out Try.underlying28 rfl Try.size28) rfl ?_
    exact ⟨rfl, HG4.out⟩
  | true =>
    rw [if_pos rfl] at HCk
    rw [if_pos rfl, if_pos rfl]
    go_enter Try.func12, Try.ntmps12
    go_wp2_with (first
      | (have := HG2; clear this; (with_reducible refine wpList_load_part (by with_unfolding_all rfl) 28 _ (by with_unfolding_all rfl) _ 0 [.int .i64 H, .int .u64 (l : Int)] _ (by with_unfolding_all rfl) HC2.out.whole Try.underlying28 (by with_unfolding_all rfl) (by with_unfolding_all exact Try.size28) ?_))
      | (have := HG1; clear this; (with_reducible refine wpList_alloc_row (by with_unfolding_all rfl) 28 (by with_unfolding_all rfl) [.int .i64 0, .int .u64 0] Try.zero28 ?_); intro w2 B2 s2 g2; have HB2 := hid B2; have HC2 := hid (HB1.out.keep g2); have HG2 := hid (gtrans HG1.out g2); clear B2 s2 g2)
      | ((with_reducible refine wpList_box_row (by with_unfolding_all rfl) 28 _ (by with_unfolding_all rfl) [.int .i64 H, .int .u64 (l : Int)] (by with_unfolding_all rfl) ?_); intro w1 B1 s1 g1; have HB1 := hid B1; have HG1 := hid g1; clear B1 s1 g1))
    refine (HCk.out _).mono ?_
    rintro e w3 ⟨rfl, hg3⟩
    have HB3 := hid (HB2.out.keep hg3)
    have HC3 := hid (HC2.out.keep hg3)
    have HG3 := hid (gtrans HG2.out hg3)
    clear hg3
    go_wp2_with (first
      | (have := HC3; clear this; (with_reducible refine wpList_load_part (by with_unfolding_all rfl) 28 _ (by with_unfolding_all rfl) _ 0 [.int .i64 H, .int .u64 (l : Int)] _ (by with_unfolding_all rfl) HC3.out.whole Try.underlying28 (by with_unfolding_all rfl) (by with_unfolding_all exact Try.size28) ?_))
      | ((with_reducible refine wpList_store_all (by with_unfolding_all rfl) 28 _ _ (by with_unfolding_all rfl) _ [.int .i64 0, .int .u64 0] [.int .i64 H, .int .u64 (l : Int)] 28 (by with_unfolding_all rfl) (by with_unfolding_all rfl) HB3.out (by with_unfolding_all rfl) (by with_unfolding_all exact Try.size28) (one2 _ _ _ _) ?_); intro w4 B4 g4 s4; have HB4 := hid B4; have HG4 := hid (HG3.out.andThen g4 (fun j hj => .inl (by injection hj with hj; have := HG1.out.size; omega))); clear B4 g4 s4))
    refine bodyPost_ret (results_blk rfl _ w1.heap.size 28 [.int .i64 H, .int .u64 (l : Int)] _ rfl HB4.out Try.underlying28 rfl Try.size28) rfl ?_
    exact ⟨rfl, HG4.out⟩
set_option maxRecDepth 100000 in
set_option maxHeartbeats 12800000 in
theorem exact_walk (w : World) (p : Int × Nat) (a : Option Addr) (b off n c : Nat) (f : Nat → Opn) (hp : lkOk p) (hn : n ≤ 140737488355328) (hr : RowsO w a b off n f) :
    Calls Try.prog 4 #[.agg #[.int .i64 p.1, .int .u64 (p.2 : Int), .slice a n c]] w fun e w' => e = .returned (.bool true) ∧ w.grownBy w' none := by
  obtain ⟨h0, l0⟩ := p
  have HR := hid hr
  show Calls Try.prog 4 #[.agg #[.int .i64 h0, .int .u64 (l0 : Int), .slice a n c]] w _
  have HLo := hid (fun u => lock_any h0 l0 u)
  have hck := lock_ok h0 l0
  have hHb : lockH h0 l0 ≤ 9223372036854775807 := by unfold lockH; split; exact hp.2.1; omega
  obtain ⟨H, hH⟩ : ∃ H, lockH h0 l0 = H := ⟨_, rfl⟩
  obtain ⟨l, hl⟩ : ∃ l, lockL h0 l0 = l := ⟨_, rfl⟩
  rw [hH, hl] at HLo hck
  rw [hH] at hHb
  have HCK := hid (ckB_true hck)
  have HHb := hid hHb
  clear hr hp hck hHb hH hl
  go_enter Try.func4, Try.ntmps4
  go_wp2_with (first
    | (have := HB1; clear this; (with_reducible refine wpList_load_part (by with_unfolding_all rfl) 28 _ (by with_unfolding_all rfl) _ 0 [.int .i64 h0, .int .u64 (l0 : Int)] _ (by with_unfolding_all rfl) (HB1.out.range [] [.int .i64 h0, .int .u64 (l0 : Int)] [.slice a n c] 0 rfl rfl) Try.underlying28 (by with_unfolding_all rfl) (by with_unfolding_all exact Try.size28) ?_))
    | ((with_reducible refine wpList_box_row (by with_unfolding_all rfl) 34 _ (by with_unfolding_all rfl) [.int .i64 h0, .int .u64 (l0 : Int), .slice a n c] (by with_unfolding_all rfl) ?_); intro w1 B1 s1 g1; have HB1 := hid B1; have HG1 := hid g1; clear B1 s1 g1))
  refine (HLo.out _).mono ?_
  rintro e w2 ⟨rfl, hg2⟩
  have HB2 := hid (HB1.out.keep hg2)
  have HG2 := hid (gtrans HG1.out hg2)
  clear hg2
  go_upto_region 3 with (first
    | (have := HG4; clear this; (with_reducible refine wpList_alloc_row (by with_unfolding_all rfl) 37 (by with_unfolding_all rfl) [.int .u64 0, .int .i64 0] Try.zero37 ?_); intro w5 B5 s5 g5; have HM5 := hid B5; have HB5 := hid (HB4.out.keep g5); have HC5 := hid (HC4.out.keep g5); have HG5 := hid (gtrans HG4.out g5); clear B5 s5 g5)
    | (have := HG3; clear this; (with_reducible refine wpList_store_all (by with_unfolding_all rfl) 28 _ _ (by with_unfolding_all rfl) _ [.int .i64 0, .int .u64 0] [.int .i64 H, .int .u64 (l : Int)] 28 (by with_unfolding_all rfl) (by with_unfolding_all rfl) HC3.out (by with_unfolding_all rfl) (by with_unfolding_all exact Try.size28) (one2 _ _ _ _) ?_); intro w4 B4 g4 s4; have HC4 := hid B4; have HB4 := hid (HB3.out.on g4 (by have := HB2.out.lt; simp; omega)); have HG4 := hid (HG3.out.andThen g4 (fun j hj => .inl (by injection hj with hj; have := HG2.out.size; omega))); clear B4 g4 s4)
    | ((with_reducible refine wpList_alloc_row (by with_unfolding_all rfl) 28 (by with_unfolding_all rfl) [.int .i64 0, .int .u64 0] Try.zero28 ?_); intro w3 B3 s3 g3; have HC3 := hid B3; have HB3 := hid (HB2.out.keep g3); have HG3 := hid (gtrans HG2.out g3); clear B3 s3 g3))
  obtain ⟨p1, hp1⟩ : ∃ x, w.heap.size = x := ⟨_, rfl⟩
  obtain ⟨p3, hp3⟩ : ∃ x, w2.heap.size = x := ⟨_, rfl⟩
  obtain ⟨p4, hp4⟩ : ∃ x, w4.heap.size = x := ⟨_, rfl⟩
  rw [hp1] at HB5
  rw [hp3] at HC5
  rw [hp4] at HM5
  simp only [hp1, hp3, hp4]
  have HPn : Hid (w.heap.size ≤ p4 ∧ p4 ≠ p1 ∧ p4 ≠ p3) := hid (by have h1 := HG4.out.size; have h2 := HB4.out.lt; have h3 := HC4.out.lt; omega)
  clear hp1 hp3 hp4 HB1 HB2 HB3 HB4 HC3 HC4 HG1 HG2 HG3 HG4
  go_wp2_with fail
  go_loopw [5] (fun iv wr => ∃ (i : Nat) (s : Nat) (ta : Int), iv = .int .i64 i ∧ i ≤ n ∧ Hid (Fnt s ∧ -9223372036854775808 ≤ ta ∧ ta ≤ 9223372036854775807) ∧ Hid (Blk wr p1 [.int .i64 h0, .int .u64 (l0 : Int), .slice a n c] 34) ∧ Hid (Blk wr p3 [.int .i64 H, .int .u64 (l : Int)] 28) ∧ Hid (Blk wr p4 [.int .u64 (s : Int), .int .i64 ta] 37) ∧ Hid (w.grownBy wr none)) (fun iv _ => n - (intOf iv).toNat)
  case atStart => exact ⟨0, 0, 0, rfl, Nat.zero_le _, hid ⟨by unfold Fnt; omega, by omega, by omega⟩, HB5, HC5, HM5, HG5⟩
  case round =>
    obtain ⟨i, s, ta, rfl, hi, HF, HB, HC, HM, HG⟩ := hrel
    clear HB5 HC5 HM5 HG5
    have x2 := HB.out.cell 2
    by_cases hlt : i < n
    · have hlt' : (i : Int) < (n : Int) := by omega
      obtain ⟨⟨kd, now, s2, ta2⟩, ho⟩ : ∃ o, f i = o := ⟨_, rfl⟩
      obtain ⟨hra, hok⟩ := HR.out.2 i hlt
      obtain ⟨rfl, hbl⟩ := HR.out.1 (by omega)
      rw [ho] at hra hok
      obtain ⟨k1, k2, k3, k4, k5⟩ := hok
      have HK := hid (And.intro k1 (And.intro k2 (And.intro k3 (And.intro k4 k5))))
      have HRa : Hid (wr.rangeAt b (off + i * 4) [.int .i64 kd, .int .i64 now, .int .u64 (s2 : Int), .int .i64 ta2]) := hid (range_at HG.out hbl (by simp) hra)
      clear ho hra k1 k2 k3 k4 k5 hbl
      go_upto_region 8 with (first
        | (have := HG4; clear this; (with_reducible refine wpList_store_all (by with_unfolding_all rfl) 37 _ _ (by with_unfolding_all rfl) _ [.int .u64 0, .int .i64 0] [.int .u64 (s : Int), .int .i64 ta] 37 (by with_unfolding_all rfl) (by with_unfolding_all rfl) HX4.out (by with_unfolding_all rfl) (by with_unfolding_all exact Try.size37) (one2 _ _ _ _) ?_); intro w5 B5 g5 s5; have HX5 := hid B5; have HO5 := hid (HO4.out.on g5 (by have := HO3.out.lt; simp; omega)); have HB5 := hid (HB4.out.on g5 (by have := HB3.out.lt; simp; omega)); have HC5 := hid (HC4.out.on g5 (by have := HC3.out.lt; simp; omega)); have HM5 := hid (HM4.out.on g5 (by have := HM3.out.lt; simp; omega)); have HG5 := hid (HG4.out.andThen g5 (fun j hj => .inl (by injection hj with hj; have := HG3.out.size; omega))); clear B5 g5 s5)
        | (have := HG3; clear this; (with_reducible refine wpList_alloc_row (by with_unfolding_all rfl) 37 (by with_unfolding_all rfl) [.int .u64 0, .int .i64 0] Try.zero37 ?_); intro w4 B4 s4 g4; have HX4 := hid B4; have HO4 := hid (HO3.out.keep g4); have HB4 := hid (HB3.out.keep g4); have HC4 := hid (HC3.out.keep g4); have HM4 := hid (HM3.out.keep g4); have HG4 := hid (gtrans HG3.out g4); clear B4 s4 g4)
        | (have := HG3; clear this; (with_reducible refine wpList_load_part (by with_unfolding_all rfl) 37 _ (by with_unfolding_all rfl) _ 0 [.int .u64 (s : Int), .int .i64 ta] _ (by with_unfolding_all rfl) HM3.out.whole Try.underlying37 (by with_unfolding_all rfl) (by with_unfolding_all exact Try.size37) ?_))
        | ((with_reducible refine wpList_store_all (by with_unfolding_all rfl) 39 _ _ (by with_unfolding_all rfl) _ [.int .i64 0, .int .i64 0, .int .u64 0, .int .i64 0] [.int .i64 kd, .int .i64 now, .int .u64 (s2 : Int), .int .i64 ta2] 39 (by with_unfolding_all rfl) (by with_unfolding_all rfl) HO2.out (by with_unfolding_all rfl) (by with_unfolding_all exact Try.size39) (one4 _ _ _ _) ?_); intro w3 B3 g3 s3; have HO3 := hid B3; have HB3 := hid (HB2.out.on g3 (by have := HB.out.lt; simp; omega)); have HC3 := hid (HC2.out.on g3 (by have := HC.out.lt; simp; omega)); have HM3 := hid (HM2.out.on g3 (by have := HM.out.lt; simp; omega)); have HG3 := hid (HG2.out.andThen g3 (fun j hj => .inl (by injection hj with hj; have := HG.out.size; omega))); clear B3 g3 s3)
        | ((with_reducible refine wpList_alloc_row (by with_unfolding_all rfl) 39 (by with_unfolding_all rfl) [.int .i64 0, .int .i64 0, .int .u64 0, .int .i64 0] Try.zero39 ?_); intro w2 B2 s2' g2; have HO2 := hid B2; have HB2 := hid (HB.out.keep g2); have HC2 := hid (HC.out.keep g2); have HM2 := hid (HM.out.keep g2); have HG2 := hid (gtrans HG.out g2); clear B2 s2' g2)
        | (have := HB; clear this; (with_reducible refine wpList_load_part (by with_unfolding_all rfl) 39 _ (by with_unfolding_all rfl) b (off + i * 4) [.int .i64 kd, .int .i64 now, .int .u64 (s2 : Int), .int .i64 ta2] _ (by with_unfolding_all rfl) HRa.out Try.underlying39 (by with_unfolding_all rfl) (by with_unfolding_all exact Try.size39) ?_)))
      obtain ⟨p6, hp6⟩ : ∃ x, wr.heap.size = x := ⟨_, rfl⟩
      obtain ⟨p7, hp7⟩ : ∃ x, w3.heap.size = x := ⟨_, rfl⟩
      rw [hp6] at HO5
      rw [hp7] at HX5
      simp only [hp6, hp7]
      have HPr : Hid (p4 ≠ p6 ∧ p4 ≠ p7) := hid (by have h1 := HM.out.lt; have h2 := HM3.out.lt; omega)
      clear hp6 hp7 HO2 HO3 HO4 HB HB2 HB3 HB4 HC HC2 HC3 HC4 HM HM2 HM3 HM4 HG HG2 HG3 HG4 HX4 HRa x2
      have o0 := HO5.out.cell 0
      have o1 := HO5.out.cell 1
      rcases (show kd = 1 ∨ kd = 2 ∨ kd = 3 ∨ kd = 4 ∨ kd = 5 ∨ kd = 6 ∨ (¬ kd = 1 ∧ ¬ kd = 2 ∧ ¬ kd = 3 ∧ ¬ kd = 4 ∧ ¬ kd = 5 ∧ ¬ kd = 6) by omega) with rfl | rfl | rfl | rfl | rfl | rfl | ⟨m1, m2, m3, m4, m5, m6⟩
      · as_aux_lemma =>
          obtain ⟨q1, q2, q3⟩ := HCK.out
          obtain ⟨j1, j2, j3⟩ := HF.out
          obtain ⟨k1, k2, k3, k4, k5⟩ := HK.out
          have HCr := hid (fun u => rnow_any H l s ta now u q1 HHb.out j2 j3 k2 j1)
          have HCp := hid (fun u => now_fin H l s ta now _ _ u HHb.out j2 j3 k2 j1 rfl rfl)
          have hbd := nowA_bd (H := H) j2 j3 k2
          have hfin : Fnt (nowS H s ta now) := nowS_fin j1
          obtain ⟨S1, hS1⟩ : ∃ S1, nowS H s ta now = S1 := ⟨_, rfl⟩
          obtain ⟨T1, hT1⟩ : ∃ T1, nowA H ta now = T1 := ⟨_, rfl⟩
          rw [hS1, hT1] at HCr HCp
          rw [hS1] at hfin
          rw [hT1] at hbd
          have HFN : Hid (Fnt S1 ∧ -9223372036854775808 ≤ T1 ∧ T1 ≤ 9223372036854775807) := hid ⟨hfin, hbd.1, hbd.2.1⟩
          clear q1 q2 q3 j1 j2 j3 k1 k2 k3 k4 k5 hbd hfin hS1 hT1
          go_wp2_with (first
            | ((with_reducible refine wpList_load_part (by with_unfolding_all rfl) 28 _ (by with_unfolding_all rfl) _ 0 [.int .i64 H, .int .u64 (l : Int)] _ (by with_unfolding_all rfl) HC5.out.whole Try.underlying28 (by with_unfolding_all rfl) (by with_unfolding_all exact Try.size28) ?_))
            | ((with_reducible refine wpList_load_part (by with_unfolding_all rfl) 37 _ (by with_unfolding_all rfl) _ 0 [.int .u64 (s : Int), .int .i64 ta] _ (by with_unfolding_all rfl) HX5.out.whole Try.underlying37 (by with_unfolding_all rfl) (by with_unfolding_all exact Try.size37) ?_)))
          refine (HCr.out _).mono ?_
          rintro e w6 ⟨rfl, hg⟩
          clear o0 o1
          have HB6 := hid (HB5.out.keep hg)
          have HC6 := hid (HC5.out.keep hg)
          have HM6 := hid (HM5.out.keep hg)
          have HO6 := hid (HO5.out.keep hg)
          have HX6 := hid (HX5.out.keep hg)
          have HG6 := hid (gtrans HG5.out hg)
          clear hg HB5 HC5 HM5 HO5 HX5 HG5
          go_upto_region 11 with (first
            | ((with_reducible refine wpList_store_all (by with_unfolding_all rfl) 37 _ _ (by with_unfolding_all rfl) _ [.int .u64 (s : Int), .int .i64 ta] [.int .u64 (S1 : Int), .int .i64 T1] 37 (by with_unfolding_all rfl) (by with_unfolding_all rfl) HM6.out (by with_unfolding_all rfl) (by with_unfolding_all exact Try.size37) (one2 _ _ _ _) ?_); intro w7 B7 g7 s7; have HM7 := hid B7; have HO7 := hid (HO6.out.on g7 (by have := HPr.out; simp; omega)); have HX7 := hid (HX6.out.on g7 (by have := HPr.out; simp; omega)); have HB7 := hid (HB6.out.on g7 (by have := HPn.out; simp; omega)); have HC7 := hid (HC6.out.on g7 (by have := HPn.out; simp; omega)); have HG7 := hid (HG6.out.andThen g7 (fun j hj => .inl (by injection hj with hj; have := HPn.out; omega))); clear B7 g7 s7))
          clear HB6 HC6 HM6 HO6 HX6 HG6
          go_wp2_with fail
          refine wp_region_list (by kernel_rfl) [fun v _ => v = (Value.agg [Value.int .i64 H, Value.int .u64 (l : Int)].toArray), fun v _ => v = (Value.agg [Value.int .u64 (s : Int), Value.int .i64 ta].toArray), fun v _ => v = (Value.pointer (some ⟨p6, 1, none⟩)), fun v _ => v = (Value.int .i64 now), fun v _ => v = (Value.agg [Value.int .u64 (S1 : Int), Value.int .i64 T1].toArray), fun v _ => v = (Value.agg [Value.int .u64 (S1 : Int), Value.int .i64 T1].toArray), fun v _ => v = (Value.bool false)] (none) (fun _ => none) 7 (by kernel_rfl) (by kernel_rfl) (by kernel_rfl) (by kernel_rfl) (by decide) noRow_one (fun _ => .inl rfl) ⟨fun i v u u' hki h hg => h, fun i v u u' hki h hg => h, fun i v u u' hki h hg => h, fun i v u u' hki h hg => h, fun i v u u' hki h hg => h, fun i v u u' hki h hg => h, fun i v u u' hki h hg => h, trivial⟩ ⟨?_, ?_, ?_, ?_, ?_, ?_, ?_, trivial⟩ ?_
          · intro A u hu hpu hsz hout hdeps
            have e3 : A.eval (.tmp 3) = (.pointer (some ⟨p3, 0, none⟩)) := (hout 3 (by kernel_rfl)).trans rfl
            refine ifw_none rfl ?_
            with_reducible refine shown_q (Value.agg [Value.int .i64 H, Value.int .u64 (l : Int)].toArray) ?qq_1_0 (fun _ _ => ?qr_1_0)
            case qr_1_0 => exact (rfl : (Value.agg [Value.int .i64 H, Value.int .u64 (l : Int)].toArray) = (Value.agg [Value.int .i64 H, Value.int .u64 (l : Int)].toArray))
            with_reducible refine quietAt_load 28 (.tmp 3) ?h0_1_0 p3 0 [Value.int .i64 H, Value.int .u64 (l : Int)] (.struct (Try.prog.fieldsOf 28)) ?h1_1_0 ?h2_1_0 ?h3_1_0 ?h4_1_0 ?h5_1_0
            case h0_1_0 => rfl
            case h1_1_0 => exact e3
            case h2_1_0 => exact (HC7.out.keep hu).whole
            case h3_1_0 => exact Try.underlying28
            case h4_1_0 => rfl
            case h5_1_0 => exact Try.size28
          · intro A u hu hpu hsz hout hdeps
            have e7 : A.eval (.tmp 7) = (.pointer (some ⟨p7, 0, none⟩)) := (hout 7 (by kernel_rfl)).trans rfl
            refine ifw_none rfl ?_
            with_reducible refine shown_q (Value.agg [Value.int .u64 (s : Int), Value.int .i64 ta].toArray) ?qq_1_1 (fun _ _ => ?qr_1_1)
            case qr_1_1 => exact (rfl : (Value.agg [Value.int .u64 (s : Int), Value.int .i64 ta].toArray) = (Value.agg [Value.int .u64 (s : Int), Value.int .i64 ta].toArray))
            with_reducible refine quietAt_load 37 (.tmp 7) ?h0_1_1 p7 0 [Value.int .u64 (s : Int), Value.int .i64 ta] (.struct (Try.prog.fieldsOf 37)) ?h1_1_1 ?h2_1_1 ?h3_1_1 ?h4_1_1 ?h5_1_1
            case h0_1_1 => rfl
            case h1_1_1 => exact e7
            case h2_1_1 => exact (HX7.out.keep hu).whole
            case h3_1_1 => exact Try.underlying37
            case h4_1_1 => rfl
            case h5_1_1 => exact Try.size37
          · intro A u hu hpu hsz hout hdeps
            have e6 : A.eval (.tmp 6) = (.pointer (some ⟨p6, 0, none⟩)) := (hout 6 (by kernel_rfl)).trans rfl
            refine ifw_none rfl ?_
            with_reducible refine shown_q (Value.pointer (some ⟨p6, 1, none⟩)) ?qq_1_2 (fun _ _ => ?qr_1_2)
            case qr_1_2 => exact (rfl : (Value.pointer (some ⟨p6, 1, none⟩)) = (Value.pointer (some ⟨p6, 1, none⟩)))
            with_reducible refine quietAt_field 39 (.tmp 6) 1 ?h0_1_2 ⟨p6, 0, none⟩ ⟨p6, 1, none⟩ ?h1_1_2 ?h2_1_2
            case h0_1_2 => rfl
            case h1_1_2 => exact e6
            case h2_1_2 => kernel_rfl
          · intro A u hu hpu hsz hout hdeps
            have e39 : A.eval (.tmp 39) = (.pointer (some ⟨p6, 1, none⟩)) := by have h := depL hdeps 2 (by kernel_rfl) 39 (by kernel_rfl); exact h
            refine ifw_none rfl ?_
            with_reducible refine shown_q (Value.int .i64 now) ?qq_1_3 (fun _ _ => ?qr_1_3)
            case qr_1_3 => exact (rfl : (Value.int .i64 now) = (Value.int .i64 now))
            with_reducible refine quietAt_ld 2 (.tmp 39) (Value.pointer (some ⟨p6, 1, none⟩)) (Value.int .i64 now) ?h0_1_3 ?h1_1_3 ?h2_1_3
            case h0_1_3 => rfl
            case h1_1_3 => exact e39
            case h2_1_3 => exact ld2 ((HO7.out.keep hu).cell 1)
          · intro A u hu hpu hsz hout hdeps
            have e37 : A.eval (.tmp 37) = (.agg [.int .i64 H, .int .u64 (l : Int)].toArray) := by have h := depL hdeps 0 (by kernel_rfl) 37 (by kernel_rfl); exact h
            have e38 : A.eval (.tmp 38) = (.agg [.int .u64 (s : Int), .int .i64 ta].toArray) := by have h := depL hdeps 1 (by kernel_rfl) 38 (by kernel_rfl); exact h
            have e40 : A.eval (.tmp 40) = (.int .i64 now) := by have h := depL hdeps 3 (by kernel_rfl) 40 (by kernel_rfl); exact h
            refine ifw_none rfl ?_
            with_reducible refine shown_q (Value.agg [Value.int .u64 (S1 : Int), Value.int .i64 T1].toArray) ?qq_1_4 (fun _ _ => ?qr_1_4)
            case qr_1_4 => exact (rfl : (Value.agg [Value.int .u64 (S1 : Int), Value.int .i64 T1].toArray) = (Value.agg [Value.int .u64 (S1 : Int), Value.int .i64 T1].toArray))
            with_reducible refine quietAt_call 14 Try.f14 ?h0_1_4 ?h1_1_4 ?h2_1_4 #[.tmp 37, .tmp 38, .tmp 40] #[28, 37, 2] ?h3_1_4 (Value.agg [Value.int .u64 (S1 : Int), Value.int .i64 T1].toArray) #[(Value.agg [Value.int .i64 H, Value.int .u64 (l : Int)].toArray), (Value.agg [Value.int .u64 (s : Int), Value.int .i64 ta].toArray), (Value.int .i64 now)] ?h4_1_4 ?h5_1_4
            case h0_1_4 => exact Try.func14
            case h1_1_4 => kernel_rfl
            case h2_1_4 => kernel_rfl
            case h3_1_4 => rfl
            case h4_1_4 => exact map3 _ _ _ _ _ _ _ e37 e38 e40
            case h5_1_4 => exact HCp.out u
          · intro A u hu hpu hsz hout hdeps
            have e4 : A.eval (.tmp 4) = (.pointer (some ⟨p4, 0, none⟩)) := (hout 4 (by kernel_rfl)).trans rfl
            refine ifw_none rfl ?_
            with_reducible refine shown_q (Value.agg [Value.int .u64 (S1 : Int), Value.int .i64 T1].toArray) ?qq_1_5 (fun _ _ => ?qr_1_5)
            case qr_1_5 => exact (rfl : (Value.agg [Value.int .u64 (S1 : Int), Value.int .i64 T1].toArray) = (Value.agg [Value.int .u64 (S1 : Int), Value.int .i64 T1].toArray))
            with_reducible refine quietAt_load 37 (.tmp 4) ?h0_1_5 p4 0 [Value.int .u64 (S1 : Int), Value.int .i64 T1] (.struct (Try.prog.fieldsOf 37)) ?h1_1_5 ?h2_1_5 ?h3_1_5 ?h4_1_5 ?h5_1_5
            case h0_1_5 => rfl
            case h1_1_5 => exact e4
            case h2_1_5 => exact (HM7.out.keep hu).whole
            case h3_1_5 => exact Try.underlying37
            case h4_1_5 => rfl
            case h5_1_5 => exact Try.size37
          · intro A u hu hpu hsz hout hdeps
            have e41 : A.eval (.tmp 41) = (.agg [.int .u64 (S1 : Int), .int .i64 T1].toArray) := by have h := depL hdeps 4 (by kernel_rfl) 41 (by kernel_rfl); exact h
            have e42 : A.eval (.tmp 42) = (.agg [.int .u64 (S1 : Int), .int .i64 T1].toArray) := by have h := depL hdeps 5 (by kernel_rfl) 42 (by kernel_rfl); exact h
            refine ifw_none rfl ?_
            with_reducible refine shown_q (Value.bool false) ?qq_1_6 (fun _ _ => ?qr_1_6)
            case qr_1_6 => exact (rfl : (Value.bool false) = (Value.bool false))
            with_reducible refine quietAt_bin .neq 37 (.tmp 41) (.tmp 42) 37 (Value.agg [Value.int .u64 (S1 : Int), Value.int .i64 T1].toArray) (Value.agg [Value.int .u64 (S1 : Int), Value.int .i64 T1].toArray) (Value.bool false) ?h0_1_6 ?h1_1_6 ?h2_1_6 ?h3_1_6
            case h0_1_6 => rfl
            case h1_1_6 => exact e41
            case h2_1_6 => exact e42
            case h3_1_6 => exact (by rw [neq37]; simp)
          · intro A w8 listed hh hall
            have hA := hh.frame
            have HU := hid hh.grown
            obtain ⟨x37, hx37⟩ : ∃ x, A.eval (.tmp 37) = x := ⟨_, rfl⟩
            have f37 : (fun v _ => v = (Value.agg [Value.int .i64 H, Value.int .u64 (l : Int)].toArray)) x37 w8 := by rw [← hx37]; exact hh.got 0 _ 37 rfl rfl (hall 0 (by decide))
            obtain ⟨x38, hx38⟩ : ∃ x, A.eval (.tmp 38) = x := ⟨_, rfl⟩
            have f38 : (fun v _ => v = (Value.agg [Value.int .u64 (s : Int), Value.int .i64 ta].toArray)) x38 w8 := by rw [← hx38]; exact hh.got 1 _ 38 rfl rfl (hall 1 (by decide))
            obtain ⟨x39, hx39⟩ : ∃ x, A.eval (.tmp 39) = x := ⟨_, rfl⟩
            have f39 : (fun v _ => v = (Value.pointer (some ⟨p6, 1, none⟩))) x39 w8 := by rw [← hx39]; exact hh.got 2 _ 39 rfl rfl (hall 2 (by decide))
            obtain ⟨x40, hx40⟩ : ∃ x, A.eval (.tmp 40) = x := ⟨_, rfl⟩
            have f40 : (fun v _ => v = (Value.int .i64 now)) x40 w8 := by rw [← hx40]; exact hh.got 3 _ 40 rfl rfl (hall 3 (by decide))
            obtain ⟨x41, hx41⟩ : ∃ x, A.eval (.tmp 41) = x := ⟨_, rfl⟩
            have f41 : (fun v _ => v = (Value.agg [Value.int .u64 (S1 : Int), Value.int .i64 T1].toArray)) x41 w8 := by rw [← hx41]; exact hh.got 4 _ 41 rfl rfl (hall 4 (by decide))
            obtain ⟨x42, hx42⟩ : ∃ x, A.eval (.tmp 42) = x := ⟨_, rfl⟩
            have f42 : (fun v _ => v = (Value.agg [Value.int .u64 (S1 : Int), Value.int .i64 T1].toArray)) x42 w8 := by rw [← hx42]; exact hh.got 5 _ 42 rfl rfl (hall 5 (by decide))
            obtain ⟨x43, hx43⟩ : ∃ x, A.eval (.tmp 43) = x := ⟨_, rfl⟩
            have f43 : (fun v _ => v = (Value.bool false)) x43 w8 := by rw [← hx43]; exact hh.got 6 _ 43 rfl rfl (hall 6 (by decide))
            dsimp only [wrote, List.foldl] at hA
            rw [hx37, hx38, hx39, hx40, hx41, hx42, hx43] at hA
            clear hh hall hx37 hx38 hx39 hx40 hx41 hx42 hx43
            replace f37 := (f37 : x37 = (.agg [.int .i64 H, .int .u64 (l : Int)].toArray))
            subst f37
            replace f38 := (f38 : x38 = (.agg [.int .u64 (s : Int), .int .i64 ta].toArray))
            subst f38
            replace f39 := (f39 : x39 = (.pointer (some ⟨p6, 1, none⟩)))
            subst f39
            replace f40 := (f40 : x40 = (.int .i64 now))
            subst f40
            replace f41 := (f41 : x41 = (.agg [.int .u64 (S1 : Int), .int .i64 T1].toArray))
            subst f41
            replace f42 := (f42 : x42 = (.agg [.int .u64 (S1 : Int), .int .i64 T1].toArray))
            subst f42
            replace f43 := (f43 : x43 = (.bool false))
            subst f43
            subst hA
            show wpList _ _ _ [] _ _
            unfold wpList
            simp only [Act.put, List.setIfInBounds_toArray, List.set_cons_succ, List.set_cons_zero]
            have HB8 := hid (HB7.out.keep HU.out)
            have HC8 := hid (HC7.out.keep HU.out)
            have HM8 := hid (HM7.out.keep HU.out)
            have HG8 := hid (gtrans HG7.out HU.out)
            go_wp2_with fail
            go_roundw
            case rel => exact ⟨i + 1, S1, T1, by go_num, by omega, HFN, HB8, HC8, HM8, HG8⟩
            case measure => simp [intOf]; omega
      · as_aux_lemma =>
          obtain ⟨q1, q2, q3⟩ := HCK.out
          obtain ⟨j1, j2, j3⟩ := HF.out
          obtain ⟨k1, k2, k3, k4, k5⟩ := HK.out
          have HCr := hid (fun u => rfail_any H l s ta now u q1 HHb.out j2 j3 k2 j1)
          have HCp := hid (fun u => fail_fin H l s ta now _ _ u HHb.out j2 j3 k2 j1 rfl rfl)
          have hbd := nowA_bd (H := H) j2 j3 k2
          have hfin : Fnt (pl (nowS H s ta now)) := (pl_fin _ (nowS_fin j1)).1
          obtain ⟨S1, hS1⟩ : ∃ S1, pl (nowS H s ta now) = S1 := ⟨_, rfl⟩
          obtain ⟨T1, hT1⟩ : ∃ T1, nowA H ta now = T1 := ⟨_, rfl⟩
          rw [hS1, hT1] at HCr HCp
          rw [hS1] at hfin
          rw [hT1] at hbd
          have HFN : Hid (Fnt S1 ∧ -9223372036854775808 ≤ T1 ∧ T1 ≤ 9223372036854775807) := hid ⟨hfin, hbd.1, hbd.2.1⟩
          clear q1 q2 q3 j1 j2 j3 k1 k2 k3 k4 k5 hbd hfin hS1 hT1
          go_wp2_with (first
            | ((with_reducible refine wpList_load_part (by with_unfolding_all rfl) 28 _ (by with_unfolding_all rfl) _ 0 [.int .i64 H, .int .u64 (l : Int)] _ (by with_unfolding_all rfl) HC5.out.whole Try.underlying28 (by with_unfolding_all rfl) (by with_unfolding_all exact Try.size28) ?_))
            | ((with_reducible refine wpList_load_part (by with_unfolding_all rfl) 37 _ (by with_unfolding_all rfl) _ 0 [.int .u64 (s : Int), .int .i64 ta] _ (by with_unfolding_all rfl) HX5.out.whole Try.underlying37 (by with_unfolding_all rfl) (by with_unfolding_all exact Try.size37) ?_)))
          refine (HCr.out _).mono ?_
          rintro e w6 ⟨rfl, hg⟩
          clear o0 o1
          have HB6 := hid (HB5.out.keep hg)
          have HC6 := hid (HC5.out.keep hg)
          have HM6 := hid (HM5.out.keep hg)
          have HO6 := hid (HO5.out.keep hg)
          have HX6 := hid (HX5.out.keep hg)
          have HG6 := hid (gtrans HG5.out hg)
          clear hg HB5 HC5 HM5 HO5 HX5 HG5
          go_upto_region 15 with (first
            | ((with_reducible refine wpList_store_all (by with_unfolding_all rfl) 37 _ _ (by with_unfolding_all rfl) _ [.int .u64 (s : Int), .int .i64 ta] [.int .u64 (S1 : Int), .int .i64 T1] 37 (by with_unfolding_all rfl) (by with_unfolding_all rfl) HM6.out (by with_unfolding_all rfl) (by with_unfolding_all exact Try.size37) (one2 _ _ _ _) ?_); intro w7 B7 g7 s7; have HM7 := hid B7; have HO7 := hid (HO6.out.on g7 (by have := HPr.out; simp; omega)); have HX7 := hid (HX6.out.on g7 (by have := HPr.out; simp; omega)); have HB7 := hid (HB6.out.on g7 (by have := HPn.out; simp; omega)); have HC7 := hid (HC6.out.on g7 (by have := HPn.out; simp; omega)); have HG7 := hid (HG6.out.andThen g7 (fun j hj => .inl (by injection hj with hj; have := HPn.out; omega))); clear B7 g7 s7))
          clear HB6 HC6 HM6 HO6 HX6 HG6
          go_wp2_with fail
          refine wp_region_list (by kernel_rfl) [fun v _ => v = (Value.agg [Value.int .i64 H, Value.int .u64 (l : Int)].toArray), fun v _ => v = (Value.agg [Value.int .u64 (s : Int), Value.int .i64 ta].toArray), fun v _ => v = (Value.pointer (some ⟨p6, 1, none⟩)), fun v _ => v = (Value.int .i64 now), fun v _ => v = (Value.agg [Value.int .u64 (S1 : Int), Value.int .i64 T1].toArray), fun v _ => v = (Value.agg [Value.int .u64 (S1 : Int), Value.int .i64 T1].toArray), fun v _ => v = (Value.bool false)] (none) (fun _ => none) 7 (by kernel_rfl) (by kernel_rfl) (by kernel_rfl) (by kernel_rfl) (by decide) noRow_one (fun _ => .inl rfl) ⟨fun i v u u' hki h hg => h, fun i v u u' hki h hg => h, fun i v u u' hki h hg => h, fun i v u u' hki h hg => h, fun i v u u' hki h hg => h, fun i v u u' hki h hg => h, fun i v u u' hki h hg => h, trivial⟩ ⟨?_, ?_, ?_, ?_, ?_, ?_, ?_, trivial⟩ ?_
          · intro A u hu hpu hsz hout hdeps
            have e3 : A.eval (.tmp 3) = (.pointer (some ⟨p3, 0, none⟩)) := (hout 3 (by kernel_rfl)).trans rfl
            refine ifw_none rfl ?_
            with_reducible refine shown_q (Value.agg [Value.int .i64 H, Value.int .u64 (l : Int)].toArray) ?qq_2_0 (fun _ _ => ?qr_2_0)
            case qr_2_0 => exact (rfl : (Value.agg [Value.int .i64 H, Value.int .u64 (l : Int)].toArray) = (Value.agg [Value.int .i64 H, Value.int .u64 (l : Int)].toArray))
            with_reducible refine quietAt_load 28 (.tmp 3) ?h0_2_0 p3 0 [Value.int .i64 H, Value.int .u64 (l : Int)] (.struct (Try.prog.fieldsOf 28)) ?h1_2_0 ?h2_2_0 ?h3_2_0 ?h4_2_0 ?h5_2_0
            case h0_2_0 => rfl
            case h1_2_0 => exact e3
            case h2_2_0 => exact (HC7.out.keep hu).whole
            case h3_2_0 => exact Try.underlying28
            case h4_2_0 => rfl
            case h5_2_0 => exact Try.size28
          · intro A u hu hpu hsz hout hdeps
            have e7 : A.eval (.tmp 7) = (.pointer (some ⟨p7, 0, none⟩)) := (hout 7 (by kernel_rfl)).trans rfl
            refine ifw_none rfl ?_
            with_reducible refine shown_q (Value.agg [Value.int .u64 (s : Int), Value.int .i64 ta].toArray) ?qq_2_1 (fun _ _ => ?qr_2_1)
            case qr_2_1 => exact (rfl : (Value.agg [Value.int .u64 (s : Int), Value.int .i64 ta].toArray) = (Value.agg [Value.int .u64 (s : Int), Value.int .i64 ta].toArray))
            with_reducible refine quietAt_load 37 (.tmp 7) ?h0_2_1 p7 0 [Value.int .u64 (s : Int), Value.int .i64 ta] (.struct (Try.prog.fieldsOf 37)) ?h1_2_1 ?h2_2_1 ?h3_2_1 ?h4_2_1 ?h5_2_1
            case h0_2_1 => rfl
            case h1_2_1 => exact e7
            case h2_2_1 => exact (HX7.out.keep hu).whole
            case h3_2_1 => exact Try.underlying37
            case h4_2_1 => rfl
            case h5_2_1 => exact Try.size37
          · intro A u hu hpu hsz hout hdeps
            have e6 : A.eval (.tmp 6) = (.pointer (some ⟨p6, 0, none⟩)) := (hout 6 (by kernel_rfl)).trans rfl
            refine ifw_none rfl ?_
            with_reducible refine shown_q (Value.pointer (some ⟨p6, 1, none⟩)) ?qq_2_2 (fun _ _ => ?qr_2_2)
            case qr_2_2 => exact (rfl : (Value.pointer (some ⟨p6, 1, none⟩)) = (Value.pointer (some ⟨p6, 1, none⟩)))
            with_reducible refine quietAt_field 39 (.tmp 6) 1 ?h0_2_2 ⟨p6, 0, none⟩ ⟨p6, 1, none⟩ ?h1_2_2 ?h2_2_2
            case h0_2_2 => rfl
            case h1_2_2 => exact e6
            case h2_2_2 => kernel_rfl
          · intro A u hu hpu hsz hout hdeps
            have e53 : A.eval (.tmp 53) = (.pointer (some ⟨p6, 1, none⟩)) := by have h := depL hdeps 2 (by kernel_rfl) 53 (by kernel_rfl); exact h
            refine ifw_none rfl ?_
            with_reducible refine shown_q (Value.int .i64 now) ?qq_2_3 (fun _ _ => ?qr_2_3)
            case qr_2_3 => exact (rfl : (Value.int .i64 now) = (Value.int .i64 now))
            with_reducible refine quietAt_ld 2 (.tmp 53) (Value.pointer (some ⟨p6, 1, none⟩)) (Value.int .i64 now) ?h0_2_3 ?h1_2_3 ?h2_2_3
            case h0_2_3 => rfl
            case h1_2_3 => exact e53
            case h2_2_3 => exact ld2 ((HO7.out.keep hu).cell 1)
          · intro A u hu hpu hsz hout hdeps
            have e51 : A.eval (.tmp 51) = (.agg [.int .i64 H, .int .u64 (l : Int)].toArray) := by have h := depL hdeps 0 (by kernel_rfl) 51 (by kernel_rfl); exact h
            have e52 : A.eval (.tmp 52) = (.agg [.int .u64 (s : Int), .int .i64 ta].toArray) := by have h := depL hdeps 1 (by kernel_rfl) 52 (by kernel_rfl); exact h
            have e54 : A.eval (.tmp 54) = (.int .i64 now) := by have h := depL hdeps 3 (by kernel_rfl) 54 (by kernel_rfl); exact h
            refine ifw_none rfl ?_
            with_reducible refine shown_q (Value.agg [Value.int .u64 (S1 : Int), Value.int .i64 T1].toArray) ?qq_2_4 (fun _ _ => ?qr_2_4)
            case qr_2_4 => exact (rfl : (Value.agg [Value.int .u64 (S1 : Int), Value.int .i64 T1].toArray) = (Value.agg [Value.int .u64 (S1 : Int), Value.int .i64 T1].toArray))
            with_reducible refine quietAt_call 16 Try.f16 ?h0_2_4 ?h1_2_4 ?h2_2_4 #[.tmp 51, .tmp 52, .tmp 54] #[28, 37, 2] ?h3_2_4 (Value.agg [Value.int .u64 (S1 : Int), Value.int .i64 T1].toArray) #[(Value.agg [Value.int .i64 H, Value.int .u64 (l : Int)].toArray), (Value.agg [Value.int .u64 (s : Int), Value.int .i64 ta].toArray), (Value.int .i64 now)] ?h4_2_4 ?h5_2_4
            case h0_2_4 => exact Try.func16
            case h1_2_4 => kernel_rfl
            case h2_2_4 => kernel_rfl
            case h3_2_4 => rfl
            case h4_2_4 => exact map3 _ _ _ _ _ _ _ e51 e52 e54
            case h5_2_4 => exact HCp.out u
          · intro A u hu hpu hsz hout hdeps
            have e4 : A.eval (.tmp 4) = (.pointer (some ⟨p4, 0, none⟩)) := (hout 4 (by kernel_rfl)).trans rfl
            refine ifw_none rfl ?_
            with_reducible refine shown_q (Value.agg [Value.int .u64 (S1 : Int), Value.int .i64 T1].toArray) ?qq_2_5 (fun _ _ => ?qr_2_5)
            case qr_2_5 => exact (rfl : (Value.agg [Value.int .u64 (S1 : Int), Value.int .i64 T1].toArray) = (Value.agg [Value.int .u64 (S1 : Int), Value.int .i64 T1].toArray))
            with_reducible refine quietAt_load 37 (.tmp 4) ?h0_2_5 p4 0 [Value.int .u64 (S1 : Int), Value.int .i64 T1] (.struct (Try.prog.fieldsOf 37)) ?h1_2_5 ?h2_2_5 ?h3_2_5 ?h4_2_5 ?h5_2_5
            case h0_2_5 => rfl
            case h1_2_5 => exact e4
            case h2_2_5 => exact (HM7.out.keep hu).whole
            case h3_2_5 => exact Try.underlying37
            case h4_2_5 => rfl
            case h5_2_5 => exact Try.size37
          · intro A u hu hpu hsz hout hdeps
            have e55 : A.eval (.tmp 55) = (.agg [.int .u64 (S1 : Int), .int .i64 T1].toArray) := by have h := depL hdeps 4 (by kernel_rfl) 55 (by kernel_rfl); exact h
            have e56 : A.eval (.tmp 56) = (.agg [.int .u64 (S1 : Int), .int .i64 T1].toArray) := by have h := depL hdeps 5 (by kernel_rfl) 56 (by kernel_rfl); exact h
            refine ifw_none rfl ?_
            with_reducible refine shown_q (Value.bool false) ?qq_2_6 (fun _ _ => ?qr_2_6)
            case qr_2_6 => exact (rfl : (Value.bool false) = (Value.bool false))
            with_reducible refine quietAt_bin .neq 37 (.tmp 55) (.tmp 56) 37 (Value.agg [Value.int .u64 (S1 : Int), Value.int .i64 T1].toArray) (Value.agg [Value.int .u64 (S1 : Int), Value.int .i64 T1].toArray) (Value.bool false) ?h0_2_6 ?h1_2_6 ?h2_2_6 ?h3_2_6
            case h0_2_6 => rfl
            case h1_2_6 => exact e55
            case h2_2_6 => exact e56
            case h3_2_6 => exact (by rw [neq37]; simp)
          · intro A w8 listed hh hall
            have hA := hh.frame
            have HU := hid hh.grown
            obtain ⟨x51, hx51⟩ : ∃ x, A.eval (.tmp 51) = x := ⟨_, rfl⟩
            have f51 : (fun v _ => v = (Value.agg [Value.int .i64 H, Value.int .u64 (l : Int)].toArray)) x51 w8 := by rw [← hx51]; exact hh.got 0 _ 51 rfl rfl (hall 0 (by decide))
            obtain ⟨x52, hx52⟩ : ∃ x, A.eval (.tmp 52) = x := ⟨_, rfl⟩
            have f52 : (fun v _ => v = (Value.agg [Value.int .u64 (s : Int), Value.int .i64 ta].toArray)) x52 w8 := by rw [← hx52]; exact hh.got 1 _ 52 rfl rfl (hall 1 (by decide))
            obtain ⟨x53, hx53⟩ : ∃ x, A.eval (.tmp 53) = x := ⟨_, rfl⟩
            have f53 : (fun v _ => v = (Value.pointer (some ⟨p6, 1, none⟩))) x53 w8 := by rw [← hx53]; exact hh.got 2 _ 53 rfl rfl (hall 2 (by decide))
            obtain ⟨x54, hx54⟩ : ∃ x, A.eval (.tmp 54) = x := ⟨_, rfl⟩
            have f54 : (fun v _ => v = (Value.int .i64 now)) x54 w8 := by rw [← hx54]; exact hh.got 3 _ 54 rfl rfl (hall 3 (by decide))
            obtain ⟨x55, hx55⟩ : ∃ x, A.eval (.tmp 55) = x := ⟨_, rfl⟩
            have f55 : (fun v _ => v = (Value.agg [Value.int .u64 (S1 : Int), Value.int .i64 T1].toArray)) x55 w8 := by rw [← hx55]; exact hh.got 4 _ 55 rfl rfl (hall 4 (by decide))
            obtain ⟨x56, hx56⟩ : ∃ x, A.eval (.tmp 56) = x := ⟨_, rfl⟩
            have f56 : (fun v _ => v = (Value.agg [Value.int .u64 (S1 : Int), Value.int .i64 T1].toArray)) x56 w8 := by rw [← hx56]; exact hh.got 5 _ 56 rfl rfl (hall 5 (by decide))
            obtain ⟨x57, hx57⟩ : ∃ x, A.eval (.tmp 57) = x := ⟨_, rfl⟩
            have f57 : (fun v _ => v = (Value.bool false)) x57 w8 := by rw [← hx57]; exact hh.got 6 _ 57 rfl rfl (hall 6 (by decide))
            dsimp only [wrote, List.foldl] at hA
            rw [hx51, hx52, hx53, hx54, hx55, hx56, hx57] at hA
            clear hh hall hx51 hx52 hx53 hx54 hx55 hx56 hx57
            replace f51 := (f51 : x51 = (.agg [.int .i64 H, .int .u64 (l : Int)].toArray))
            subst f51
            replace f52 := (f52 : x52 = (.agg [.int .u64 (s : Int), .int .i64 ta].toArray))
            subst f52
            replace f53 := (f53 : x53 = (.pointer (some ⟨p6, 1, none⟩)))
            subst f53
            replace f54 := (f54 : x54 = (.int .i64 now))
            subst f54
            replace f55 := (f55 : x55 = (.agg [.int .u64 (S1 : Int), .int .i64 T1].toArray))
            subst f55
            replace f56 := (f56 : x56 = (.agg [.int .u64 (S1 : Int), .int .i64 T1].toArray))
            subst f56
            replace f57 := (f57 : x57 = (.bool false))
            subst f57
            subst hA
            show wpList _ _ _ [] _ _
            unfold wpList
            simp only [Act.put, List.setIfInBounds_toArray, List.set_cons_succ, List.set_cons_zero]
            have HB8 := hid (HB7.out.keep HU.out)
            have HC8 := hid (HC7.out.keep HU.out)
            have HM8 := hid (HM7.out.keep HU.out)
            have HG8 := hid (gtrans HG7.out HU.out)
            go_wp2_with fail
            go_roundw
            case rel => exact ⟨i + 1, S1, T1, by go_num, by omega, HFN, HB8, HC8, HM8, HG8⟩
            case measure => simp [intOf]; omega
      · as_aux_lemma =>
          obtain ⟨q1, q2, q3⟩ := HCK.out
          obtain ⟨j1, j2, j3⟩ := HF.out
          obtain ⟨k1, k2, k3, k4, k5⟩ := HK.out
          have HCr := hid (fun u => rpass_any H l s ta now u q1 HHb.out j2 j3 k2 j1)
          have HCp := hid (fun u => pass_fin H l s ta now _ _ u HHb.out j2 j3 k2 j1 rfl rfl)
          have hbd := nowA_bd (H := H) j2 j3 k2
          have hfin : Fnt (qt (nowS H s ta now)) := (by have h1 := qt_le (nowS H s ta now); have h2 := nowS_fin (H := H) (ta := ta) (now := now) j1; unfold Fnt at *; omega)
          obtain ⟨S1, hS1⟩ : ∃ S1, qt (nowS H s ta now) = S1 := ⟨_, rfl⟩
          obtain ⟨T1, hT1⟩ : ∃ T1, nowA H ta now = T1 := ⟨_, rfl⟩
          rw [hS1, hT1] at HCr HCp
          rw [hS1] at hfin
          rw [hT1] at hbd
          have HFN : Hid (Fnt S1 ∧ -9223372036854775808 ≤ T1 ∧ T1 ≤ 9223372036854775807) := hid ⟨hfin, hbd.1, hbd.2.1⟩
          clear q1 q2 q3 j1 j2 j3 k1 k2 k3 k4 k5 hbd hfin hS1 hT1
          go_wp2_with (first
            | ((with_reducible refine wpList_load_part (by with_unfolding_all rfl) 28 _ (by with_unfolding_all rfl) _ 0 [.int .i64 H, .int .u64 (l : Int)] _ (by with_unfolding_all rfl) HC5.out.whole Try.underlying28 (by with_unfolding_all rfl) (by with_unfolding_all exact Try.size28) ?_))
            | ((with_reducible refine wpList_load_part (by with_unfolding_all rfl) 37 _ (by with_unfolding_all rfl) _ 0 [.int .u64 (s : Int), .int .i64 ta] _ (by with_unfolding_all rfl) HX5.out.whole Try.underlying37 (by with_unfolding_all rfl) (by with_unfolding_all exact Try.size37) ?_)))
          refine (HCr.out _).mono ?_
          rintro e w6 ⟨rfl, hg⟩
          clear o0 o1
          have HB6 := hid (HB5.out.keep hg)
          have HC6 := hid (HC5.out.keep hg)
          have HM6 := hid (HM5.out.keep hg)
          have HO6 := hid (HO5.out.keep hg)
          have HX6 := hid (HX5.out.keep hg)
          have HG6 := hid (gtrans HG5.out hg)
          clear hg HB5 HC5 HM5 HO5 HX5 HG5
          go_upto_region 19 with (first
            | ((with_reducible refine wpList_store_all (by with_unfolding_all rfl) 37 _ _ (by with_unfolding_all rfl) _ [.int .u64 (s : Int), .int .i64 ta] [.int .u64 (S1 : Int), .int .i64 T1] 37 (by with_unfolding_all rfl) (by with_unfolding_all rfl) HM6.out (by with_unfolding_all rfl) (by with_unfolding_all exact Try.size37) (one2 _ _ _ _) ?_); intro w7 B7 g7 s7; have HM7 := hid B7; have HO7 := hid (HO6.out.on g7 (by have := HPr.out; simp; omega)); have HX7 := hid (HX6.out.on g7 (by have := HPr.out; simp; omega)); have HB7 := hid (HB6.out.on g7 (by have := HPn.out; simp; omega)); have HC7 := hid (HC6.out.on g7 (by have := HPn.out; simp; omega)); have HG7 := hid (HG6.out.andThen g7 (fun j hj => .inl (by injection hj with hj; have := HPn.out; omega))); clear B7 g7 s7))
          clear HB6 HC6 HM6 HO6 HX6 HG6
          go_wp2_with fail
          refine wp_region_list (by kernel_rfl) [fun v _ => v = (Value.agg [Value.int .i64 H, Value.int .u64 (l : Int)].toArray), fun v _ => v = (Value.agg [Value.int .u64 (s : Int), Value.int .i64 ta].toArray), fun v _ => v = (Value.pointer (some ⟨p6, 1, none⟩)), fun v _ => v = (Value.int .i64 now), fun v _ => v = (Value.agg [Value.int .u64 (S1 : Int), Value.int .i64 T1].toArray), fun v _ => v = (Value.agg [Value.int .u64 (S1 : Int), Value.int .i64 T1].toArray), fun v _ => v = (Value.bool false)] (none) (fun _ => none) 7 (by kernel_rfl) (by kernel_rfl) (by kernel_rfl) (by kernel_rfl) (by decide) noRow_one (fun _ => .inl rfl) ⟨fun i v u u' hki h hg => h, fun i v u u' hki h hg => h, fun i v u u' hki h hg => h, fun i v u u' hki h hg => h, fun i v u u' hki h hg => h, fun i v u u' hki h hg => h, fun i v u u' hki h hg => h, trivial⟩ ⟨?_, ?_, ?_, ?_, ?_, ?_, ?_, trivial⟩ ?_
          · intro A u hu hpu hsz hout hdeps
            have e3 : A.eval (.tmp 3) = (.pointer (some ⟨p3, 0, none⟩)) := (hout 3 (by kernel_rfl)).trans rfl
            refine ifw_none rfl ?_
            with_reducible refine shown_q (Value.agg [Value.int .i64 H, Value.int .u64 (l : Int)].toArray) ?qq_3_0 (fun _ _ => ?qr_3_0)
            case qr_3_0 => exact (rfl : (Value.agg [Value.int .i64 H, Value.int .u64 (l : Int)].toArray) = (Value.agg [Value.int .i64 H, Value.int .u64 (l : Int)].toArray))
            with_reducible refine quietAt_load 28 (.tmp 3) ?h0_3_0 p3 0 [Value.int .i64 H, Value.int .u64 (l : Int)] (.struct (Try.prog.fieldsOf 28)) ?h1_3_0 ?h2_3_0 ?h3_3_0 ?h4_3_0 ?h5_3_0
            case h0_3_0 => rfl
            case h1_3_0 => exact e3
            case h2_3_0 => exact (HC7.out.keep hu).whole
            case h3_3_0 => exact Try.underlying28
            case h4_3_0 => rfl
            case h5_3_0 => exact Try.size28
          · intro A u hu hpu hsz hout hdeps
            have e7 : A.eval (.tmp 7) = (.pointer (some ⟨p7, 0, none⟩)) := (hout 7 (by kernel_rfl)).trans rfl
            refine ifw_none rfl ?_
            with_reducible refine shown_q (Value.agg [Value.int .u64 (s : Int), Value.int .i64 ta].toArray) ?qq_3_1 (fun _ _ => ?qr_3_1)
            case qr_3_1 => exact (rfl : (Value.agg [Value.int .u64 (s : Int), Value.int .i64 ta].toArray) = (Value.agg [Value.int .u64 (s : Int), Value.int .i64 ta].toArray))
            with_reducible refine quietAt_load 37 (.tmp 7) ?h0_3_1 p7 0 [Value.int .u64 (s : Int), Value.int .i64 ta] (.struct (Try.prog.fieldsOf 37)) ?h1_3_1 ?h2_3_1 ?h3_3_1 ?h4_3_1 ?h5_3_1
            case h0_3_1 => rfl
            case h1_3_1 => exact e7
            case h2_3_1 => exact (HX7.out.keep hu).whole
            case h3_3_1 => exact Try.underlying37
            case h4_3_1 => rfl
            case h5_3_1 => exact Try.size37
          · intro A u hu hpu hsz hout hdeps
            have e6 : A.eval (.tmp 6) = (.pointer (some ⟨p6, 0, none⟩)) := (hout 6 (by kernel_rfl)).trans rfl
            refine ifw_none rfl ?_
            with_reducible refine shown_q (Value.pointer (some ⟨p6, 1, none⟩)) ?qq_3_2 (fun _ _ => ?qr_3_2)
            case qr_3_2 => exact (rfl : (Value.pointer (some ⟨p6, 1, none⟩)) = (Value.pointer (some ⟨p6, 1, none⟩)))
            with_reducible refine quietAt_field 39 (.tmp 6) 1 ?h0_3_2 ⟨p6, 0, none⟩ ⟨p6, 1, none⟩ ?h1_3_2 ?h2_3_2
            case h0_3_2 => rfl
            case h1_3_2 => exact e6
            case h2_3_2 => kernel_rfl
          · intro A u hu hpu hsz hout hdeps
            have e67 : A.eval (.tmp 67) = (.pointer (some ⟨p6, 1, none⟩)) := by have h := depL hdeps 2 (by kernel_rfl) 67 (by kernel_rfl); exact h
            refine ifw_none rfl ?_
            with_reducible refine shown_q (Value.int .i64 now) ?qq_3_3 (fun _ _ => ?qr_3_3)
            case qr_3_3 => exact (rfl : (Value.int .i64 now) = (Value.int .i64 now))
            with_reducible refine quietAt_ld 2 (.tmp 67) (Value.pointer (some ⟨p6, 1, none⟩)) (Value.int .i64 now) ?h0_3_3 ?h1_3_3 ?h2_3_3
            case h0_3_3 => rfl
            case h1_3_3 => exact e67
            case h2_3_3 => exact ld2 ((HO7.out.keep hu).cell 1)
          · intro A u hu hpu hsz hout hdeps
            have e65 : A.eval (.tmp 65) = (.agg [.int .i64 H, .int .u64 (l : Int)].toArray) := by have h := depL hdeps 0 (by kernel_rfl) 65 (by kernel_rfl); exact h
            have e66 : A.eval (.tmp 66) = (.agg [.int .u64 (s : Int), .int .i64 ta].toArray) := by have h := depL hdeps 1 (by kernel_rfl) 66 (by kernel_rfl); exact h
            have e68 : A.eval (.tmp 68) = (.int .i64 now) := by have h := depL hdeps 3 (by kernel_rfl) 68 (by kernel_rfl); exact h
            refine ifw_none rfl ?_
            with_reducible refine shown_q (Value.agg [Value.int .u64 (S1 : Int), Value.int .i64 T1].toArray) ?qq_3_4 (fun _ _ => ?qr_3_4)
            case qr_3_4 => exact (rfl : (Value.agg [Value.int .u64 (S1 : Int), Value.int .i64 T1].toArray) = (Value.agg [Value.int .u64 (S1 : Int), Value.int .i64 T1].toArray))
            with_reducible refine quietAt_call 18 Try.f18 ?h0_3_4 ?h1_3_4 ?h2_3_4 #[.tmp 65, .tmp 66, .tmp 68] #[28, 37, 2] ?h3_3_4 (Value.agg [Value.int .u64 (S1 : Int), Value.int .i64 T1].toArray) #[(Value.agg [Value.int .i64 H, Value.int .u64 (l : Int)].toArray), (Value.agg [Value.int .u64 (s : Int), Value.int .i64 ta].toArray), (Value.int .i64 now)] ?h4_3_4 ?h5_3_4
            case h0_3_4 => exact Try.func18
            case h1_3_4 => kernel_rfl
            case h2_3_4 => kernel_rfl
            case h3_3_4 => rfl
            case h4_3_4 => exact map3 _ _ _ _ _ _ _ e65 e66 e68
            case h5_3_4 => exact HCp.out u
          · intro A u hu hpu hsz hout hdeps
            have e4 : A.eval (.tmp 4) = (.pointer (some ⟨p4, 0, none⟩)) := (hout 4 (by kernel_rfl)).trans rfl
            refine ifw_none rfl ?_
            with_reducible refine shown_q (Value.agg [Value.int .u64 (S1 : Int), Value.int .i64 T1].toArray) ?qq_3_5 (fun _ _ => ?qr_3_5)
            case qr_3_5 => exact (rfl : (Value.agg [Value.int .u64 (S1 : Int), Value.int .i64 T1].toArray) = (Value.agg [Value.int .u64 (S1 : Int), Value.int .i64 T1].toArray))
            with_reducible refine quietAt_load 37 (.tmp 4) ?h0_3_5 p4 0 [Value.int .u64 (S1 : Int), Value.int .i64 T1] (.struct (Try.prog.fieldsOf 37)) ?h1_3_5 ?h2_3_5 ?h3_3_5 ?h4_3_5 ?h5_3_5
            case h0_3_5 => rfl
            case h1_3_5 => exact e4
            case h2_3_5 => exact (HM7.out.keep hu).whole
            case h3_3_5 => exact Try.underlying37
            case h4_3_5 => rfl
            case h5_3_5 => exact Try.size37
          · intro A u hu hpu hsz hout hdeps
            have e69 : A.eval (.tmp 69) = (.agg [.int .u64 (S1 : Int), .int .i64 T1].toArray) := by have h := depL hdeps 4 (by kernel_rfl) 69 (by kernel_rfl); exact h
            have e70 : A.eval (.tmp 70) = (.agg [.int .u64 (S1 : Int), .int .i64 T1].toArray) := by have h := depL hdeps 5 (by kernel_rfl) 70 (by kernel_rfl); exact h
            refine ifw_none rfl ?_
            with_reducible refine shown_q (Value.bool false) ?qq_3_6 (fun _ _ => ?qr_3_6)
            case qr_3_6 => exact (rfl : (Value.bool false) = (Value.bool false))
            with_reducible refine quietAt_bin .neq 37 (.tmp 69) (.tmp 70) 37 (Value.agg [Value.int .u64 (S1 : Int), Value.int .i64 T1].toArray) (Value.agg [Value.int .u64 (S1 : Int), Value.int .i64 T1].toArray) (Value.bool false) ?h0_3_6 ?h1_3_6 ?h2_3_6 ?h3_3_6
            case h0_3_6 => rfl
            case h1_3_6 => exact e69
            case h2_3_6 => exact e70
            case h3_3_6 => exact (by rw [neq37]; simp)
          · intro A w8 listed hh hall
            have hA := hh.frame
            have HU := hid hh.grown
            obtain ⟨x65, hx65⟩ : ∃ x, A.eval (.tmp 65) = x := ⟨_, rfl⟩
            have f65 : (fun v _ => v = (Value.agg [Value.int .i64 H, Value.int .u64 (l : Int)].toArray)) x65 w8 := by rw [← hx65]; exact hh.got 0 _ 65 rfl rfl (hall 0 (by decide))
            obtain ⟨x66, hx66⟩ : ∃ x, A.eval (.tmp 66) = x := ⟨_, rfl⟩
            have f66 : (fun v _ => v = (Value.agg [Value.int .u64 (s : Int), Value.int .i64 ta].toArray)) x66 w8 := by rw [← hx66]; exact hh.got 1 _ 66 rfl rfl (hall 1 (by decide))
            obtain ⟨x67, hx67⟩ : ∃ x, A.eval (.tmp 67) = x := ⟨_, rfl⟩
            have f67 : (fun v _ => v = (Value.pointer (some ⟨p6, 1, none⟩))) x67 w8 := by rw [← hx67]; exact hh.got 2 _ 67 rfl rfl (hall 2 (by decide))
            obtain ⟨x68, hx68⟩ : ∃ x, A.eval (.tmp 68) = x := ⟨_, rfl⟩
            have f68 : (fun v _ => v = (Value.int .i64 now)) x68 w8 := by rw [← hx68]; exact hh.got 3 _ 68 rfl rfl (hall 3 (by decide))
            obtain ⟨x69, hx69⟩ : ∃ x, A.eval (.tmp 69) = x := ⟨_, rfl⟩
            have f69 : (fun v _ => v = (Value.agg [Value.int .u64 (S1 : Int), Value.int .i64 T1].toArray)) x69 w8 := by rw [← hx69]; exact hh.got 4 _ 69 rfl rfl (hall 4 (by decide))
            obtain ⟨x70, hx70⟩ : ∃ x, A.eval (.tmp 70) = x := ⟨_, rfl⟩
            have f70 : (fun v _ => v = (Value.agg [Value.int .u64 (S1 : Int), Value.int .i64 T1].toArray)) x70 w8 := by rw [← hx70]; exact hh.got 5 _ 70 rfl rfl (hall 5 (by decide))
            obtain ⟨x71, hx71⟩ : ∃ x, A.eval (.tmp 71) = x := ⟨_, rfl⟩
            have f71 : (fun v _ => v = (Value.bool false)) x71 w8 := by rw [← hx71]; exact hh.got 6 _ 71 rfl rfl (hall 6 (by decide))
            dsimp only [wrote, List.foldl] at hA
            rw [hx65, hx66, hx67, hx68, hx69, hx70, hx71] at hA
            clear hh hall hx65 hx66 hx67 hx68 hx69 hx70 hx71
            replace f65 := (f65 : x65 = (.agg [.int .i64 H, .int .u64 (l : Int)].toArray))
            subst f65
            replace f66 := (f66 : x66 = (.agg [.int .u64 (s : Int), .int .i64 ta].toArray))
            subst f66
            replace f67 := (f67 : x67 = (.pointer (some ⟨p6, 1, none⟩)))
            subst f67
            replace f68 := (f68 : x68 = (.int .i64 now))
            subst f68
            replace f69 := (f69 : x69 = (.agg [.int .u64 (S1 : Int), .int .i64 T1].toArray))
            subst f69
            replace f70 := (f70 : x70 = (.agg [.int .u64 (S1 : Int), .int .i64 T1].toArray))
            subst f70
            replace f71 := (f71 : x71 = (.bool false))
            subst f71
            subst hA
            show wpList _ _ _ [] _ _
            unfold wpList
            simp only [Act.put, List.setIfInBounds_toArray, List.set_cons_succ, List.set_cons_zero]
            have HB8 := hid (HB7.out.keep HU.out)
            have HC8 := hid (HC7.out.keep HU.out)
            have HM8 := hid (HM7.out.keep HU.out)
            have HG8 := hid (gtrans HG7.out HU.out)
            go_wp2_with fail
            go_roundw
            case rel => exact ⟨i + 1, S1, T1, by go_num, by omega, HFN, HB8, HC8, HM8, HG8⟩
            case measure => simp [intOf]; omega
      · as_aux_lemma =>
          obtain ⟨q1, q2, q3⟩ := HCK.out
          obtain ⟨j1, j2, j3⟩ := HF.out
          obtain ⟨k1, k2, k3, k4, k5⟩ := HK.out
          have HCr := hid (fun u => rlocked_any H l s ta now u q1 HHb.out j2 j3 k2 j1)
          have HCp := hid (fun u => locked_fin H l s ta now _ u HHb.out j2 j3 k2 j1 q3 rfl)
          obtain ⟨g, hg⟩ : ∃ g, decide (l ≤ nowS H s ta now) = g := ⟨_, rfl⟩
          rw [hg] at HCr HCp
          have HNe : Hid (∀ (x y : Operand) (u : World), (do eqGuard .neq 4 x y (.bool g) (.bool g); binOp .neq 4 (.bool g) (.bool g) : Sem Value).run Try.prog u = .ok (.bool false) u) := hid (fun x y u => by cases g <;> go_simp)
          clear q1 q2 q3 j1 j2 j3 k1 k2 k3 k4 k5 hg
          go_upto_region 22 with fail
          clear o0 o1
          go_wp2_with fail
          refine wp_region_list (by kernel_rfl) [fun v _ => v = (Value.agg [Value.int .i64 H, Value.int .u64 (l : Int)].toArray), fun v _ => v = (Value.agg [Value.int .u64 (s : Int), Value.int .i64 ta].toArray), fun v _ => v = (Value.pointer (some ⟨p6, 1, none⟩)), fun v _ => v = (Value.int .i64 now), fun v _ => v = (Value.bool g), fun v _ => v = (Value.agg [Value.int .i64 H, Value.int .u64 (l : Int)].toArray), fun v _ => v = (Value.agg [Value.int .u64 (s : Int), Value.int .i64 ta].toArray), fun v _ => v = (Value.pointer (some ⟨p6, 1, none⟩)), fun v _ => v = (Value.int .i64 now), fun v _ => v = (Value.bool g), fun v _ => v = (Value.bool false)] (none) (fun _ => none) 11 (by kernel_rfl) (by kernel_rfl) (by kernel_rfl) (by kernel_rfl) (by decide) noRow_one (fun _ => .inl rfl) ⟨fun i v u u' hki h hg => h, fun i v u u' hki h hg => h, fun i v u u' hki h hg => h, fun i v u u' hki h hg => h, fun i v u u' hki h hg => h, fun i v u u' hki h hg => h, fun i v u u' hki h hg => h, fun i v u u' hki h hg => h, fun i v u u' hki h hg => h, fun i v u u' hki h hg => h, fun i v u u' hki h hg => h, trivial⟩ ⟨?_, ?_, ?_, ?_, ?_, ?_, ?_, ?_, ?_, ?_, ?_, trivial⟩ ?_
          · intro A u hu hpu hsz hout hdeps
            have e3 : A.eval (.tmp 3) = (.pointer (some ⟨p3, 0, none⟩)) := (hout 3 (by kernel_rfl)).trans rfl
            refine ifw_none rfl ?_
            with_reducible refine shown_q (Value.agg [Value.int .i64 H, Value.int .u64 (l : Int)].toArray) ?qq_4_0 (fun _ _ => ?qr_4_0)
            case qr_4_0 => exact (rfl : (Value.agg [Value.int .i64 H, Value.int .u64 (l : Int)].toArray) = (Value.agg [Value.int .i64 H, Value.int .u64 (l : Int)].toArray))
            with_reducible refine quietAt_load 28 (.tmp 3) ?h0_4_0 p3 0 [Value.int .i64 H, Value.int .u64 (l : Int)] (.struct (Try.prog.fieldsOf 28)) ?h1_4_0 ?h2_4_0 ?h3_4_0 ?h4_4_0 ?h5_4_0
            case h0_4_0 => rfl
            case h1_4_0 => exact e3
            case h2_4_0 => exact (HC5.out.keep hu).whole
            case h3_4_0 => exact Try.underlying28
            case h4_4_0 => rfl
            case h5_4_0 => exact Try.size28
          · intro A u hu hpu hsz hout hdeps
            have e7 : A.eval (.tmp 7) = (.pointer (some ⟨p7, 0, none⟩)) := (hout 7 (by kernel_rfl)).trans rfl
            refine ifw_none rfl ?_
            with_reducible refine shown_q (Value.agg [Value.int .u64 (s : Int), Value.int .i64 ta].toArray) ?qq_4_1 (fun _ _ => ?qr_4_1)
            case qr_4_1 => exact (rfl : (Value.agg [Value.int .u64 (s : Int), Value.int .i64 ta].toArray) = (Value.agg [Value.int .u64 (s : Int), Value.int .i64 ta].toArray))
            with_reducible refine quietAt_load 37 (.tmp 7) ?h0_4_1 p7 0 [Value.int .u64 (s : Int), Value.int .i64 ta] (.struct (Try.prog.fieldsOf 37)) ?h1_4_1 ?h2_4_1 ?h3_4_1 ?h4_4_1 ?h5_4_1
            case h0_4_1 => rfl
            case h1_4_1 => exact e7
            case h2_4_1 => exact (HX5.out.keep hu).whole
            case h3_4_1 => exact Try.underlying37
            case h4_4_1 => rfl
            case h5_4_1 => exact Try.size37
          · intro A u hu hpu hsz hout hdeps
            have e6 : A.eval (.tmp 6) = (.pointer (some ⟨p6, 0, none⟩)) := (hout 6 (by kernel_rfl)).trans rfl
            refine ifw_none rfl ?_
            with_reducible refine shown_q (Value.pointer (some ⟨p6, 1, none⟩)) ?qq_4_2 (fun _ _ => ?qr_4_2)
            case qr_4_2 => exact (rfl : (Value.pointer (some ⟨p6, 1, none⟩)) = (Value.pointer (some ⟨p6, 1, none⟩)))
            with_reducible refine quietAt_field 39 (.tmp 6) 1 ?h0_4_2 ⟨p6, 0, none⟩ ⟨p6, 1, none⟩ ?h1_4_2 ?h2_4_2
            case h0_4_2 => rfl
            case h1_4_2 => exact e6
            case h2_4_2 => kernel_rfl
          · intro A u hu hpu hsz hout hdeps
            have e76 : A.eval (.tmp 76) = (.pointer (some ⟨p6, 1, none⟩)) := by have h := depL hdeps 2 (by kernel_rfl) 76 (by kernel_rfl); exact h
            refine ifw_none rfl ?_
            with_reducible refine shown_q (Value.int .i64 now) ?qq_4_3 (fun _ _ => ?qr_4_3)
            case qr_4_3 => exact (rfl : (Value.int .i64 now) = (Value.int .i64 now))
            with_reducible refine quietAt_ld 2 (.tmp 76) (Value.pointer (some ⟨p6, 1, none⟩)) (Value.int .i64 now) ?h0_4_3 ?h1_4_3 ?h2_4_3
            case h0_4_3 => rfl
            case h1_4_3 => exact e76
            case h2_4_3 => exact ld2 ((HO5.out.keep hu).cell 1)
          · intro A u hu hpu hsz hout hdeps
            have e74 : A.eval (.tmp 74) = (.agg [.int .i64 H, .int .u64 (l : Int)].toArray) := by have h := depL hdeps 0 (by kernel_rfl) 74 (by kernel_rfl); exact h
            have e75 : A.eval (.tmp 75) = (.agg [.int .u64 (s : Int), .int .i64 ta].toArray) := by have h := depL hdeps 1 (by kernel_rfl) 75 (by kernel_rfl); exact h
            have e77 : A.eval (.tmp 77) = (.int .i64 now) := by have h := depL hdeps 3 (by kernel_rfl) 77 (by kernel_rfl); exact h
            refine ifw_none rfl ?_
            with_reducible refine shown_q (Value.bool g) ?qq_4_4 (fun _ _ => ?qr_4_4)
            case qr_4_4 => exact (rfl : (Value.bool g) = (Value.bool g))
            with_reducible refine quietAt_call 19 Try.f19 ?h0_4_4 ?h1_4_4 ?h2_4_4 #[.tmp 74, .tmp 75, .tmp 77] #[28, 37, 2] ?h3_4_4 (Value.bool g) #[(Value.agg [Value.int .i64 H, Value.int .u64 (l : Int)].toArray), (Value.agg [Value.int .u64 (s : Int), Value.int .i64 ta].toArray), (Value.int .i64 now)] ?h4_4_4 ?h5_4_4
            case h0_4_4 => exact Try.func19
            case h1_4_4 => kernel_rfl
            case h2_4_4 => kernel_rfl
            case h3_4_4 => rfl
            case h4_4_4 => exact map3 _ _ _ _ _ _ _ e74 e75 e77
            case h5_4_4 => exact HCp.out u
          · intro A u hu hpu hsz hout hdeps
            have e3 : A.eval (.tmp 3) = (.pointer (some ⟨p3, 0, none⟩)) := (hout 3 (by kernel_rfl)).trans rfl
            refine ifw_none rfl ?_
            with_reducible refine shown_q (Value.agg [Value.int .i64 H, Value.int .u64 (l : Int)].toArray) ?qq_4_5 (fun _ _ => ?qr_4_5)
            case qr_4_5 => exact (rfl : (Value.agg [Value.int .i64 H, Value.int .u64 (l : Int)].toArray) = (Value.agg [Value.int .i64 H, Value.int .u64 (l : Int)].toArray))
            with_reducible refine quietAt_load 28 (.tmp 3) ?h0_4_5 p3 0 [Value.int .i64 H, Value.int .u64 (l : Int)] (.struct (Try.prog.fieldsOf 28)) ?h1_4_5 ?h2_4_5 ?h3_4_5 ?h4_4_5 ?h5_4_5
            case h0_4_5 => rfl
            case h1_4_5 => exact e3
            case h2_4_5 => exact (HC5.out.keep hu).whole
            case h3_4_5 => exact Try.underlying28
            case h4_4_5 => rfl
            case h5_4_5 => exact Try.size28
          · intro A u hu hpu hsz hout hdeps
            have e7 : A.eval (.tmp 7) = (.pointer (some ⟨p7, 0, none⟩)) := (hout 7 (by kernel_rfl)).trans rfl
            refine ifw_none rfl ?_
            with_reducible refine shown_q (Value.agg [Value.int .u64 (s : Int), Value.int .i64 ta].toArray) ?qq_4_6 (fun _ _ => ?qr_4_6)
            case qr_4_6 => exact (rfl : (Value.agg [Value.int .u64 (s : Int), Value.int .i64 ta].toArray) = (Value.agg [Value.int .u64 (s : Int), Value.int .i64 ta].toArray))
            with_reducible refine quietAt_load 37 (.tmp 7) ?h0_4_6 p7 0 [Value.int .u64 (s : Int), Value.int .i64 ta] (.struct (Try.prog.fieldsOf 37)) ?h1_4_6 ?h2_4_6 ?h3_4_6 ?h4_4_6 ?h5_4_6
            case h0_4_6 => rfl
            case h1_4_6 => exact e7
            case h2_4_6 => exact (HX5.out.keep hu).whole
            case h3_4_6 => exact Try.underlying37
            case h4_4_6 => rfl
            case h5_4_6 => exact Try.size37
          · intro A u hu hpu hsz hout hdeps
            have e6 : A.eval (.tmp 6) = (.pointer (some ⟨p6, 0, none⟩)) := (hout 6 (by kernel_rfl)).trans rfl
            refine ifw_none rfl ?_
            with_reducible refine shown_q (Value.pointer (some ⟨p6, 1, none⟩)) ?qq_4_7 (fun _ _ => ?qr_4_7)
            case qr_4_7 => exact (rfl : (Value.pointer (some ⟨p6, 1, none⟩)) = (Value.pointer (some ⟨p6, 1, none⟩)))
            with_reducible refine quietAt_field 39 (.tmp 6) 1 ?h0_4_7 ⟨p6, 0, none⟩ ⟨p6, 1, none⟩ ?h1_4_7 ?h2_4_7
            case h0_4_7 => rfl
            case h1_4_7 => exact e6
            case h2_4_7 => kernel_rfl
          · intro A u hu hpu hsz hout hdeps
            have e81 : A.eval (.tmp 81) = (.pointer (some ⟨p6, 1, none⟩)) := by have h := depL hdeps 7 (by kernel_rfl) 81 (by kernel_rfl); exact h
            refine ifw_none rfl ?_
            with_reducible refine shown_q (Value.int .i64 now) ?qq_4_8 (fun _ _ => ?qr_4_8)
            case qr_4_8 => exact (rfl : (Value.int .i64 now) = (Value.int .i64 now))
            with_reducible refine quietAt_ld 2 (.tmp 81) (Value.pointer (some ⟨p6, 1, none⟩)) (Value.int .i64 now) ?h0_4_8 ?h1_4_8 ?h2_4_8
            case h0_4_8 => rfl
            case h1_4_8 => exact e81
            case h2_4_8 => exact ld2 ((HO5.out.keep hu).cell 1)
          · intro A u hu hpu hsz hout hdeps
            have e79 : A.eval (.tmp 79) = (.agg [.int .i64 H, .int .u64 (l : Int)].toArray) := by have h := depL hdeps 5 (by kernel_rfl) 79 (by kernel_rfl); exact h
            have e80 : A.eval (.tmp 80) = (.agg [.int .u64 (s : Int), .int .i64 ta].toArray) := by have h := depL hdeps 6 (by kernel_rfl) 80 (by kernel_rfl); exact h
            have e82 : A.eval (.tmp 82) = (.int .i64 now) := by have h := depL hdeps 8 (by kernel_rfl) 82 (by kernel_rfl); exact h
            refine ifw_none rfl ?_
            with_reducible refine shown_q (Value.bool g) ?qq_4_9 (fun _ _ => ?qr_4_9)
            case qr_4_9 => exact (rfl : (Value.bool g) = (Value.bool g))
            with_reducible refine quietAt_call 20 Try.f20 ?h0_4_9 ?h1_4_9 ?h2_4_9 #[.tmp 79, .tmp 80, .tmp 82] #[28, 37, 2] ?h3_4_9 (Value.bool g) #[(Value.agg [Value.int .i64 H, Value.int .u64 (l : Int)].toArray), (Value.agg [Value.int .u64 (s : Int), Value.int .i64 ta].toArray), (Value.int .i64 now)] ?h4_4_9 ?h5_4_9
            case h0_4_9 => exact Try.func20
            case h1_4_9 => kernel_rfl
            case h2_4_9 => kernel_rfl
            case h3_4_9 => rfl
            case h4_4_9 => exact map3 _ _ _ _ _ _ _ e79 e80 e82
            case h5_4_9 => exact HCr.out u
          · intro A u hu hpu hsz hout hdeps
            have e78 : A.eval (.tmp 78) = (.bool g) := by have h := depL hdeps 4 (by kernel_rfl) 78 (by kernel_rfl); exact h
            have e83 : A.eval (.tmp 83) = (.bool g) := by have h := depL hdeps 9 (by kernel_rfl) 83 (by kernel_rfl); exact h
            refine ifw_none rfl ?_
            with_reducible refine shown_q (Value.bool false) ?qq_4_10 (fun _ _ => ?qr_4_10)
            case qr_4_10 => exact (rfl : (Value.bool false) = (Value.bool false))
            with_reducible refine quietAt_bin .neq 4 (.tmp 78) (.tmp 83) 4 (Value.bool g) (Value.bool g) (Value.bool false) ?h0_4_10 ?h1_4_10 ?h2_4_10 ?h3_4_10
            case h0_4_10 => rfl
            case h1_4_10 => exact e78
            case h2_4_10 => exact e83
            case h3_4_10 => exact HNe.out _ _ u
          · intro A w8 listed hh hall
            have hA := hh.frame
            have HU := hid hh.grown
            obtain ⟨x74, hx74⟩ : ∃ x, A.eval (.tmp 74) = x := ⟨_, rfl⟩
            have f74 : (fun v _ => v = (Value.agg [Value.int .i64 H, Value.int .u64 (l : Int)].toArray)) x74 w8 := by rw [← hx74]; exact hh.got 0 _ 74 rfl rfl (hall 0 (by decide))
            obtain ⟨x75, hx75⟩ : ∃ x, A.eval (.tmp 75) = x := ⟨_, rfl⟩
            have f75 : (fun v _ => v = (Value.agg [Value.int .u64 (s : Int), Value.int .i64 ta].toArray)) x75 w8 := by rw [← hx75]; exact hh.got 1 _ 75 rfl rfl (hall 1 (by decide))
            obtain ⟨x76, hx76⟩ : ∃ x, A.eval (.tmp 76) = x := ⟨_, rfl⟩
            have f76 : (fun v _ => v = (Value.pointer (some ⟨p6, 1, none⟩))) x76 w8 := by rw [← hx76]; exact hh.got 2 _ 76 rfl rfl (hall 2 (by decide))
            obtain ⟨x77, hx77⟩ : ∃ x, A.eval (.tmp 77) = x := ⟨_, rfl⟩
            have f77 : (fun v _ => v = (Value.int .i64 now)) x77 w8 := by rw [← hx77]; exact hh.got 3 _ 77 rfl rfl (hall 3 (by decide))
            obtain ⟨x78, hx78⟩ : ∃ x, A.eval (.tmp 78) = x := ⟨_, rfl⟩
            have f78 : (fun v _ => v = (Value.bool g)) x78 w8 := by rw [← hx78]; exact hh.got 4 _ 78 rfl rfl (hall 4 (by decide))
            obtain ⟨x79, hx79⟩ : ∃ x, A.eval (.tmp 79) = x := ⟨_, rfl⟩
            have f79 : (fun v _ => v = (Value.agg [Value.int .i64 H, Value.int .u64 (l : Int)].toArray)) x79 w8 := by rw [← hx79]; exact hh.got 5 _ 79 rfl rfl (hall 5 (by decide))
            obtain ⟨x80, hx80⟩ : ∃ x, A.eval (.tmp 80) = x := ⟨_, rfl⟩
            have f80 : (fun v _ => v = (Value.agg [Value.int .u64 (s : Int), Value.int .i64 ta].toArray)) x80 w8 := by rw [← hx80]; exact hh.got 6 _ 80 rfl rfl (hall 6 (by decide))
            obtain ⟨x81, hx81⟩ : ∃ x, A.eval (.tmp 81) = x := ⟨_, rfl⟩
            have f81 : (fun v _ => v = (Value.pointer (some ⟨p6, 1, none⟩))) x81 w8 := by rw [← hx81]; exact hh.got 7 _ 81 rfl rfl (hall 7 (by decide))
            obtain ⟨x82, hx82⟩ : ∃ x, A.eval (.tmp 82) = x := ⟨_, rfl⟩
            have f82 : (fun v _ => v = (Value.int .i64 now)) x82 w8 := by rw [← hx82]; exact hh.got 8 _ 82 rfl rfl (hall 8 (by decide))
            obtain ⟨x83, hx83⟩ : ∃ x, A.eval (.tmp 83) = x := ⟨_, rfl⟩
            have f83 : (fun v _ => v = (Value.bool g)) x83 w8 := by rw [← hx83]; exact hh.got 9 _ 83 rfl rfl (hall 9 (by decide))
            obtain ⟨x84, hx84⟩ : ∃ x, A.eval (.tmp 84) = x := ⟨_, rfl⟩
            have f84 : (fun v _ => v = (Value.bool false)) x84 w8 := by rw [← hx84]; exact hh.got 10 _ 84 rfl rfl (hall 10 (by decide))
            dsimp only [wrote, List.foldl] at hA
            rw [hx74, hx75, hx76, hx77, hx78, hx79, hx80, hx81, hx82, hx83, hx84] at hA
            clear hh hall hx74 hx75 hx76 hx77 hx78 hx79 hx80 hx81 hx82 hx83 hx84
            replace f74 := (f74 : x74 = (.agg [.int .i64 H, .int .u64 (l : Int)].toArray))
            subst f74
            replace f75 := (f75 : x75 = (.agg [.int .u64 (s : Int), .int .i64 ta].toArray))
            subst f75
            replace f76 := (f76 : x76 = (.pointer (some ⟨p6, 1, none⟩)))
            subst f76
            replace f77 := (f77 : x77 = (.int .i64 now))
            subst f77
            replace f78 := (f78 : x78 = (.bool g))
            subst f78
            replace f79 := (f79 : x79 = (.agg [.int .i64 H, .int .u64 (l : Int)].toArray))
            subst f79
            replace f80 := (f80 : x80 = (.agg [.int .u64 (s : Int), .int .i64 ta].toArray))
            subst f80
            replace f81 := (f81 : x81 = (.pointer (some ⟨p6, 1, none⟩)))
            subst f81
            replace f82 := (f82 : x82 = (.int .i64 now))
            subst f82
            replace f83 := (f83 : x83 = (.bool g))
            subst f83
            replace f84 := (f84 : x84 = (.bool false))
            subst f84
            subst hA
            show wpList _ _ _ [] _ _
            unfold wpList
            simp only [Act.put, List.setIfInBounds_toArray, List.set_cons_succ, List.set_cons_zero]
            have HB8 := hid (HB5.out.keep HU.out)
            have HC8 := hid (HC5.out.keep HU.out)
            have HM8 := hid (HM5.out.keep HU.out)
            have HG8 := hid (gtrans HG5.out HU.out)
            go_wp2_with fail
            go_roundw
            case rel => exact ⟨i + 1, s, ta, by go_num, by omega, HF, HB8, HC8, HM8, HG8⟩
            case measure => simp [intOf]; omega
      · as_aux_lemma =>
          obtain ⟨q1, q2, q3⟩ := HCK.out
          obtain ⟨j1, j2, j3⟩ := HF.out
          obtain ⟨k1, k2, k3, k4, k5⟩ := HK.out
          have HCr := hid (fun u => rwait_any H l s ta now u q1 HHb.out j2 j3 k2 j1 k1 (by omega))
          have HCp := hid (fun u => wait_any H l s ta now u HHb.out j2 j3 k2 k1)
          have HQ : Hid (Fnt s ∧ Fnt l ∧ 0 < l) := hid ⟨j1, q3, by omega⟩
          clear q1 q2 q3 j1 j2 j3 k1 k2 k3 k4 k5
          go_wp2_with (first
            | ((with_reducible refine wpList_load_part (by with_unfolding_all rfl) 28 _ (by with_unfolding_all rfl) _ 0 [.int .i64 H, .int .u64 (l : Int)] _ (by with_unfolding_all rfl) HC5.out.whole Try.underlying28 (by with_unfolding_all rfl) (by with_unfolding_all exact Try.size28) ?_))
            | ((with_reducible refine wpList_load_part (by with_unfolding_all rfl) 37 _ (by with_unfolding_all rfl) _ 0 [.int .u64 (s : Int), .int .i64 ta] _ (by with_unfolding_all rfl) HX5.out.whole Try.underlying37 (by with_unfolding_all rfl) (by with_unfolding_all exact Try.size37) ?_)))
          refine (HCp.out _).mono ?_
          rintro e w6 ⟨x, bx, rfl, hw, hg⟩
          have HW := hid (hw HQ.out.1 HQ.out.2.1 HQ.out.2.2)
          clear hw o0 o1
          have HB6 := hid (HB5.out.keep hg)
          have HC6 := hid (HC5.out.keep hg)
          have HM6 := hid (HM5.out.keep hg)
          have HO6 := hid (HO5.out.keep hg)
          have HX6 := hid (HX5.out.keep hg)
          have HG6 := hid (gtrans HG5.out hg)
          clear hg HB5 HC5 HM5 HO5 HX5 HG5
          have o1 := HO6.out.cell 1
          go_wp2_with (first
            | ((with_reducible refine wpList_load_part (by with_unfolding_all rfl) 28 _ (by with_unfolding_all rfl) _ 0 [.int .i64 H, .int .u64 (l : Int)] _ (by with_unfolding_all rfl) HC6.out.whole Try.underlying28 (by with_unfolding_all rfl) (by with_unfolding_all exact Try.size28) ?_))
            | ((with_reducible refine wpList_load_part (by with_unfolding_all rfl) 37 _ (by with_unfolding_all rfl) _ 0 [.int .u64 (s : Int), .int .i64 ta] _ (by with_unfolding_all rfl) HX6.out.whole Try.underlying37 (by with_unfolding_all rfl) (by with_unfolding_all exact Try.size37) ?_)))
          refine (HCr.out _).mono ?_
          rintro e w7 ⟨x2, bx2, rfl, hw, hg⟩
          obtain ⟨rfl, rfl⟩ := HW.out.eq hw
          clear hw HW o1
          have HB7 := hid (HB6.out.keep hg)
          have HC7 := hid (HC6.out.keep hg)
          have HM7 := hid (HM6.out.keep hg)
          have HO7 := hid (HO6.out.keep hg)
          have HX7 := hid (HX6.out.keep hg)
          have HG7 := hid (gtrans HG6.out hg)
          clear hg HB6 HC6 HM6 HO6 HX6 HG6
          cases bx with
          | false =>
            go_wp2_with fail
            go_roundw
            case rel => exact ⟨i + 1, s, ta, by go_num, by omega, HF, HB7, HC7, HM7, HG7⟩
            case measure => simp [intOf]; omega
          | true =>
            go_wp2_with fail
            go_roundw
            case rel => exact ⟨i + 1, s, ta, by go_num, by omega, HF, HB7, HC7, HM7, HG7⟩
            case measure => simp [intOf]; omega
      · as_aux_lemma =>
          have HFi := hid (fun u => fine_int (s2 : Int) u)
          have o2 := HO5.out.cell 2
          by_cases hf : (s2 : Int) < 9218868437227405312
          · rw [decide_eq_true hf] at HFi
            have HFN : Hid (Fnt s2 ∧ -9223372036854775808 ≤ ta2 ∧ ta2 ≤ 9223372036854775807) := hid ⟨by unfold Fnt; omega, HK.out.2.2.2.1, HK.out.2.2.2.2⟩
            clear hf
            go_wp2_with fail
            refine (HFi.out _).mono ?_
            rintro e w6 ⟨rfl, rfl⟩
            have HO6 := HO5
            clear o0 o1 o2
            go_wp2_with (first
              | ((with_reducible refine wpList_load_part (by with_unfolding_all rfl) 37 _ (by with_unfolding_all rfl) _ 2 [.int .u64 (s2 : Int), .int .i64 ta2] _ (by with_unfolding_all rfl) (HO6.out.range [.int .i64 6, .int .i64 now] [.int .u64 (s2 : Int), .int .i64 ta2] [] 2 rfl rfl) Try.underlying37 (by with_unfolding_all rfl) (by with_unfolding_all exact Try.size37) ?_))
              | ((with_reducible refine wpList_store_all (by with_unfolding_all rfl) 37 _ _ (by with_unfolding_all rfl) _ [.int .u64 (s : Int), .int .i64 ta] [.int .u64 (s2 : Int), .int .i64 ta2] 37 (by with_unfolding_all rfl) (by with_unfolding_all rfl) HM5.out (by with_unfolding_all rfl) (by with_unfolding_all exact Try.size37) (one2 _ _ _ _) ?_); intro w7 B7 g7 s7; have HM7 := hid B7; have HB7 := hid (HB5.out.on g7 (by have := HPn.out; simp; omega)); have HC7 := hid (HC5.out.on g7 (by have := HPn.out; simp; omega)); have HG7 := hid (HG5.out.andThen g7 (fun j hj => .inl (by injection hj with hj; have := HPn.out; omega))); clear B7 g7 s7))
            go_wp2_with fail
            go_roundw
            case rel => exact ⟨i + 1, s2, ta2, by go_num, by omega, HFN, HB7, HC7, HM7, HG7⟩
            case measure => simp [intOf]; omega
          · rw [decide_eq_false hf] at HFi
            clear hf
            go_wp2_with fail
            refine (HFi.out _).mono ?_
            rintro e w6 ⟨rfl, rfl⟩
            clear o0 o1 o2
            go_wp2_with fail
            go_roundw
            case rel => exact ⟨i + 1, s, ta, by go_num, by omega, HF, HB5, HC5, HM5, HG5⟩
            case measure => simp [intOf]; omega
      · as_aux_lemma =>
          clear o1
          go_wp2_with fail
          go_roundw
          case rel => exact ⟨i + 1, s, ta, by go_num, by omega, HF, HB5, HC5, HM5, HG5⟩
          case measure => simp [intOf]; omega
    · have hlt' : ¬ (i : Int) < (n : Int) := by omega
      go_wp2_with fail
      refine (wakes_any _).mono ?_
      rintro e w2 ⟨rfl, hg2⟩
      have HG2 := hid (gtrans HG.out hg2)
      go_wp2_with fail
      go_ret
      exact ⟨rfl, HG2.out⟩
end Go.Proofs.Ytnbcplpmpocbpaa
