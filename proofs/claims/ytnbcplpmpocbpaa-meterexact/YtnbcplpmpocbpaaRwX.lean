/- MeterRaw: its walk. -/
import Derived.Test.YtnbcplpmpocbpaaChX
namespace Go.Proofs.Ytnbcplpmpocbpaa
open Go Go.RowKit
open Go.RowKit (wrap32 wrap64)

theorem Try.zero39 : (Try.prog.info? 39).map (fun i => i.zero) = some (some (.agg [Value.int .i64 0, .int .i64 0, .int .u64 0, .int .i64 0].toArray)) := by kernel_rfl
theorem Try.size39 : (Try.prog.info? 39).map (·.size) = some 4 := by kernel_rfl
theorem one4 (kd now s ta : Int) : ∀ v ∈ [Value.int .i64 kd, .int .i64 now, .int .u64 s, .int .i64 ta], v.oneCell' = true := by
  intro v hv
  simp at hv
  rcases hv with rfl | rfl | rfl | rfl <;> rfl
set_option maxRecDepth 100000 in
set_option maxHeartbeats 1600000 in
theorem raw_walk (w : World) (p : Int × Nat) (a : Option Addr) (b off n c : Nat) (f : Nat → Opn) (hp : lkOk p) (hn : n ≤ 140737488355328) (hr : RowsO w a b off n f) :
    Calls Try.prog 5 #[.agg #[.int .i64 p.1, .int .u64 (p.2 : Int), .slice a n c]] w fun e w' => e = .returned (.bool true) ∧ w.grownBy w' none := by
  obtain ⟨H, l⟩ := p
  have HR := hid hr
  have HP := hid hp
  show Calls Try.prog 5 #[.agg #[.int .i64 H, .int .u64 (l : Int), .slice a n c]] w _
  clear hr hp
  go_enter Try.func5, Try.ntmps5
  go_wp2_with (first
    | ((with_reducible refine wpList_box_row (by with_unfolding_all rfl) 34 _ (by with_unfolding_all rfl) [.int .i64 H, .int .u64 (l : Int), .slice a n c] (by with_unfolding_all rfl) ?_); intro w1 B1 s1 g1; have HB1 := hid B1; have HG1 := hid g1; clear B1 s1 g1))
  obtain ⟨p1, hp1⟩ : ∃ x, w.heap.size = x := ⟨_, rfl⟩
  have HP1 : Hid (w.heap.size ≤ p1) := hid (by omega)
  rw [hp1] at HB1
  simp only [hp1]
  clear hp1
  go_loopw [3] (fun iv wr => ∃ i : Nat, iv = .int .i64 i ∧ i ≤ n ∧ Hid (Blk wr p1 [.int .i64 H, .int .u64 (l : Int), .slice a n c] 34) ∧ Hid (w.grownBy wr none)) (fun iv _ => n - (intOf iv).toNat)
  case atStart => exact ⟨0, rfl, Nat.zero_le _, HB1, HG1⟩
  case round =>
    obtain ⟨i, rfl, hi, HB, HG⟩ := hrel
    clear HB1 HG1
    have x0 := HB.out.cell 0
    have x1 := HB.out.cell 1
    have x2 := HB.out.cell 2
    by_cases hlt : i < n
    · have hlt' : (i : Int) < (n : Int) := by omega
      by_cases h200 : i < 200
      · have h200' : (i : Int) < 200 := by omega
        obtain ⟨⟨kd, now, s, ta⟩, ho⟩ : ∃ o, f i = o := ⟨_, rfl⟩
        obtain ⟨hra, hok⟩ := HR.out.2 i hlt
        obtain ⟨rfl, hbl⟩ := HR.out.1 (by omega)
        rw [ho] at hra hok
        obtain ⟨k1, k2, k3, k4, k5⟩ := hok
        obtain ⟨j1, j2, j3⟩ := HP.out
        have HRa : Hid (wr.rangeAt b (off + i * 4) [.int .i64 kd, .int .i64 now, .int .u64 (s : Int), .int .i64 ta]) := hid (range_at HG.out hbl (by simp) hra)
        have HCk := hid (fun u => check_any H l j3 u)
        have HNw := hid (fun u => now_any H l s ta now u j2 k4 k5 k2)
        have HFl := hid (fun u => fail_any H l s ta now u j2 k4 k5 k2)
        have HPs := hid (fun u => pass_any H l s ta now u j2 k4 k5 k2)
        have HLk := hid (fun u => locked_any H l s ta now u j2 k4 k5 k2)
        have HWt := hid (fun u => wait_any H l s ta now u j2 k4 k5 k2 k1)
        clear ho hra k1 k2 k3 k4 k5 j1 j2 j3 hbl
        go_wp2_with (first
          | (have := HO3; clear this; (with_reducible refine wpList_load_part (by with_unfolding_all rfl) 28 _ (by with_unfolding_all rfl) p1 0 [.int .i64 H, .int .u64 (l : Int)] _ (by with_unfolding_all rfl) (HB3.out.range [] [.int .i64 H, .int .u64 (l : Int)] [.slice _ n c] 0 rfl rfl) Try.underlying28 (by with_unfolding_all rfl) (by with_unfolding_all exact Try.size28) ?_))
          | ((with_reducible refine wpList_store_all (by with_unfolding_all rfl) 39 _ _ (by with_unfolding_all rfl) _ [.int .i64 0, .int .i64 0, .int .u64 0, .int .i64 0] [.int .i64 kd, .int .i64 now, .int .u64 (s : Int), .int .i64 ta] 39 (by with_unfolding_all rfl) (by with_unfolding_all rfl) HO2.out (by with_unfolding_all rfl) (by with_unfolding_all exact Try.size39) (one4 _ _ _ _) ?_); intro w3 B3 g3 s3; have HO3 := hid B3; have HB3 := hid (HB2.out.on g3 (by have := HB.out.lt; simp; omega)); have HG3 := hid (HG2.out.andThen g3 (fun j hj => .inl (by injection hj with hj; have := HG.out.size; omega))); have y1 := HO3.out.cell 1; have zz := HB3; clear B3 g3 s3)
          | ((with_reducible refine wpList_alloc_row (by with_unfolding_all rfl) 39 (by with_unfolding_all rfl) [.int .i64 0, .int .i64 0, .int .u64 0, .int .i64 0] Try.zero39 ?_); intro w2 B2 s2 g2; have HO2 := hid B2; have HB2 := hid (HB.out.keep g2); have HG2 := hid (gtrans HG.out g2); clear B2 s2 g2)
          | (with_reducible refine wpList_load_part (by with_unfolding_all rfl) 39 _ (by with_unfolding_all rfl) b (off + i * 4) [.int .i64 kd, .int .i64 now, .int .u64 (s : Int), .int .i64 ta] _ (by with_unfolding_all rfl) HRa.out Try.underlying39 (by with_unfolding_all rfl) (by with_unfolding_all exact Try.size39) ?_))
        clear y1 zz
        clear HO2 HB2 HG2 HB HG x0 x1 x2
        refine (HCk.out _).mono ?_
        rintro e w4 ⟨rfl, hg⟩
        have HO4 := hid (HO3.out.keep hg)
        have HB4 := hid (HB3.out.keep hg)
        have HG4 := hid (gtrans HG3.out hg)
        have y1 := HO4.out.cell 1
        clear hg HO3 HB3 HG3
        go_wp2_with (first
          | (have := HO4; clear this; (with_reducible refine wpList_load_part (by with_unfolding_all rfl) 28 _ (by with_unfolding_all rfl) p1 0 [.int .i64 H, .int .u64 (l : Int)] _ (by with_unfolding_all rfl) (HB4.out.range [] [.int .i64 H, .int .u64 (l : Int)] [.slice _ n c] 0 rfl rfl) Try.underlying28 (by with_unfolding_all rfl) (by with_unfolding_all exact Try.size28) ?_))
          | (have := HO4; clear this; (with_reducible refine wpList_load_part (by with_unfolding_all rfl) 37 _ (by with_unfolding_all rfl) _ 2 [.int .u64 (s : Int), .int .i64 ta] _ (by with_unfolding_all rfl) (HO4.out.range [.int .i64 kd, .int .i64 now] [.int .u64 (s : Int), .int .i64 ta] [] 2 rfl rfl) Try.underlying37 (by with_unfolding_all rfl) (by with_unfolding_all exact Try.size37) ?_)))
        clear y1
        refine (HNw.out _).mono ?_
        rintro e w5 ⟨r, rfl, hr, hg⟩
        have HO5 := hid (HO4.out.keep hg)
        have HB5 := hid (HB4.out.keep hg)
        have HG5 := hid (gtrans HG4.out hg)
        have y1 := HO5.out.cell 1
        clear hg HO4 HB4 HG4
        clear hr
        go_wp2_with (first
          | (have := HO5; clear this; (with_reducible refine wpList_load_part (by with_unfolding_all rfl) 28 _ (by with_unfolding_all rfl) p1 0 [.int .i64 H, .int .u64 (l : Int)] _ (by with_unfolding_all rfl) (HB5.out.range [] [.int .i64 H, .int .u64 (l : Int)] [.slice _ n c] 0 rfl rfl) Try.underlying28 (by with_unfolding_all rfl) (by with_unfolding_all exact Try.size28) ?_))
          | (have := HO5; clear this; (with_reducible refine wpList_load_part (by with_unfolding_all rfl) 37 _ (by with_unfolding_all rfl) _ 2 [.int .u64 (s : Int), .int .i64 ta] _ (by with_unfolding_all rfl) (HO5.out.range [.int .i64 kd, .int .i64 now] [.int .u64 (s : Int), .int .i64 ta] [] 2 rfl rfl) Try.underlying37 (by with_unfolding_all rfl) (by with_unfolding_all exact Try.size37) ?_)))
        clear y1
        refine (HFl.out _).mono ?_
        rintro e w6 ⟨r, rfl, hr, hg⟩
        have HO6 := hid (HO5.out.keep hg)
        have HB6 := hid (HB5.out.keep hg)
        have HG6 := hid (gtrans HG5.out hg)
        have y1 := HO6.out.cell 1
        clear hg HO5 HB5 HG5
        clear hr
        go_wp2_with (first
          | (have := HO6; clear this; (with_reducible refine wpList_load_part (by with_unfolding_all rfl) 28 _ (by with_unfolding_all rfl) p1 0 [.int .i64 H, .int .u64 (l : Int)] _ (by with_unfolding_all rfl) (HB6.out.range [] [.int .i64 H, .int .u64 (l : Int)] [.slice _ n c] 0 rfl rfl) Try.underlying28 (by with_unfolding_all rfl) (by with_unfolding_all exact Try.size28) ?_))
          | (have := HO6; clear this; (with_reducible refine wpList_load_part (by with_unfolding_all rfl) 37 _ (by with_unfolding_all rfl) _ 2 [.int .u64 (s : Int), .int .i64 ta] _ (by with_unfolding_all rfl) (HO6.out.range [.int .i64 kd, .int .i64 now] [.int .u64 (s : Int), .int .i64 ta] [] 2 rfl rfl) Try.underlying37 (by with_unfolding_all rfl) (by with_unfolding_all exact Try.size37) ?_)))
        clear y1
        refine (HPs.out _).mono ?_
        rintro e w7 ⟨r, rfl, hr, hg⟩
        have HO7 := hid (HO6.out.keep hg)
        have HB7 := hid (HB6.out.keep hg)
        have HG7 := hid (gtrans HG6.out hg)
        have y1 := HO7.out.cell 1
        clear hg HO6 HB6 HG6
        clear hr
        go_wp2_with (first
          | (have := HO7; clear this; (with_reducible refine wpList_load_part (by with_unfolding_all rfl) 28 _ (by with_unfolding_all rfl) p1 0 [.int .i64 H, .int .u64 (l : Int)] _ (by with_unfolding_all rfl) (HB7.out.range [] [.int .i64 H, .int .u64 (l : Int)] [.slice _ n c] 0 rfl rfl) Try.underlying28 (by with_unfolding_all rfl) (by with_unfolding_all exact Try.size28) ?_))
          | (have := HO7; clear this; (with_reducible refine wpList_load_part (by with_unfolding_all rfl) 37 _ (by with_unfolding_all rfl) _ 2 [.int .u64 (s : Int), .int .i64 ta] _ (by with_unfolding_all rfl) (HO7.out.range [.int .i64 kd, .int .i64 now] [.int .u64 (s : Int), .int .i64 ta] [] 2 rfl rfl) Try.underlying37 (by with_unfolding_all rfl) (by with_unfolding_all exact Try.size37) ?_)))
        clear y1
        refine (HLk.out _).mono ?_
        rintro e w8 ⟨g, rfl, hr, hg⟩
        have HO8 := hid (HO7.out.keep hg)
        have HB8 := hid (HB7.out.keep hg)
        have HG8 := hid (gtrans HG7.out hg)
        have y1 := HO8.out.cell 1
        clear hg HO7 HB7 HG7
        clear hr
        go_wp2_with (first
          | (have := HO8; clear this; (with_reducible refine wpList_load_part (by with_unfolding_all rfl) 28 _ (by with_unfolding_all rfl) p1 0 [.int .i64 H, .int .u64 (l : Int)] _ (by with_unfolding_all rfl) (HB8.out.range [] [.int .i64 H, .int .u64 (l : Int)] [.slice _ n c] 0 rfl rfl) Try.underlying28 (by with_unfolding_all rfl) (by with_unfolding_all exact Try.size28) ?_))
          | (have := HO8; clear this; (with_reducible refine wpList_load_part (by with_unfolding_all rfl) 37 _ (by with_unfolding_all rfl) _ 2 [.int .u64 (s : Int), .int .i64 ta] _ (by with_unfolding_all rfl) (HO8.out.range [.int .i64 kd, .int .i64 now] [.int .u64 (s : Int), .int .i64 ta] [] 2 rfl rfl) Try.underlying37 (by with_unfolding_all rfl) (by with_unfolding_all exact Try.size37) ?_)))
        clear y1
        refine (HWt.out _).mono ?_
        rintro e w9 ⟨x, bb, rfl, hr, hg⟩
        have HO9 := hid (HO8.out.keep hg)
        have HB9 := hid (HB8.out.keep hg)
        have HG9 := hid (gtrans HG8.out hg)
        have y1 := HO9.out.cell 1
        clear hg HO8 HB8 HG8
        clear hr
        go_wp2_with fail
        go_roundw
        case rel => exact ⟨i + 1, by go_num, by omega, HB9, HG9⟩
        case measure => simp [intOf]; omega
      · have h200' : ¬ (i : Int) < 200 := by omega
        go_wp2_with fail
        refine (wakes_any _).mono ?_
        rintro e w2 ⟨rfl, hg2⟩
        have HG2 := hid (gtrans HG.out hg2)
        go_wp2_with fail
        go_ret
        exact ⟨rfl, HG2.out⟩
    · have hlt' : ¬ (i : Int) < (n : Int) := by omega
      go_wp2_with fail
      refine (wakes_any _).mono ?_
      rintro e w2 ⟨rfl, hg2⟩
      have HG2 := hid (gtrans HG.out hg2)
      go_wp2_with fail
      go_ret
      exact ⟨rfl, HG2.out⟩
end Go.Proofs.Ytnbcplpmpocbpaa
