/- The reference's Now. -/
import Derived.Test.YtnbcplpmpocbpaaRc
import Derived.Test.YtnbcplpmpocbpaaWtX
namespace Go.Proofs.Ytnbcplpmpocbpaa
open Go Go.RowKit
open Go.RowKit (wrap32 wrap64)

theorem rnow_pl {s i : Nat} {k : Nat} (hi : i ≤ k) (h : hfN i s = 0 ∨ i = k) : hfN i s = hfN k s := by
  rcases h with h | h
  · have := hfN_mono s hi; omega
  · rw [h]
set_option maxRecDepth 100000 in
set_option maxHeartbeats 1600000 in
theorem rnow_any (H L : Int) (s : Nat) (ta now : Int) (w : World) (hH0 : 1 ≤ H) (hH : H ≤ 9223372036854775807) (hA : -9223372036854775808 ≤ ta) (hA2 : ta ≤ 9223372036854775807) (hn : now ≤ 9223372036854775807) (hs : Fnt s) :
    Calls Try.prog 13 #[.agg #[.int .i64 H, .int .u64 L], .agg #[.int .u64 (s : Int), .int .i64 ta], .int .i64 now] w fun e w' => e = .returned (.agg #[.int .u64 (nowS H s ta now : Int), .int .i64 (nowA H ta now)]) ∧ w.grownBy w' none := by
  by_cases hle : now ≤ ta
  · rw [nowA_le hle, nowS_le hle]
    clear hH0 hH hA hA2 hn hs
    go_enter Try.func13, Try.ntmps13
    go_wp2_with (first
      | ((with_reducible refine wpList_store_all (by with_unfolding_all rfl) 37 _ _ (by with_unfolding_all rfl) _ [.int .u64 0, .int .i64 0] [.int .u64 (s : Int), .int .i64 ta] 37 (by with_unfolding_all rfl) (by with_unfolding_all rfl) HB3.out (by with_unfolding_all rfl) (by with_unfolding_all exact Try.size37) (one2 _ _ _ _) ?_); intro w4 B4 g4 s4; have HB4 := hid B4; have HG4 := hid (HG3.out.andThen g4 (fun j hj => .inl (by injection hj with hj; have := HG2.out.size; omega))); clear B4 g4 s4)
      | (with_reducible refine wpList_load_part (by with_unfolding_all rfl) 37 _ (by with_unfolding_all rfl) _ 0 [.int .u64 (s : Int), .int .i64 ta] _ (by with_unfolding_all rfl) HM3.out.whole Try.underlying37 (by with_unfolding_all rfl) (by with_unfolding_all exact Try.size37) ?_)
      | (have := HG2; clear this; (with_reducible refine wpList_alloc_row (by with_unfolding_all rfl) 37 (by with_unfolding_all rfl) [.int .u64 0, .int .i64 0] Try.zero37 ?_); intro w3 B3 s3 g3; have HB3 := hid B3; have HC3 := hid (HC2.out.keep g3); have HM3 := hid (HB2.out.keep g3); have HG3 := hid (gtrans HG2.out g3); clear B3 s3 g3; have y0 := HM3.out.cell 0; have y1 := HM3.out.cell 1; have z0 := HC3.out.cell 0)
      | (have := HG1; clear this; (with_reducible refine wpList_box_row (by with_unfolding_all rfl) 37 _ (by with_unfolding_all rfl) [.int .u64 (s : Int), .int .i64 ta] (by with_unfolding_all rfl) ?_); intro w2 B2 s2 g2; have HB2 := hid B2; have HC2 := hid (HB1.out.keep g2); have HG2 := hid (gtrans HG1.out g2); clear B2 s2 g2)
      | ((with_reducible refine wpList_box_row (by with_unfolding_all rfl) 28 _ (by with_unfolding_all rfl) [.int .i64 H, .int .u64 L] (by with_unfolding_all rfl) ?_); intro w1 B1 s1 g1; have HB1 := hid B1; have HG1 := hid g1; clear B1 s1 g1))
    refine bodyPost_ret (results_blk rfl _ w2.heap.size 37 [.int .u64 (s : Int), .int .i64 ta] _ rfl HB4.out Try.underlying37 rfl Try.size37) rfl ?_
    exact ⟨rfl, HG4.out⟩
  · have hK := nowK_bd (H := H) (show ta < now by omega)
    rw [nowA_gt (H := H) (show ta < now by omega), nowS_gt (H := H) (s := s) (show ta < now by omega)]
    have hmx : max H 1 = H := by omega
    have hKd : (now - ta) / H = nowK H ta now := by unfold nowK; rw [hmx]
    rw [hmx] at hK ⊢
    obtain ⟨K, hKK⟩ : ∃ K : Int, nowK H ta now = K := ⟨_, rfl⟩
    rw [hKK] at hK hKd ⊢
    obtain ⟨k, hk⟩ : ∃ k : Nat, K = k := ⟨K.toNat, by omega⟩
    rw [show K.toNat = k by omega]
    have f1 : IntKind.u64.wrap (IntKind.u64.wrap now - IntKind.u64.wrap ta) = now - ta := bet_eq hA hn (by omega)
    have f4 : wrap64 (IntKind.u64.wrap (IntKind.u64.wrap ta + K * H)) = ta + K * H := beh_eq hA (by omega) (by omega)
    have f3 : IntKind.u64.wrap (K * H) = K * H := by rw [u64w]; omega
    have f2 : (now - ta).tdiv H = K := by rw [Int.tdiv_eq_ediv_of_nonneg (by omega)]; exact hKd
    have k1 : 0 ≤ K := by omega
    have k2 : K < 18446744073709551616 := by omega
    obtain ⟨D, hD⟩ : ∃ D, now - ta = D := ⟨_, rfl⟩
    have d1 : 0 ≤ D := by omega
    rw [hD] at f1 f2 hKd
    obtain ⟨F, hF⟩ : ∃ F, K * H = F := ⟨_, rfl⟩
    rw [hF] at f4 ⊢
    replace f3 : IntKind.u64.wrap (K * H) = F := f3.trans hF
    obtain ⟨T, hT⟩ : ∃ T, ta + F = T := ⟨_, rfl⟩
    rw [hT] at f4 ⊢
    have HS := hid hs
    have HK := hid hk
    clear hK hmx hKK hk hD hF hT hA hA2 hn hs
    go_enter Try.func13, Try.ntmps13
    go_upto_region 5 with (first
      | (have := HG4; clear this; (with_reducible refine wpList_store_all (by with_unfolding_all rfl) 37 _ _ (by with_unfolding_all rfl) _ [.int .u64 0, .int .i64 0] [.int .u64 (s : Int), .int .i64 T] 37 (by with_unfolding_all rfl) (by with_unfolding_all rfl) HX4.out (by with_unfolding_all rfl) (by with_unfolding_all exact Try.size37) (one2 _ _ _ _) ?_); intro w5 B5 g5 s5; have HX5 := hid B5; have HB5 := hid (HB4.out.on g5 (by have := HB3.out.lt; simp; omega)); have HG5 := hid (HG4.out.andThen g5 (fun j hj => .inl (by injection hj with hj; have := HG3.out.size; omega))); clear B5 g5 s5)
      | (with_reducible refine wpList_build_of (by with_unfolding_all rfl) 37 _ (by with_unfolding_all rfl) [(0, .int .u64 (s : Int)), (1, .int .i64 T)] (by with_unfolding_all rfl) [.int .u64 (s : Int), .int .i64 T] (built37 _ _) ?_)
      | (have := HG3; clear this; (with_reducible refine wpList_alloc_row (by with_unfolding_all rfl) 37 (by with_unfolding_all rfl) [.int .u64 0, .int .i64 0] Try.zero37 ?_); intro w4 B4 s4 g4; have HX4 := hid B4; have HB4 := hid (HB3.out.keep g4); have HG4 := hid (gtrans HG3.out g4); clear B4 s4 g4)
      | (have := HG2; clear this; (with_reducible refine wpList_alloc_row (by with_unfolding_all rfl) 37 (by with_unfolding_all rfl) [.int .u64 0, .int .i64 0] Try.zero37 ?_); intro w3 B3 s3 g3; have HB3 := hid B3; have HC3 := hid (HC2.out.keep g3); have HM3 := hid (HB2.out.keep g3); have HG3 := hid (gtrans HG2.out g3); clear B3 s3 g3; have y0 := HM3.out.cell 0; have y1 := HM3.out.cell 1; have z0 := HC3.out.cell 0)
      | (have := HG1; clear this; (with_reducible refine wpList_box_row (by with_unfolding_all rfl) 37 _ (by with_unfolding_all rfl) [.int .u64 (s : Int), .int .i64 ta] (by with_unfolding_all rfl) ?_); intro w2 B2 s2 g2; have HB2 := hid B2; have HC2 := hid (HB1.out.keep g2); have HG2 := hid (gtrans HG1.out g2); clear B2 s2 g2)
      | ((with_reducible refine wpList_box_row (by with_unfolding_all rfl) 28 _ (by with_unfolding_all rfl) [.int .i64 H, .int .u64 L] (by with_unfolding_all rfl) ?_); intro w1 B1 s1 g1; have HB1 := hid B1; have HG1 := hid g1; clear B1 s1 g1))
    obtain ⟨p6, hp6⟩ : ∃ x, w2.heap.size = x := ⟨_, rfl⟩
    obtain ⟨p8, hp8⟩ : ∃ x, w3.heap.size = x := ⟨_, rfl⟩
    rw [hp6] at HB5
    rw [hp8] at HX5
    simp only [hp6, hp8]
    have HPn : Hid (w.heap.size ≤ p6 ∧ w.heap.size ≤ p8 ∧ p6 ≠ p8) := hid (by have h1 := HG2.out.size; have h2 := HB3.out.lt; have h3 := HG3.out.size; omega)
    clear hp6 hp8 HB1 HB2 HB3 HB4 HC2 HC3 HM3 HX4 HG1 HG2 HG3 HG4 y0 y1 z0 f1 f2 f3 f4 hKd d1
    go_wp2_with fail
    go_loopw [7] (fun kv wr => ∃ (i : Nat) (q V : Int), kv = .int .u64 q ∧ 0 ≤ q ∧ q < 18446744073709551616 ∧ Hid (q = (k : Int) - i) ∧ Hid (V = ((hfN i s : Nat) : Int)) ∧ Hid (Blk wr p8 [.int .u64 V, .int .i64 T] 37) ∧ Hid (Blk wr p6 [.int .u64 0, .int .i64 0] 37) ∧ Hid (w.grownBy wr none)) (fun kv _ => (intOf kv).toNat)
    case atStart => exact ⟨0, K, s, rfl, k1, k2, hid (by rw [HK.out]; omega), hid rfl, HX5, HB5, HG5⟩
    case round =>
      obtain ⟨i, q, V, rfl, hq, hq2, HQ, HV, HX, HB, HG⟩ := hrel
      clear HX5 HB5 HG5
      have x0 := HX.out.cell 0
      have xz := HX.out.frozen 0
      have hV0 : 0 ≤ V := by rw [HV.out]; omega
      by_cases c1 : 0 < q
      · by_cases c2 : V = 0
        · have HE : Hid (hfN i s = hfN k s) := hid (rnow_pl (by have := HQ.out; omega) (.inl (by have := HV.out; omega)))
          go_wp2_with (first
            | ((with_reducible refine wpList_load_part (by with_unfolding_all rfl) 37 _ (by with_unfolding_all rfl) _ 0 [.int .u64 V, .int .i64 T] _ (by with_unfolding_all rfl) HX.out.whole Try.underlying37 (by with_unfolding_all rfl) (by with_unfolding_all exact Try.size37) ?_))
            | ((with_reducible refine wpList_store_all (by with_unfolding_all rfl) 37 _ _ (by with_unfolding_all rfl) _ [.int .u64 0, .int .i64 0] [.int .u64 V, .int .i64 T] 37 (by with_unfolding_all rfl) (by with_unfolding_all rfl) HB.out (by with_unfolding_all rfl) (by with_unfolding_all exact Try.size37) (one2 _ _ _ _) ?_); intro w8 B8 g8 s8; have HB8 := hid B8; have HG8 := hid (HG.out.andThen g8 (fun j hj => .inl (by injection hj with hj; have := HPn.out; omega))); clear B8 g8 s8))
          refine bodyPost_ret (results_blk rfl _ p6 37 [.int .u64 V, .int .i64 T] _ rfl HB8.out Try.underlying37 rfl Try.size37) rfl ?_
          rw [← HE.out, ← HV.out]
          exact ⟨rfl, HG8.out⟩
        · have HCh := hid (half_any (hfN i s) (hfN_fin HS.out i) wr)
          rw [← HV.out] at HCh
          go_wp2_with fail
          refine HCh.out.mono ?_
          rintro e w6 ⟨rfl, rfl⟩
          go_upto_region 7 with fail
          obtain ⟨w7, hw7⟩ : ∃ x, w6.setCell ⟨p8, 0, none⟩ (.int .u64 ((hf (hfN i s) : Nat) : Int)) = x := ⟨_, rfl⟩
          rw [hw7]
          have HX7 : Hid (Blk w7 p8 [.int .u64 ((hf (hfN i s) : Nat) : Int), .int .i64 T] 37) := hid (by rw [← hw7]; exact HX.out.set 0 _)
          have HG7 : Hid (w6.grownBy w7 (some p8)) := hid (by rw [← hw7]; exact gset _ _ _)
          have HB7 := hid (HB.out.on HG7.out (by have := HPn.out; simp; omega))
          have HGw := hid (HG.out.andThen HG7.out (fun j hj => .inl (by injection hj with hj; have := HPn.out; omega)))
          clear hw7 x0 xz
          go_wp2_with fail
          go_roundw
          case rel => exact ⟨i + 1, q - 1, _, rfl, by omega, by omega, hid (by have := HQ.out; omega), hid rfl, HX7, HB7, HGw⟩
          case measure => simp [intOf]; omega
      · have HE : Hid (hfN i s = hfN k s) := hid (rnow_pl (by have := HQ.out; omega) (.inr (by have := HQ.out; omega)))
        go_wp2_with (first
          | ((with_reducible refine wpList_load_part (by with_unfolding_all rfl) 37 _ (by with_unfolding_all rfl) _ 0 [.int .u64 V, .int .i64 T] _ (by with_unfolding_all rfl) HX.out.whole Try.underlying37 (by with_unfolding_all rfl) (by with_unfolding_all exact Try.size37) ?_))
          | ((with_reducible refine wpList_store_all (by with_unfolding_all rfl) 37 _ _ (by with_unfolding_all rfl) _ [.int .u64 0, .int .i64 0] [.int .u64 V, .int .i64 T] 37 (by with_unfolding_all rfl) (by with_unfolding_all rfl) HB.out (by with_unfolding_all rfl) (by with_unfolding_all exact Try.size37) (one2 _ _ _ _) ?_); intro w8 B8 g8 s8; have HB8 := hid B8; have HG8 := hid (HG.out.andThen g8 (fun j hj => .inl (by injection hj with hj; have := HPn.out; omega))); clear B8 g8 s8))
        refine bodyPost_ret (results_blk rfl _ p6 37 [.int .u64 V, .int .i64 T] _ rfl HB8.out Try.underlying37 rfl Try.size37) rfl ?_
        rw [← HE.out, ← HV.out]
        exact ⟨rfl, HG8.out⟩
end Go.Proofs.Ytnbcplpmpocbpaa
