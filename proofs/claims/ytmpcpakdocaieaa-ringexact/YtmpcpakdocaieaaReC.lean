/- RingExact's walk. -/
import Derived.Test.YtmpcpakdocaieaaReB
namespace Go.Proofs.Ytmpcpakdocaieaa.Bk
open Go Go.RowKit
open Go.RowKit (wrap32 wrap64)

theorem OutK.rdle {B n c : Nat} {w : World} {a : Option Addr} {l : List Ky} (h : OutK B w (.slice a n c) l) : n ≤ c := by
  rcases h.2.2 with ⟨h1, _⟩ | ⟨g, cap, cur, hv, hB, hg, hle, hm, hs, ht⟩
  · injection h1 with _ e1 e2
    rw [e1, e2]
    exact Nat.le_refl _
  · injection hv with _ e1 e2
    rw [OutK.num h] at hle
    rw [e2]
    exact hle
set_option maxRecDepth 100000 in
set_option maxHeartbeats 12000000 in
theorem exact_walk (w : World) (sa : Option Addr) (b off n sc : Nat) (T : Nat → Sp) (hn : n ≤ 140737488355328) (hA : ArgB w sa b off n T) :
    Calls Try.prog 3 #[.slice sa n sc] w fun e w' => e = .returned (.bool true) ∧ w.grownBy w' none := by
  have HWk : Hid (∀ u : World, Calls Try.prog 26 #[] u fun e w' => e = .returned (.bool true) ∧ u.grownBy w' none) := fun u => wakes_any u
  have HAr : Hid (∀ u, w.grownBy u none → ArgS u sa b off n T) := fun u hu => hA.1.on hu
  have HAb := hid hA.2
  clear hA
  go_enter Try.func3, Try.ntmps3
  go_upto_region 4 with (first
    | (with_reducible refine wpList_build_row (by with_unfolding_all rfl) 50 (by with_unfolding_all rfl) zbk built50 ?_)
    | (with_reducible refine wpList_build_row (by with_unfolding_all rfl) 66 (by with_unfolding_all rfl) (List.replicate 14 (Value.slice none 0 0)) built66 ?_)
    | (with_reducible refine wpList_build_row (by with_unfolding_all rfl) 69 (by with_unfolding_all rfl) [Value.slice none 0 0, .int .u64 0] Try.built69 ?_)
    | ((with_reducible refine wpList_box_row (by with_unfolding_all rfl) 66 _ (by with_unfolding_all rfl) (List.replicate 14 (Value.slice none 0 0)) (by with_unfolding_all rfl) ?_); intro w2 B2 s2 g2; have HB2 := hid (HB1.out.keep g2); have HC2 := hid B2; have HG2 := hid (gtrans HG1.out g2); have HZ2 := hid s2; clear B2 s2 g2)
    | ((with_reducible refine wpList_box_row (by with_unfolding_all rfl) 50 _ (by with_unfolding_all rfl) zbk (by with_unfolding_all rfl) ?_); intro w1 B1 s1 g1; have HB1 := hid B1; have HG1 := hid g1; have HZ1 := hid s1; clear B1 s1 g1)
    | ((with_reducible refine wpList_alloc_row (by with_unfolding_all rfl) 69 (by with_unfolding_all rfl) [.slice none 0 0, .int .u64 0] Try.zero69 ?_); intro w3 B3 s3 g3; have HB3 := hid (HB2.out.keep g3); have HC3 := hid (HC2.out.keep g3); have HD3 := hid B3; have HG3 := hid (gtrans HG2.out g3); clear B3 s3 g3)
    | ((with_reducible refine wpList_store_all (by with_unfolding_all rfl) 69 _ _ (by with_unfolding_all rfl) _ [.slice none 0 0, .int .u64 0] [.slice none 0 0, .int .u64 0] 69 (by with_unfolding_all rfl) (by with_unfolding_all rfl) HD3.out (by with_unfolding_all rfl) (by with_unfolding_all exact Try.size69) (ring_one _ _ _ _) ?_); intro w4 B4 g4 s4; have HD4 := hid B4; have HB4 := hid (HB3.out.on g4 (by have := HB2.out.lt; simp; omega)); have HC4 := hid (HC3.out.on g4 (by have := HC2.out.lt; simp; omega)); have HG4 := hid (HG3.out.andThen g4 (fun j hj => .inl (by injection hj with hj; have := HG2.out.size; omega))); clear B4 g4 s4))
  obtain ⟨bk, hbk⟩ : ∃ x, w.heap.size = x := ⟨_, rfl⟩
  obtain ⟨sb, hsb⟩ : ∃ x, w1.heap.size = x := ⟨_, rfl⟩
  obtain ⟨p5, hp5⟩ : ∃ x, w2.heap.size = x := ⟨_, rfl⟩
  have HSS0 : Hid (SS w w4 bk sb p5 0 none 0 0 0 [] none 0 0 [] (List.replicate 14 (Value.slice none 0 0))) := hid (by
    have q1 := HG1.out.size
    have q2 := HG2.out.size
    rw [← hbk, ← hsb, ← hp5]
    exact ⟨HG4.out, BkS.new HB4.out (Nat.le_refl _), HC4.out, rfl, OutK.nil _ _, HD4.out, RK.nil _ _, ⟨q1, q2⟩, fun k hk => by cases hk⟩)
  rw [hbk, hsb, hp5]
  clear hbk hsb hp5 HB1 HB2 HB3 HB4 HC2 HC3 HC4 HD3 HD4 HG1 HG2 HG3 HG4 HZ1 HZ2
  go_wp2_with fail
  go_loopw [6] (fun iv wr => ∃ (i TT : Nat) (ra : Option Addr) (rn rc nx : Nat) (l : List Ky) (va : Option Addr) (vn vc : Nat) (lk : List Ky) (cs : List Value), iv = .int .i64 i ∧ i ≤ 200 ∧ Hid (TT ≤ 2 * i) ∧ Hid (l.length ≤ 41) ∧ Hid (SS w wr bk sb p5 TT ra rn rc nx l va vn vc lk cs)) (fun iv _ => 200 - (intOf iv).toNat)
  case atStart => exact ⟨0, 0, none, 0, 0, 0, [], none, 0, 0, [], _, rfl, by omega, hid (by omega), hid (by show 0 ≤ 41; omega), HSS0⟩
  case round =>
    obtain ⟨i, TT, ra, rn, rc, nx, l, va, vn, vc, lk, cs, rfl, hi, HTT, HLen, HSS⟩ := hrel
    clear HSS0
    obtain ⟨w0, hw0⟩ : ∃ x : World, x = wr := ⟨_, rfl⟩
    rw [← hw0] at HSS ⊢
    clear hw0
    have HG0 := hid HSS.out.grown
    by_cases h1 : i < n
    · by_cases h2 : i < 200
      · have i1 : (i : Int) < (n : Int) := by omega
        have i2 : (i : Int) < 200 := by omega
        obtain ⟨rfl, -⟩ := (HAr.out w0 HG0.out).1 (by omega)
        obtain ⟨q, Hq⟩ : ∃ x, Hid (T i = x) := ⟨_, hid rfl⟩
        have HQ : Hid (∀ u, w.grownBy u none → u.rangeAt b (off + i * 37) q.cells ∧ q.In u) := hid (fun u hu => by have := (HAr.out u hu).2 i h1; rw [Hq.out] at this; exact this)
        have HQb0 : Hid (q.rl.length ≤ 2932031007402) := hid (by have := HAb.out i h1; rw [Hq.out] at this; exact this)
        clear Hq
        obtain ⟨act, sec, At, kid, rs, qx, ql⟩ := q
        obtain ⟨ho, qa, qb, qo, qc, hrs, -⟩ := (HQ.out w0 HG0.out).2.2.2.1.open
        simp only at hrs
        subst hrs
        obtain ⟨qn, HQn⟩ : ∃ x, Hid (ql.length = x) := ⟨_, hid rfl⟩
        rw [HQn.out] at HQ
        have HQb : Hid (ql.length ≤ 2932031007402) := HQb0
        have HIn : Hid (sec.length = 32 ∧ (-9223372036854775808 ≤ At ∧ At ≤ 9223372036854775807)) := hid ⟨(HQ.out w0 HG0.out).2.1, (HQ.out w0 HG0.out).2.2.1⟩
        have HQv : Hid (∀ u, w.grownBy u none → RdK u (fun _ => True) (.slice qa qn qc) ql) := hid (fun u hu => (HQ.out u hu).2.2.2.1)
        obtain ⟨SC, HSC⟩ : ∃ x, Hid (Sp.cells ⟨act, sec, At, kid, .slice qa qn qc, qx, ql⟩ = x) := ⟨_, hid rfl⟩
        have HSl : Hid (SC.length = 37) := hid (by rw [← HSC.out]; exact Sp.len HIn.out.1)
        have HS1 : Hid (∀ v ∈ SC, v.oneCell' = true) := hid (by rw [← HSC.out]; exact Sp.one rfl)
        have HSr : Hid (w0.rangeAt b (off + i * 37) SC) := hid (by rw [← HSC.out]; exact (HQ.out w0 HG0.out).1)
        have HSp : Hid (∀ (u : World) (p : Nat), Blk u p SC 72 → u.cell? ⟨p, 0, none⟩ = some (.int .i64 act) ∧ u.cell? ⟨p, 33, none⟩ = some (.int .i64 At) ∧ u.cell? ⟨p, 34, none⟩ = some (.int .u64 kid) ∧ u.rangeAt p 1 (Lib.byteCells sec) ∧ u.rangeAt p 35 [.slice qa qn qc, .int .u64 qx]) := hid (fun u p hp => by rw [← HSC.out] at hp; exact Sp.at HIn.out.1 hp)
        have HLow : Hid ((∀ k, (Value.slice va vn vc).ownBlock = some k → k < w0.heap.size) ∧ (∀ k, (Value.slice ra rn rc).ownBlock = some k → k < w0.heap.size)) := hid ⟨fun k hk => (own_block HSS.out.row.2 hk).2.1, fun k hk => (HSS.out.keys.low hk).2.1⟩
        have HN : Hid (l.length = rn) := hid HSS.out.keys.len
        have HR_0 := hid HSS.out.r
        have HRv : Hid (∀ u, w0.grownBy u none → RdK u (fun k => w.heap.size ≤ k) (.slice ra rn rc) l) := hid (fun u hu => (HSS.out.keys.keep hu).rd)
        have HRx : Hid (∀ u g cg, LentK w0.heap.size u g cg l → RdK u (fun k => w0.heap.size ≤ k) (.slice (some ⟨g, 0, none⟩) rn cg) l) := hid (fun u g cg hu => by have := hu.rd; rw [HN.out] at this; exact this)
        have HLe : Hid (l.length ≤ 1000000) := hid (by have := HLen.out; omega)
        have HLb : Hid (l.length ≤ 1099511627776) := hid (by have := HLen.out; omega)
        obtain ⟨ts, HTS⟩ : ∃ x, Hid (Lib.byteCells sec = x) := ⟨_, hid rfl⟩
        have HTl : Hid (ts.length = 32) := hid (by rw [← HTS.out, byteCells_length]; exact HIn.out.1)
        have HLn : Hid (∀ u, w0.grownBy u none → Calls Try.prog 8 #[.agg #[.slice ra rn rc, .int .u64 nx]] u fun e w' => ∃ g c, e = .returned (.agg #[.slice (some ⟨g, 0, none⟩) rn c, .int .u64 nx]) ∧ LentK u.heap.size w' g c l ∧ u.grownBy w' none) := fun u hu => by
          have := lent_any u _ _ l nx (HRv.out u hu) HLe.out
          rw [HN.out] at this
          exact this
        have HG_0 := hid (grefl w0 none)
        clear ho HQ HSC HQb0 HAr HAb
        go_upto_region 8 with (first
          | (with_reducible refine wpList_load_part (by with_unfolding_all rfl) 72 _ (by with_unfolding_all rfl) b (off + i * 37) SC _ (by with_unfolding_all rfl) HSr.out Try.underlying72 (by with_unfolding_all rfl) (by rw [HSl.out]; exact Try.size72) ?_)
          | ((with_reducible refine wpList_store_all (by with_unfolding_all rfl) 72 _ _ (by with_unfolding_all rfl) _ zsp SC 72 (by with_unfolding_all rfl) (by with_unfolding_all rfl) HS_1.out (by rw [HSl.out]; with_unfolding_all rfl) (by rw [HSl.out]; exact Try.size72) HS1.out ?_); intro w2 BB hg ss; have HS_2 := hid BB; have HR_2 := hid (HR_1.out.on hg (by have := HR_0.out.lt; simp; omega)); have HG_2 := hid (HG_1.out.andThen hg (fun j hj => .inl (by injection hj with hj; have := HG_0.out.size; omega))); have HZs_2 : Hid (w1.heap.size ≤ w2.heap.size) := hid hg.size; clear BB hg ss)
          | (have := HG_0; clear this; (with_reducible refine wpList_alloc_row (by with_unfolding_all rfl) 72 (by with_unfolding_all rfl) zsp Try.zero72 ?_); intro w1 BB ss hg; have HS_1 := hid BB; have HR_1 := hid (HR_0.out.keep hg); have HG_1 := hid (gtrans HG_0.out hg); clear BB ss hg))
        obtain ⟨pS, hpS⟩ : ∃ x, w0.heap.size = x := ⟨_, rfl⟩
        rw [hpS] at HS_2 ⊢
        go_upto_region 9 with (first
          | (with_reducible refine wpList_load_part (by with_unfolding_all rfl) 69 _ (by with_unfolding_all rfl) p5 0 [.slice ra rn rc, .int .u64 nx] _ (by with_unfolding_all rfl) HR_2.out.whole Try.underlying69 (by with_unfolding_all rfl) (by with_unfolding_all exact Try.size69) ?_)
          | ((with_reducible refine wpList_store_all (by with_unfolding_all rfl) 69 _ _ (by with_unfolding_all rfl) _ [.slice none 0 0, .int .u64 0] [.slice ra rn rc, .int .u64 nx] 69 (by with_unfolding_all rfl) (by with_unfolding_all rfl) HW_3.out (by with_unfolding_all rfl) (by with_unfolding_all exact Try.size69) (ring_one _ _ _ _) ?_); intro w4 BB hg ss; have HW_4 := hid BB; have HR_4 := hid (HR_3.out.on hg (by have := HR_2.out.lt; simp; omega)); have HS_4 := hid (HS_3.out.on hg (by have := HS_2.out.lt; simp; omega)); have HG_4 := hid (HG_3.out.andThen hg (fun j hj => .inl (by injection hj with hj; have := HG_2.out.size; omega))); have HZs_4 : Hid (w3.heap.size ≤ w4.heap.size) := hid hg.size; clear BB hg ss)
          | (have := HG_2; clear this; (with_reducible refine wpList_alloc_row (by with_unfolding_all rfl) 69 (by with_unfolding_all rfl) [.slice none 0 0, .int .u64 0] Try.zero69 ?_); intro w3 BB ss hg; have HW_3 := hid BB; have HR_3 := hid (HR_2.out.keep hg); have HS_3 := hid (HS_2.out.keep hg); have HG_3 := hid (gtrans HG_2.out hg); clear BB ss hg))
        obtain ⟨p8, hp8⟩ : ∃ x, w2.heap.size = x := ⟨_, rfl⟩
        rw [hp8] at HW_4 ⊢
        go_upto_region 11 with (first
          | (with_reducible refine wpList_load_part (by with_unfolding_all rfl) 69 _ (by with_unfolding_all rfl) p5 0 [.slice ra rn rc, .int .u64 nx] _ (by with_unfolding_all rfl) HR_4.out.whole Try.underlying69 (by with_unfolding_all rfl) (by with_unfolding_all exact Try.size69) ?_)
          | (go_at_call 8; (with_reducible refine (HLn.out _ HG_4.out).mono ?_); rintro e w5 ⟨g, cg, rfl, hL, hg⟩; have HR_5 := hid (HR_4.out.keep hg); have HS_5 := hid (HS_4.out.keep hg); have HW_5 := hid (HW_4.out.keep hg); have HG_5 := hid (gtrans HG_4.out hg); have HZs_5 : Hid (w4.heap.size ≤ w5.heap.size) := hid hg.size; have HL_5 := hid (show LentK w0.heap.size w5 g cg l from ⟨hL.1.below HG_4.out.size, hL.2⟩); have HgL := hid (show w4.heap.size ≤ g ∧ g < w5.heap.size from hL.lt); clear hL; clear hg)
          | ((with_reducible refine wpList_store_all (by with_unfolding_all rfl) 69 _ _ (by with_unfolding_all rfl) _ [.slice none 0 0, .int .u64 0] [.slice (some ⟨g, 0, none⟩) rn cg, .int .u64 nx] 69 (by with_unfolding_all rfl) (by with_unfolding_all rfl) HX_6.out (by with_unfolding_all rfl) (by with_unfolding_all exact Try.size69) (ring_one _ _ _ _) ?_); intro w7 BB hg ss; have HX_7 := hid BB; have HR_7 := hid (HR_6.out.on hg (by have := HR_5.out.lt; simp; omega)); have HS_7 := hid (HS_6.out.on hg (by have := HS_5.out.lt; simp; omega)); have HW_7 := hid (HW_6.out.on hg (by have := HW_5.out.lt; simp; omega)); have HL_7 := hid (show LentK w0.heap.size w7 g cg l from ⟨HL_6.out.1.offB hg HX_6.out (by decide), HL_6.out.2⟩); have HG_7 := hid (HG_6.out.andThen hg (fun j hj => .inl (by injection hj with hj; have := HG_5.out.size; omega))); have HZs_7 : Hid (w6.heap.size ≤ w7.heap.size) := hid hg.size; clear BB hg ss)
          | (have := HG_5; clear this; (with_reducible refine wpList_alloc_row (by with_unfolding_all rfl) 69 (by with_unfolding_all rfl) [.slice none 0 0, .int .u64 0] Try.zero69 ?_); intro w6 BB ss hg; have HX_6 := hid BB; have HR_6 := hid (HR_5.out.keep hg); have HS_6 := hid (HS_5.out.keep hg); have HW_6 := hid (HW_5.out.keep hg); have HL_6 := hid (HL_5.out.keep hg); have HG_6 := hid (gtrans HG_5.out hg); clear BB ss hg))
        obtain ⟨p10, hp10⟩ : ∃ x, w5.heap.size = x := ⟨_, rfl⟩
        rw [hp10] at HX_7 ⊢
        go_upto_region 12 with (first
          | (with_reducible refine wpList_load_part (by with_unfolding_all rfl) 69 _ (by with_unfolding_all rfl) p5 0 [.slice ra rn rc, .int .u64 nx] _ (by with_unfolding_all rfl) HR_7.out.whole Try.underlying69 (by with_unfolding_all rfl) (by with_unfolding_all exact Try.size69) ?_)
          | ((with_reducible refine wpList_store_all (by with_unfolding_all rfl) 69 _ _ (by with_unfolding_all rfl) _ [.slice none 0 0, .int .u64 0] [.slice ra rn rc, .int .u64 nx] 69 (by with_unfolding_all rfl) (by with_unfolding_all rfl) HY_8.out (by with_unfolding_all rfl) (by with_unfolding_all exact Try.size69) (ring_one _ _ _ _) ?_); intro w9 BB hg ss; have HY_9 := hid BB; have HR_9 := hid (HR_8.out.on hg (by have := HR_7.out.lt; simp; omega)); have HS_9 := hid (HS_8.out.on hg (by have := HS_7.out.lt; simp; omega)); have HW_9 := hid (HW_8.out.on hg (by have := HW_7.out.lt; simp; omega)); have HL_9 := hid (show LentK w0.heap.size w9 g cg l from ⟨HL_8.out.1.offB hg HY_8.out (by decide), HL_8.out.2⟩); have HX_9 := hid (HX_8.out.on hg (by have := HX_7.out.lt; simp; omega)); have HG_9 := hid (HG_8.out.andThen hg (fun j hj => .inl (by injection hj with hj; have := HG_7.out.size; omega))); have HZs_9 : Hid (w8.heap.size ≤ w9.heap.size) := hid hg.size; clear BB hg ss)
          | (have := HG_7; clear this; (with_reducible refine wpList_alloc_row (by with_unfolding_all rfl) 69 (by with_unfolding_all rfl) [.slice none 0 0, .int .u64 0] Try.zero69 ?_); intro w8 BB ss hg; have HY_8 := hid BB; have HR_8 := hid (HR_7.out.keep hg); have HS_8 := hid (HS_7.out.keep hg); have HW_8 := hid (HW_7.out.keep hg); have HL_8 := hid (HL_7.out.keep hg); have HX_8 := hid (HX_7.out.keep hg); have HG_8 := hid (gtrans HG_7.out hg); clear BB ss hg))
        obtain ⟨p11, hp11⟩ : ∃ x, w7.heap.size = x := ⟨_, rfl⟩
        rw [hp11] at HY_9 ⊢
        go_upto_region 14 with (first
          | (have := HG_9; clear this; (with_reducible refine wpList_alloc_row (by with_unfolding_all rfl) 69 (by with_unfolding_all rfl) [.slice none 0 0, .int .u64 0] Try.zero69 ?_); intro w10 BB ss hg; have HZ_10 := hid BB; have HR_10 := hid (HR_9.out.keep hg); have HS_10 := hid (HS_9.out.keep hg); have HW_10 := hid (HW_9.out.keep hg); have HL_10 := hid (HL_9.out.keep hg); have HX_10 := hid (HX_9.out.keep hg); have HY_10 := hid (HY_9.out.keep hg); have HG_10 := hid (gtrans HG_9.out hg); clear BB ss hg))
        obtain ⟨p13, hp13⟩ : ∃ x, w9.heap.size = x := ⟨_, rfl⟩
        rw [hp13] at HZ_10 ⊢
        have HPn : Hid (w0.heap.size ≤ pS ∧ pS < p8 ∧ p8 < p10 ∧ p10 < p11 ∧ p11 < p13 ∧ p13 < w10.heap.size ∧ p5 < pS ∧ w0.heap.size ≤ p8 ∧ g < p10 ∧ w0.heap.size ≤ g) := hid (by
          have h1 := HR_0.out.lt
          have h2 := HS_2.out.lt
          have h3 := HW_4.out.lt
          have h4 := HG_2.out.size
          have h5 := HX_7.out.lt
          have h6 := HY_9.out.lt
          have h7 := HZ_10.out.lt
          have h8 := HgL.out
          have h9 := HG_4.out.size
          have h10 := HW_5.out.lt
          omega)
        clear hpS hp8 hp10 hp11 hp13 HS_1 HS_2 HS_3 HS_4 HS_5 HS_6 HS_7 HS_8 HS_9 HR_2 HR_1 HR_3 HR_4 HR_5 HR_6 HR_7 HR_8 HR_9 HW_3 HW_4 HW_5 HW_6 HW_7 HW_8 HW_9 HX_6 HX_7 HX_8 HX_9 HL_5 HL_6 HL_7 HL_8 HL_9 HY_8 HY_9 HG_1 HG_2 HG_3 HG_4 HG_5 HG_6 HG_7 HG_8 HG_9 HgL HLn
        have hact := (HSp.out _ _ HS_10.out).1
        by_cases hk : act = 1
        · as_aux_lemma =>
          subst hk
          obtain ⟨LW, HLW⟩ : ∃ x, Hid ((([⟨1, sec, 0⟩], 2) : List Ky × Nat).1 = x) := ⟨_, hid rfl⟩
          obtain ⟨NW, HNW⟩ : ∃ x, Hid ((([⟨1, sec, 0⟩], 2) : List Ky × Nat).2 = x) := ⟨_, hid rfl⟩
          obtain ⟨MW, HMW⟩ : ∃ x, Hid (LW.length = x) := ⟨_, hid rfl⟩
          have H41 : Hid (LW.length ≤ 41) := hid (by rw [← HLW.out]; exact (by show 1 ≤ 41; omega))
          have HCw : Hid (∀ u, w0.grownBy u none → Calls Try.prog 9 #[.agg ts.toArray] u fun e w' => ∃ a c, e = .returned (.agg #[.slice a MW c, .int .u64 (NW : Nat)]) ∧ OutK u.heap.size w' (.slice a MW c) LW ∧ u.grownBy w' none) := fun u hu => by
            have h := firstR_any u sec HIn.out.1
            rw [HTS.out] at h
            have e1 : LW = [⟨1, sec, 0⟩] := HLW.out.symm
            have e2 : NW = 2 := HNW.out.symm
            have e3 : MW = 1 := by rw [← HMW.out, e1]; rfl
            rw [e1, e2, e3]
            exact h.mono fun e w' ⟨q, h1, h2, h3⟩ => ⟨_, _, h1, h2, h3⟩
          have HCg : Hid (∀ u, LentK w0.heap.size u g cg l → Calls Try.prog 10 #[.agg ts.toArray] u fun e w' => ∃ a c, e = .returned (.agg #[.slice a MW c, .int .u64 (NW : Nat)]) ∧ OutK u.heap.size w' (.slice a MW c) LW ∧ u.grownBy w' none) := fun u hu => by
            have h := first_any u sec HIn.out.1
            rw [HTS.out] at h
            have e1 : LW = [⟨1, sec, 0⟩] := HLW.out.symm
            have e2 : NW = 2 := HNW.out.symm
            have e3 : MW = 1 := by rw [← HMW.out, e1]; rfl
            rw [e1, e2, e3]
            exact h
          clear hact
          obtain ⟨z0, z33, z34, hz70, hz35⟩ := HSp.out _ _ HS_10.out
          clear hz35
          rw [HTS.out] at hz70
          replace hz70 := hid hz70
          go_upto_region 17 with (first
            | (with_reducible refine wpList_load_part (by with_unfolding_all rfl) 70 _ (by with_unfolding_all rfl) pS 1 ts _ (by with_unfolding_all rfl) hz70.out Try.underlying70 (by with_unfolding_all rfl) (by rw [HTl.out]; exact Try.size70) ?_)
            | (go_at_call 9; (with_reducible refine (HCw.out _ HG_10.out).mono ?_); rintro e w11 ⟨aA, cA, rfl, hO, hg⟩; have HS_11 := hid (HS_10.out.keep hg); have HR_11 := hid (HR_10.out.keep hg); have HW_11 := hid (HW_10.out.keep hg); have HX_11 := hid (HX_10.out.keep hg); have HY_11 := hid (HY_10.out.keep hg); have HZ_11 := hid (HZ_10.out.keep hg); have HL_11 := hid (HL_10.out.keep hg); have HG_11 := hid (gtrans HG_10.out hg); have HZs_11 : Hid (w10.heap.size ≤ w11.heap.size) := hid hg.size; have HOA_11 := hid hO; clear hO; clear hg)
            | ((with_reducible refine wpList_store_all (by with_unfolding_all rfl) 69 _ _ (by with_unfolding_all rfl) p8 [.slice ra rn rc, .int .u64 nx] [.slice aA MW cA, .int .u64 (NW : Nat)] 69 (by with_unfolding_all rfl) (by with_unfolding_all rfl) HW_11.out (by with_unfolding_all rfl) (by with_unfolding_all exact Try.size69) (ring_one _ _ _ _) ?_); intro w12 BB hg ss; have HW_12 := hid BB; have HS_12 := hid (HS_11.out.on hg (by have := HPn.out; simp; omega)); have HR_12 := hid (HR_11.out.on hg (by have := HPn.out; simp; omega)); have HX_12 := hid (HX_11.out.on hg (by have := HPn.out; simp; omega)); have HY_12 := hid (HY_11.out.on hg (by have := HPn.out; simp; omega)); have HZ_12 := hid (HZ_11.out.on hg (by have := HPn.out; simp; omega)); have HL_12 := hid (show LentK w0.heap.size w12 g cg l from ⟨HL_11.out.1.offB hg HW_11.out (by decide), HL_11.out.2⟩); have HOA_12 := hid (HOA_11.out.offB hg HW_11.out (by decide)); have HG_12 := hid (HG_11.out.andThen hg (fun j hj => .inl (by injection hj with hj; have := HPn.out; omega))); have HZs_12 : Hid (w11.heap.size ≤ w12.heap.size) := hid hg.size; clear BB hg ss))
          clear z0 z33 z34 hz70
          obtain ⟨z0, z33, z34, hz70, hz35⟩ := HSp.out _ _ HS_12.out
          clear hz35
          rw [HTS.out] at hz70
          replace hz70 := hid hz70
          go_upto_region 18 with (first
            | (with_reducible refine wpList_load_part (by with_unfolding_all rfl) 70 _ (by with_unfolding_all rfl) pS 1 ts _ (by with_unfolding_all rfl) hz70.out Try.underlying70 (by with_unfolding_all rfl) (by rw [HTl.out]; exact Try.size70) ?_)
            | (go_at_call 10; (with_reducible refine (HCg.out _ HL_12.out).mono ?_); rintro e w13 ⟨aB, cB, rfl, hO, hg⟩; have HS_13 := hid (HS_12.out.keep hg); have HR_13 := hid (HR_12.out.keep hg); have HW_13 := hid (HW_12.out.keep hg); have HX_13 := hid (HX_12.out.keep hg); have HY_13 := hid (HY_12.out.keep hg); have HZ_13 := hid (HZ_12.out.keep hg); have HL_13 := hid (HL_12.out.keep hg); have HOA_13 := hid (HOA_12.out.keep hg); have HG_13 := hid (gtrans HG_12.out hg); have HZs_13 : Hid (w12.heap.size ≤ w13.heap.size) := hid hg.size; have HOB_13 := hid hO; clear hO; clear hg)
            | ((with_reducible refine wpList_store_all (by with_unfolding_all rfl) 69 _ _ (by with_unfolding_all rfl) p11 [.slice ra rn rc, .int .u64 nx] [.slice aB MW cB, .int .u64 (NW : Nat)] 69 (by with_unfolding_all rfl) (by with_unfolding_all rfl) HY_13.out (by with_unfolding_all rfl) (by with_unfolding_all exact Try.size69) (ring_one _ _ _ _) ?_); intro w14 BB hg ss; have HY_14 := hid BB; have HS_14 := hid (HS_13.out.on hg (by have := HPn.out; simp; omega)); have HR_14 := hid (HR_13.out.on hg (by have := HPn.out; simp; omega)); have HW_14 := hid (HW_13.out.on hg (by have := HPn.out; simp; omega)); have HX_14 := hid (HX_13.out.on hg (by have := HPn.out; simp; omega)); have HZ_14 := hid (HZ_13.out.on hg (by have := HPn.out; simp; omega)); have HL_14 := hid (show LentK w0.heap.size w14 g cg l from ⟨HL_13.out.1.offB hg HY_13.out (by decide), HL_13.out.2⟩); have HOA_14 := hid (HOA_13.out.offB hg HY_13.out (by decide)); have HOB_14 := hid (HOB_13.out.offB hg HY_13.out (by decide)); have HG_14 := hid (HG_13.out.andThen hg (fun j hj => .inl (by injection hj with hj; have := HPn.out; omega))); have HZs_14 : Hid (w13.heap.size ≤ w14.heap.size) := hid hg.size; clear BB hg ss))
          clear z0 z33 z34 hz70
          obtain ⟨z0, z33, z34, hz70, hz35⟩ := HSp.out _ _ HS_14.out
          clear hz35
          rw [HTS.out] at hz70
          replace hz70 := hid hz70
          go_upto_region 38 with (first
            | (with_reducible refine wpList_load_part (by with_unfolding_all rfl) 70 _ (by with_unfolding_all rfl) pS 1 ts _ (by with_unfolding_all rfl) hz70.out Try.underlying70 (by with_unfolding_all rfl) (by rw [HTl.out]; exact Try.size70) ?_)
            | (go_at_call 10; (with_reducible refine (HCg.out _ HL_14.out).mono ?_); rintro e w15 ⟨aC, cC, rfl, hO, hg⟩; have HS_15 := hid (HS_14.out.keep hg); have HR_15 := hid (HR_14.out.keep hg); have HW_15 := hid (HW_14.out.keep hg); have HX_15 := hid (HX_14.out.keep hg); have HY_15 := hid (HY_14.out.keep hg); have HZ_15 := hid (HZ_14.out.keep hg); have HL_15 := hid (HL_14.out.keep hg); have HOA_15 := hid (HOA_14.out.keep hg); have HOB_15 := hid (HOB_14.out.keep hg); have HG_15 := hid (gtrans HG_14.out hg); have HZs_15 : Hid (w14.heap.size ≤ w15.heap.size) := hid hg.size; have HOC_15 := hid hO; clear hO; clear hg)
            | ((with_reducible refine wpList_store_all (by with_unfolding_all rfl) 69 _ _ (by with_unfolding_all rfl) p13 [.slice none 0 0, .int .u64 0] [.slice aC MW cC, .int .u64 (NW : Nat)] 69 (by with_unfolding_all rfl) (by with_unfolding_all rfl) HZ_15.out (by with_unfolding_all rfl) (by with_unfolding_all exact Try.size69) (ring_one _ _ _ _) ?_); intro w16 BB hg ss; have HZ_16 := hid BB; have HS_16 := hid (HS_15.out.on hg (by have := HPn.out; simp; omega)); have HR_16 := hid (HR_15.out.on hg (by have := HPn.out; simp; omega)); have HW_16 := hid (HW_15.out.on hg (by have := HPn.out; simp; omega)); have HX_16 := hid (HX_15.out.on hg (by have := HPn.out; simp; omega)); have HY_16 := hid (HY_15.out.on hg (by have := HPn.out; simp; omega)); have HL_16 := hid (show LentK w0.heap.size w16 g cg l from ⟨HL_15.out.1.offB hg HZ_15.out (by decide), HL_15.out.2⟩); have HOA_16 := hid (HOA_15.out.offB hg HZ_15.out (by decide)); have HOB_16 := hid (HOB_15.out.offB hg HZ_15.out (by decide)); have HOC_16 := hid (HOC_15.out.offB hg HZ_15.out (by decide)); have HG_16 := hid (HG_15.out.andThen hg (fun j hj => .inl (by injection hj with hj; have := HPn.out; omega))); have HZs_16 : Hid (w15.heap.size ≤ w16.heap.size) := hid hg.size; clear BB hg ss))
          clear z0 z33 z34 hz70
          have HAp : Hid ((∀ k, (Value.slice aA MW cA).ownBlock = some k → w0.heap.size ≤ k ∧ k ≠ g) ∧ (∀ k, (Value.slice aB MW cB).ownBlock = some k → w0.heap.size ≤ k ∧ k ≠ g ∧ (Value.slice aC MW cC).ownBlock ≠ some k ∧ (Value.slice aA MW cA).ownBlock ≠ some k) ∧ (∀ k, (Value.slice aC MW cC).ownBlock = some k → w0.heap.size ≤ k ∧ k ≠ g ∧ (Value.slice aA MW cA).ownBlock ≠ some k)) := hid (by
            have z1 := HG_10.out.size
            have z2 := HPn.out
            have z3 := HZs_12.out
            have z4 := HZs_13.out
            have z5 := HZs_14.out
            have bA : ∀ k, (Value.slice aA MW cA).ownBlock = some k → w10.heap.size ≤ k ∧ k < w11.heap.size := fun k hk => ⟨(own_block HOA_11.out.2 hk).1, (own_block HOA_11.out.2 hk).2.1⟩
            have bB : ∀ k, (Value.slice aB MW cB).ownBlock = some k → w12.heap.size ≤ k ∧ k < w13.heap.size := fun k hk => ⟨(own_block HOB_13.out.2 hk).1, (own_block HOB_13.out.2 hk).2.1⟩
            have bC : ∀ k, (Value.slice aC MW cC).ownBlock = some k → w14.heap.size ≤ k := fun k hk => (own_block HOC_15.out.2 hk).1
            have z6 := HZs_11.out
            refine ⟨fun k hk => ?_, fun k hk => ⟨?_, ?_, fun e => ?_, fun e => ?_⟩, fun k hk => ⟨?_, ?_, fun e => ?_⟩⟩
            · have := bA k hk; omega
            · have := bB k hk; omega
            · have := bB k hk; omega
            · have := bB k hk; have := bC k e; omega
            · have := bB k hk; have := bA k e; omega
            · have := bC k hk; omega
            · have := bC k hk; omega
            · have := bC k hk; have := bA k e; omega)
          have HJ := hid (SS.js2 HSS.out HG_16.out HS_16.out HW_16.out HPn.out.2.2.2.2.2.2.2.1 (RK.of (HOA_16.out.below HG_10.out.size)))
          have HBk : Hid (Calls Try.prog 19 #[.slice (some ⟨g, 0, none⟩) rn cg, .slice ra rn rc] w16 fun e w' => e = .returned (.bool true) ∧ w16.grownBy w' none) := hid (by
            have h := backK_any w16 _ _ _ g cg l HL_16.out HJ.out.keys.rd HLe.out
            rw [HN.out] at h
            exact h)
          have yx := HX_16.out.cell 0
          have yr := HJ.out.r.cell 0
          go_upto_region 42 with (first
            | (go_at_call 19; (with_reducible refine HBk.out.mono ?_); rintro e wA ⟨rfl, hg⟩; have HJA := hid (HJ.out.keep hg); have HLA := hid (HL_16.out.keep hg); have ya := (HX_16.out.keep hg).cell 0; have HYA := hid (HY_16.out.keep hg); have HZA := hid (HZ_16.out.keep hg); have HBA := hid (HOB_16.out.keep hg); have HCA := hid (HOC_16.out.keep hg); have HOv : Hid (Calls Try.prog 20 #[.slice (some ⟨g, 0, none⟩) rn cg] wA fun e w' => e = .returned (.tuple #[]) ∧ wA.grownBy w' (some g)) := hid (by have h := overK_any wA _ g cg l HLA.out HLe.out; rw [HN.out] at h; exact h); have HZA2 := hid hg.size; clear hg)
            | (go_at_call 20; (with_reducible refine HOv.out.mono ?_); rintro e wB ⟨rfl, hg⟩; have HJB := hid (by obtain ⟨cg', hb', _⟩ := HLA.out.1.blkB (g := g) rfl; exact JS.over HJA.out hb' hg (by have := HPn.out; have := HG0.out.size; omega) (by have := HPn.out; omega) (fun e => by have := HLow.out.1 g e; have := HPn.out; omega) (fun e => by have := HLow.out.2 g e; have := HPn.out; omega) (fun e => (HAp.out.1 g e).2 rfl)); have HYB := hid (HYA.out.on hg (by have := HPn.out; simp; omega)); have HZB := hid (HZA.out.on hg (by have := HPn.out; simp; omega)); have HBB := hid (HBA.out.on hg (fun k hk e => by injection hk with hk; exact (HAp.out.2.1 k e).2.1 hk.symm)); have HCB := hid (HCA.out.on hg (fun k hk e => by injection hk with hk; exact (HAp.out.2.2 k e).2.1 hk.symm)); have yb := (HSp.out _ _ HJB.out.s).1; have HZB2 := hid hg.size; clear hg))
          clear yx yr ya HBk HOv HJ HJA HLA HYA HZA HBA HCA
          have HE1 : Hid (Calls Try.prog 21 #[.agg #[.slice aB MW cB, .int .u64 (NW : Nat)], .agg #[.slice aA MW cA, .int .u64 (NW : Nat)]] wB fun e w' => e = .returned (.bool true) ∧ wB.grownBy w' none) := hid (by
            have h := eqRing_any wB _ _ _ _ LW LW NW NW HBB.out.rd HJB.out.wk.rd (by have := H41.out; omega)
            rw [decide_eq_true rfl, decide_eq_true rfl] at h
            exact h)
          go_upto_region 44 with (first
            | (with_reducible refine wpList_load_part (by with_unfolding_all rfl) 69 _ (by with_unfolding_all rfl) p11 0 [.slice aB MW cB, .int .u64 (NW : Nat)] _ (by with_unfolding_all rfl) HYB.out.whole Try.underlying69 (by with_unfolding_all rfl) (by with_unfolding_all exact Try.size69) ?_)
            | (with_reducible refine wpList_load_part (by with_unfolding_all rfl) 69 _ (by with_unfolding_all rfl) p8 0 [.slice aA MW cA, .int .u64 (NW : Nat)] _ (by with_unfolding_all rfl) HJB.out.w8.whole Try.underlying69 (by with_unfolding_all rfl) (by with_unfolding_all exact Try.size69) ?_)
            | (go_at_call 21; (with_reducible refine HE1.out.mono ?_); rintro e wC ⟨rfl, hg⟩; have HJC := hid (HJB.out.keep hg); have HYC := hid (HYB.out.keep hg); have HZC := hid (HZB.out.keep hg); have HBC := hid (HBB.out.keep hg); have HCC := hid (HCB.out.keep hg); have HZC2 := hid hg.size; clear hg)
            | (go_at_call 22; refine (num_any _ _).mono ?_; rintro e wc' ⟨rfl, rfl⟩))
          clear yb HE1 HJB HYB HZB HBB HCB
          have HR1 := hid (JS.got (s0 := w0.heap.size) (gx := NW) (ta := aC) (tn := MW) (tc := cC) HJC.out (by have := HG_16.out.size; have := HZA2.out; have := HZB2.out; have := HZC2.out; omega) (HBC.out.below (by have := HG0.out.size; have := HG_10.out.size; have := HZs_11.out; have := HZs_12.out; omega)) (by have := H41.out; omega) (by have := HTT.out; have := hi; omega) (fun k hk => ⟨(HAp.out.2.1 k hk).1, (HAp.out.2.1 k hk).2.2.1, (HAp.out.2.1 k hk).2.2.2⟩) (fun k hk => (HAp.out.2.2 k hk).1) HLow.out.1 HLow.out.2)
          go_upto_region 45 with (first
            | (with_reducible refine wpList_load_part (by with_unfolding_all rfl) 69 _ (by with_unfolding_all rfl) p11 0 [.slice aB MW cB, .int .u64 (NW : Nat)] _ (by with_unfolding_all rfl) HYC.out.whole Try.underlying69 (by with_unfolding_all rfl) (by with_unfolding_all exact Try.size69) ?_)
            | (go_at_call 23; (with_reducible refine HR1.out.mono ?_); rintro e wD ⟨rfl, hJ, hk⟩; have HJD := hid hJ; have HZD := hid (Blk.kk HZC.out hk (by decide) (fun e => HBC.out.ne_blk HZC.out (by decide) _ e rfl)); have HCD := hid (OutK.kk HCC.out hk (fun k e e2 => (HAp.out.2.1 k e2).2.2.1 e)); have HZD2 := hid hk.1.size; clear hJ hk))
          clear HR1 HJC HYC HZC HBC HCC
          have HE2 : Hid (Calls Try.prog 21 #[.agg #[.slice aC MW cC, .int .u64 (NW : Nat)], .agg #[.slice aA MW cA, .int .u64 (NW : Nat)]] wD fun e w' => e = .returned (.bool true) ∧ wD.grownBy w' none) := hid (by
            have h := eqRing_any wD _ _ _ _ LW LW NW NW HCD.out.rd HJD.out.wk.rd (by have := H41.out; omega)
            rw [decide_eq_true rfl, decide_eq_true rfl] at h
            exact h)
          go_upto_region 47 with (first
            | (with_reducible refine wpList_load_part (by with_unfolding_all rfl) 69 _ (by with_unfolding_all rfl) p13 0 [.slice aC MW cC, .int .u64 (NW : Nat)] _ (by with_unfolding_all rfl) HZD.out.whole Try.underlying69 (by with_unfolding_all rfl) (by with_unfolding_all exact Try.size69) ?_)
            | (with_reducible refine wpList_load_part (by with_unfolding_all rfl) 69 _ (by with_unfolding_all rfl) p8 0 [.slice aA MW cA, .int .u64 (NW : Nat)] _ (by with_unfolding_all rfl) HJD.out.w8.whole Try.underlying69 (by with_unfolding_all rfl) (by with_unfolding_all exact Try.size69) ?_)
            | (go_at_call 21; (with_reducible refine HE2.out.mono ?_); rintro e wE ⟨rfl, hg⟩; have HJE := hid (HJD.out.keep hg); have HZE := hid (HZD.out.keep hg); have HCE := hid (HCD.out.keep hg); have HZE2 := hid hg.size; clear hg))
          clear HE2 HJD HZD HCD
          have HR2 := hid (JS.twin (s0 := w0.heap.size) (gx := NW) HJE.out (by have := HZD2.out; have := HZE2.out; omega) (HCE.out.below (by have := HG0.out.size; have := HG_10.out.size; have := HZs_11.out; have := HZs_12.out; have := HZs_13.out; have := HZs_14.out; omega)) (by have := H41.out; omega) (by have := HTT.out; have := hi; omega) (fun k hk => ⟨(HAp.out.2.2 k hk).1, (HAp.out.2.2 k hk).2.2⟩) HLow.out.1 HLow.out.2)
          go_upto_region 48 with (first
            | (with_reducible refine wpList_load_part (by with_unfolding_all rfl) 69 _ (by with_unfolding_all rfl) p13 0 [.slice aC MW cC, .int .u64 (NW : Nat)] _ (by with_unfolding_all rfl) HZE.out.whole Try.underlying69 (by with_unfolding_all rfl) (by with_unfolding_all exact Try.size69) ?_)
            | (go_at_call 23; (with_reducible refine HR2.out.mono ?_); rintro e wF ⟨rfl, hJ, hk⟩; have HJF := hid hJ; have HZF2 := hid hk.1.size; clear hJ hk))
          clear HR2 HJE HZE HCE
          have HLen2 : Hid (LW.length ≤ 41) := H41
          have HLenW : Hid (LW.length ≤ 1000000) := hid (by have := HLen2.out; omega)
          have HSzU : Hid (wE.heap.size ≤ wF.heap.size) := hid (by have := HZF2.out; omega)
          go_upto_region 51 with (first
            | (with_reducible refine wpList_load_part (by with_unfolding_all rfl) 69 _ (by with_unfolding_all rfl) p8 0 [.slice aA MW cA, .int .u64 (NW : Nat)] _ (by with_unfolding_all rfl) HJF.out.w8.whole Try.underlying69 (by with_unfolding_all rfl) (by with_unfolding_all exact Try.size69) ?_)
            | ((with_reducible refine wpList_store_all (by with_unfolding_all rfl) 69 _ _ (by with_unfolding_all rfl) p5 [.slice ra rn rc, .int .u64 nx] [.slice aA MW cA, .int .u64 (NW : Nat)] 69 (by with_unfolding_all rfl) (by with_unfolding_all rfl) HJF.out.r (by with_unfolding_all rfl) (by with_unfolding_all exact Try.size69) (ring_one _ _ _ _) ?_); intro wH BB hg ss; have HJH := hid (JS.take HJF.out BB hg); have HZH2 := hid hg.size; clear BB hg ss))
          have yk := (HSp.out _ _ HJH.out.s).2.2.1
          have HAs : Hid (Calls Try.prog 17 #[.agg #[.slice aA MW cA, .int .u64 NW], .int .u64 kid] wH fun e w' => e = .returned (.bool true) ∧ wH.grownBy w' none) := hid (asks_any wH _ _ LW NW kid HJH.out.keys.rd HLenW.out)
          go_wp2_with (first
            | (with_reducible refine wpList_load_partW (by with_unfolding_all rfl) 69 _ (by with_unfolding_all rfl) p5 0 [.slice aA MW cA, .int .u64 (NW : Nat)] _ (by with_unfolding_all rfl) HJI.out.r.whole Try.underlying69 (by with_unfolding_all rfl) (by with_unfolding_all exact Try.size69) ?_)
            | (with_reducible refine wpList_load_part (by with_unfolding_all rfl) 69 _ (by with_unfolding_all rfl) p5 0 [.slice aA MW cA, .int .u64 (NW : Nat)] _ (by with_unfolding_all rfl) HJH.out.r.whole Try.underlying69 (by with_unfolding_all rfl) (by with_unfolding_all exact Try.size69) ?_)
            | (go_at_call 17; (with_reducible refine HAs.out.mono ?_); rintro e wI ⟨rfl, hg⟩; have HJI := hid (HJH.out.keep hg); have HZI2 := hid hg.size; have HPl := hid (placed_any wI w.heap.size sb _ cs va vn vc lk LW aA MW cA NW HJI.out.seat HJI.out.c4 HJI.out.row HJI.out.grown.size (fun u hu => (JS.rd HJI.out hu).rd) HLenW.out); clear hg)
            | (go_at_call 24; go_loud ((with_reducible refine HPl.out.mono ?_); rintro e wK ⟨rfl, na, nn, nc, hO, hB, hat, hK⟩; have HDn := hid (JS.done HJI.out (by have := HSzU.out; have := HZH2.out; have := HZI2.out; omega) hK hB hO hat); clear hO hB hat hK)))
          go_roundw
          case rel => exact ⟨i + 1, (TT + 1 + 1), _, _, _, _, _, _, _, _, _, _, by go_num, by omega, hid (by have := HTT.out; omega), HLen2, HDn⟩
          case measure => simp [intOf]; omega
        · skip
          by_cases hk : act = 2
          · as_aux_lemma =>
            subst hk
            obtain ⟨LW, HLW⟩ : ∃ x, Hid ((rotR l nx sec At : List Ky × Nat).1 = x) := ⟨_, hid rfl⟩
            obtain ⟨NW, HNW⟩ : ∃ x, Hid ((rotR l nx sec At : List Ky × Nat).2 = x) := ⟨_, hid rfl⟩
            obtain ⟨MW, HMW⟩ : ∃ x, Hid (LW.length = x) := ⟨_, hid rfl⟩
            have H41 : Hid (LW.length ≤ 41) := hid (by rw [← HLW.out]; exact rotR_41 l nx sec At)
            obtain ⟨EW, HEW⟩ : ∃ x, Hid (rotE l nx At = x) := ⟨_, hid rfl⟩
            have HCw : Hid (∀ u, w0.grownBy u none → Calls Try.prog 11 #[.agg #[.slice ra rn rc, .int .u64 nx], .agg ts.toArray, .int .i64 At] u fun e w' => ∃ a c, e = .returned (.tuple #[.agg #[.slice a MW c, .int .u64 (NW : Nat)], .int .i64 EW]) ∧ OutK u.heap.size w' (.slice a MW c) LW ∧ u.grownBy w' none) := fun u hu => by
              have h := rrot_any u _ _ l nx sec At (HRv.out u hu) HLb.out HIn.out.1 HIn.out.2
              rw [HEW.out, HLW.out, HNW.out, HMW.out, HTS.out] at h
              exact h
            have HCg : Hid (∀ u, LentK w0.heap.size u g cg l → Calls Try.prog 12 #[.agg #[.slice (some ⟨g, 0, none⟩) rn cg, .int .u64 nx], .agg ts.toArray, .int .i64 At] u fun e w' => ∃ a c, e = .returned (.tuple #[.agg #[.slice a MW c, .int .u64 (NW : Nat)], .int .i64 EW]) ∧ OutK u.heap.size w' (.slice a MW c) LW ∧ u.grownBy w' none) := fun u hu => by
              have h := rotate_any u _ _ l nx sec At (HRx.out u g cg hu) HLb.out HIn.out.1 HIn.out.2
              rw [HEW.out, HLW.out, HNW.out, HMW.out, HTS.out] at h
              exact h
            clear hact
            obtain ⟨z0, z33, z34, hz70, hz35⟩ := HSp.out _ _ HS_10.out
            clear hz35
            rw [HTS.out] at hz70
            replace hz70 := hid hz70
            go_upto_region 21 with (first
              | (with_reducible refine wpList_load_part (by with_unfolding_all rfl) 70 _ (by with_unfolding_all rfl) pS 1 ts _ (by with_unfolding_all rfl) hz70.out Try.underlying70 (by with_unfolding_all rfl) (by rw [HTl.out]; exact Try.size70) ?_)
              | (with_reducible refine wpList_load_part (by with_unfolding_all rfl) 69 _ (by with_unfolding_all rfl) p5 0 [.slice ra rn rc, .int .u64 nx] _ (by with_unfolding_all rfl) HR_10.out.whole Try.underlying69 (by with_unfolding_all rfl) (by with_unfolding_all exact Try.size69) ?_)
              | (go_at_call 11; (with_reducible refine (HCw.out _ HG_10.out).mono ?_); rintro e w11 ⟨aA, cA, rfl, hO, hg⟩; have HS_11 := hid (HS_10.out.keep hg); have HR_11 := hid (HR_10.out.keep hg); have HW_11 := hid (HW_10.out.keep hg); have HX_11 := hid (HX_10.out.keep hg); have HY_11 := hid (HY_10.out.keep hg); have HZ_11 := hid (HZ_10.out.keep hg); have HL_11 := hid (HL_10.out.keep hg); have HG_11 := hid (gtrans HG_10.out hg); have HZs_11 : Hid (w10.heap.size ≤ w11.heap.size) := hid hg.size; have HOA_11 := hid hO; clear hO; clear hg)
              | ((with_reducible refine wpList_store_all (by with_unfolding_all rfl) 69 _ _ (by with_unfolding_all rfl) p8 [.slice ra rn rc, .int .u64 nx] [.slice aA MW cA, .int .u64 (NW : Nat)] 69 (by with_unfolding_all rfl) (by with_unfolding_all rfl) HW_11.out (by with_unfolding_all rfl) (by with_unfolding_all exact Try.size69) (ring_one _ _ _ _) ?_); intro w12 BB hg ss; have HW_12 := hid BB; have HS_12 := hid (HS_11.out.on hg (by have := HPn.out; simp; omega)); have HR_12 := hid (HR_11.out.on hg (by have := HPn.out; simp; omega)); have HX_12 := hid (HX_11.out.on hg (by have := HPn.out; simp; omega)); have HY_12 := hid (HY_11.out.on hg (by have := HPn.out; simp; omega)); have HZ_12 := hid (HZ_11.out.on hg (by have := HPn.out; simp; omega)); have HL_12 := hid (show LentK w0.heap.size w12 g cg l from ⟨HL_11.out.1.offB hg HW_11.out (by decide), HL_11.out.2⟩); have HOA_12 := hid (HOA_11.out.offB hg HW_11.out (by decide)); have HG_12 := hid (HG_11.out.andThen hg (fun j hj => .inl (by injection hj with hj; have := HPn.out; omega))); have HZs_12 : Hid (w11.heap.size ≤ w12.heap.size) := hid hg.size; clear BB hg ss))
            clear z0 z33 z34 hz70
            obtain ⟨z0, z33, z34, hz70, hz35⟩ := HSp.out _ _ HS_12.out
            clear hz35
            rw [HTS.out] at hz70
            replace hz70 := hid hz70
            go_upto_region 22 with (first
              | (with_reducible refine wpList_load_part (by with_unfolding_all rfl) 70 _ (by with_unfolding_all rfl) pS 1 ts _ (by with_unfolding_all rfl) hz70.out Try.underlying70 (by with_unfolding_all rfl) (by rw [HTl.out]; exact Try.size70) ?_)
              | (with_reducible refine wpList_load_part (by with_unfolding_all rfl) 69 _ (by with_unfolding_all rfl) p10 0 [.slice (some ⟨g, 0, none⟩) rn cg, .int .u64 nx] _ (by with_unfolding_all rfl) HX_12.out.whole Try.underlying69 (by with_unfolding_all rfl) (by with_unfolding_all exact Try.size69) ?_)
              | (go_at_call 12; (with_reducible refine (HCg.out _ HL_12.out).mono ?_); rintro e w13 ⟨aB, cB, rfl, hO, hg⟩; have HS_13 := hid (HS_12.out.keep hg); have HR_13 := hid (HR_12.out.keep hg); have HW_13 := hid (HW_12.out.keep hg); have HX_13 := hid (HX_12.out.keep hg); have HY_13 := hid (HY_12.out.keep hg); have HZ_13 := hid (HZ_12.out.keep hg); have HL_13 := hid (HL_12.out.keep hg); have HOA_13 := hid (HOA_12.out.keep hg); have HG_13 := hid (gtrans HG_12.out hg); have HZs_13 : Hid (w12.heap.size ≤ w13.heap.size) := hid hg.size; have HOB_13 := hid hO; clear hO; clear hg)
              | ((with_reducible refine wpList_store_all (by with_unfolding_all rfl) 69 _ _ (by with_unfolding_all rfl) p11 [.slice ra rn rc, .int .u64 nx] [.slice aB MW cB, .int .u64 (NW : Nat)] 69 (by with_unfolding_all rfl) (by with_unfolding_all rfl) HY_13.out (by with_unfolding_all rfl) (by with_unfolding_all exact Try.size69) (ring_one _ _ _ _) ?_); intro w14 BB hg ss; have HY_14 := hid BB; have HS_14 := hid (HS_13.out.on hg (by have := HPn.out; simp; omega)); have HR_14 := hid (HR_13.out.on hg (by have := HPn.out; simp; omega)); have HW_14 := hid (HW_13.out.on hg (by have := HPn.out; simp; omega)); have HX_14 := hid (HX_13.out.on hg (by have := HPn.out; simp; omega)); have HZ_14 := hid (HZ_13.out.on hg (by have := HPn.out; simp; omega)); have HL_14 := hid (show LentK w0.heap.size w14 g cg l from ⟨HL_13.out.1.offB hg HY_13.out (by decide), HL_13.out.2⟩); have HOA_14 := hid (HOA_13.out.offB hg HY_13.out (by decide)); have HOB_14 := hid (HOB_13.out.offB hg HY_13.out (by decide)); have HG_14 := hid (HG_13.out.andThen hg (fun j hj => .inl (by injection hj with hj; have := HPn.out; omega))); have HZs_14 : Hid (w13.heap.size ≤ w14.heap.size) := hid hg.size; clear BB hg ss))
            clear z0 z33 z34 hz70
            obtain ⟨z0, z33, z34, hz70, hz35⟩ := HSp.out _ _ HS_14.out
            clear hz35
            rw [HTS.out] at hz70
            replace hz70 := hid hz70
            go_upto_region 38 with (first
              | (with_reducible refine wpList_load_part (by with_unfolding_all rfl) 70 _ (by with_unfolding_all rfl) pS 1 ts _ (by with_unfolding_all rfl) hz70.out Try.underlying70 (by with_unfolding_all rfl) (by rw [HTl.out]; exact Try.size70) ?_)
              | (with_reducible refine wpList_load_part (by with_unfolding_all rfl) 69 _ (by with_unfolding_all rfl) p10 0 [.slice (some ⟨g, 0, none⟩) rn cg, .int .u64 nx] _ (by with_unfolding_all rfl) HX_14.out.whole Try.underlying69 (by with_unfolding_all rfl) (by with_unfolding_all exact Try.size69) ?_)
              | (go_at_call 12; (with_reducible refine (HCg.out _ HL_14.out).mono ?_); rintro e w15 ⟨aC, cC, rfl, hO, hg⟩; have HS_15 := hid (HS_14.out.keep hg); have HR_15 := hid (HR_14.out.keep hg); have HW_15 := hid (HW_14.out.keep hg); have HX_15 := hid (HX_14.out.keep hg); have HY_15 := hid (HY_14.out.keep hg); have HZ_15 := hid (HZ_14.out.keep hg); have HL_15 := hid (HL_14.out.keep hg); have HOA_15 := hid (HOA_14.out.keep hg); have HOB_15 := hid (HOB_14.out.keep hg); have HG_15 := hid (gtrans HG_14.out hg); have HZs_15 : Hid (w14.heap.size ≤ w15.heap.size) := hid hg.size; have HOC_15 := hid hO; clear hO; clear hg)
              | ((with_reducible refine wpList_store_all (by with_unfolding_all rfl) 69 _ _ (by with_unfolding_all rfl) p13 [.slice none 0 0, .int .u64 0] [.slice aC MW cC, .int .u64 (NW : Nat)] 69 (by with_unfolding_all rfl) (by with_unfolding_all rfl) HZ_15.out (by with_unfolding_all rfl) (by with_unfolding_all exact Try.size69) (ring_one _ _ _ _) ?_); intro w16 BB hg ss; have HZ_16 := hid BB; have HS_16 := hid (HS_15.out.on hg (by have := HPn.out; simp; omega)); have HR_16 := hid (HR_15.out.on hg (by have := HPn.out; simp; omega)); have HW_16 := hid (HW_15.out.on hg (by have := HPn.out; simp; omega)); have HX_16 := hid (HX_15.out.on hg (by have := HPn.out; simp; omega)); have HY_16 := hid (HY_15.out.on hg (by have := HPn.out; simp; omega)); have HL_16 := hid (show LentK w0.heap.size w16 g cg l from ⟨HL_15.out.1.offB hg HZ_15.out (by decide), HL_15.out.2⟩); have HOA_16 := hid (HOA_15.out.offB hg HZ_15.out (by decide)); have HOB_16 := hid (HOB_15.out.offB hg HZ_15.out (by decide)); have HOC_16 := hid (HOC_15.out.offB hg HZ_15.out (by decide)); have HG_16 := hid (HG_15.out.andThen hg (fun j hj => .inl (by injection hj with hj; have := HPn.out; omega))); have HZs_16 : Hid (w15.heap.size ≤ w16.heap.size) := hid hg.size; clear BB hg ss))
            clear z0 z33 z34 hz70
            have HAp : Hid ((∀ k, (Value.slice aA MW cA).ownBlock = some k → w0.heap.size ≤ k ∧ k ≠ g) ∧ (∀ k, (Value.slice aB MW cB).ownBlock = some k → w0.heap.size ≤ k ∧ k ≠ g ∧ (Value.slice aC MW cC).ownBlock ≠ some k ∧ (Value.slice aA MW cA).ownBlock ≠ some k) ∧ (∀ k, (Value.slice aC MW cC).ownBlock = some k → w0.heap.size ≤ k ∧ k ≠ g ∧ (Value.slice aA MW cA).ownBlock ≠ some k)) := hid (by
              have z1 := HG_10.out.size
              have z2 := HPn.out
              have z3 := HZs_12.out
              have z4 := HZs_13.out
              have z5 := HZs_14.out
              have bA : ∀ k, (Value.slice aA MW cA).ownBlock = some k → w10.heap.size ≤ k ∧ k < w11.heap.size := fun k hk => ⟨(own_block HOA_11.out.2 hk).1, (own_block HOA_11.out.2 hk).2.1⟩
              have bB : ∀ k, (Value.slice aB MW cB).ownBlock = some k → w12.heap.size ≤ k ∧ k < w13.heap.size := fun k hk => ⟨(own_block HOB_13.out.2 hk).1, (own_block HOB_13.out.2 hk).2.1⟩
              have bC : ∀ k, (Value.slice aC MW cC).ownBlock = some k → w14.heap.size ≤ k := fun k hk => (own_block HOC_15.out.2 hk).1
              have z6 := HZs_11.out
              refine ⟨fun k hk => ?_, fun k hk => ⟨?_, ?_, fun e => ?_, fun e => ?_⟩, fun k hk => ⟨?_, ?_, fun e => ?_⟩⟩
              · have := bA k hk; omega
              · have := bB k hk; omega
              · have := bB k hk; omega
              · have := bB k hk; have := bC k e; omega
              · have := bB k hk; have := bA k e; omega
              · have := bC k hk; omega
              · have := bC k hk; omega
              · have := bC k hk; have := bA k e; omega)
            have HJ := hid (SS.js2 HSS.out HG_16.out HS_16.out HW_16.out HPn.out.2.2.2.2.2.2.2.1 (RK.of (HOA_16.out.below HG_10.out.size)))
            have HBk : Hid (Calls Try.prog 19 #[.slice (some ⟨g, 0, none⟩) rn cg, .slice ra rn rc] w16 fun e w' => e = .returned (.bool true) ∧ w16.grownBy w' none) := hid (by
              have h := backK_any w16 _ _ _ g cg l HL_16.out HJ.out.keys.rd HLe.out
              rw [HN.out] at h
              exact h)
            have yx := HX_16.out.cell 0
            have yr := HJ.out.r.cell 0
            go_upto_region 42 with (first
              | (go_at_call 19; (with_reducible refine HBk.out.mono ?_); rintro e wA ⟨rfl, hg⟩; have HJA := hid (HJ.out.keep hg); have HLA := hid (HL_16.out.keep hg); have ya := (HX_16.out.keep hg).cell 0; have HYA := hid (HY_16.out.keep hg); have HZA := hid (HZ_16.out.keep hg); have HBA := hid (HOB_16.out.keep hg); have HCA := hid (HOC_16.out.keep hg); have HOv : Hid (Calls Try.prog 20 #[.slice (some ⟨g, 0, none⟩) rn cg] wA fun e w' => e = .returned (.tuple #[]) ∧ wA.grownBy w' (some g)) := hid (by have h := overK_any wA _ g cg l HLA.out HLe.out; rw [HN.out] at h; exact h); have HZA2 := hid hg.size; clear hg)
              | (go_at_call 20; (with_reducible refine HOv.out.mono ?_); rintro e wB ⟨rfl, hg⟩; have HJB := hid (by obtain ⟨cg', hb', _⟩ := HLA.out.1.blkB (g := g) rfl; exact JS.over HJA.out hb' hg (by have := HPn.out; have := HG0.out.size; omega) (by have := HPn.out; omega) (fun e => by have := HLow.out.1 g e; have := HPn.out; omega) (fun e => by have := HLow.out.2 g e; have := HPn.out; omega) (fun e => (HAp.out.1 g e).2 rfl)); have HYB := hid (HYA.out.on hg (by have := HPn.out; simp; omega)); have HZB := hid (HZA.out.on hg (by have := HPn.out; simp; omega)); have HBB := hid (HBA.out.on hg (fun k hk e => by injection hk with hk; exact (HAp.out.2.1 k e).2.1 hk.symm)); have HCB := hid (HCA.out.on hg (fun k hk e => by injection hk with hk; exact (HAp.out.2.2 k e).2.1 hk.symm)); have yb := (HSp.out _ _ HJB.out.s).1; have HZB2 := hid hg.size; clear hg))
            clear yx yr ya HBk HOv HJ HJA HLA HYA HZA HBA HCA
            have HE1 : Hid (Calls Try.prog 21 #[.agg #[.slice aB MW cB, .int .u64 (NW : Nat)], .agg #[.slice aA MW cA, .int .u64 (NW : Nat)]] wB fun e w' => e = .returned (.bool true) ∧ wB.grownBy w' none) := hid (by
              have h := eqRing_any wB _ _ _ _ LW LW NW NW HBB.out.rd HJB.out.wk.rd (by have := H41.out; omega)
              rw [decide_eq_true rfl, decide_eq_true rfl] at h
              exact h)
            go_upto_region 44 with (first
              | (with_reducible refine wpList_load_part (by with_unfolding_all rfl) 69 _ (by with_unfolding_all rfl) p11 0 [.slice aB MW cB, .int .u64 (NW : Nat)] _ (by with_unfolding_all rfl) HYB.out.whole Try.underlying69 (by with_unfolding_all rfl) (by with_unfolding_all exact Try.size69) ?_)
              | (with_reducible refine wpList_load_part (by with_unfolding_all rfl) 69 _ (by with_unfolding_all rfl) p8 0 [.slice aA MW cA, .int .u64 (NW : Nat)] _ (by with_unfolding_all rfl) HJB.out.w8.whole Try.underlying69 (by with_unfolding_all rfl) (by with_unfolding_all exact Try.size69) ?_)
              | (go_at_call 21; (with_reducible refine HE1.out.mono ?_); rintro e wC ⟨rfl, hg⟩; have HJC := hid (HJB.out.keep hg); have HYC := hid (HYB.out.keep hg); have HZC := hid (HZB.out.keep hg); have HBC := hid (HBB.out.keep hg); have HCC := hid (HCB.out.keep hg); have HZC2 := hid hg.size; clear hg)
              | (go_at_call 22; refine (num_any _ _).mono ?_; rintro e wc' ⟨rfl, rfl⟩))
            clear yb HE1 HJB HYB HZB HBB HCB
            have HR1 := hid (JS.got (s0 := w0.heap.size) (gx := NW) (ta := aC) (tn := MW) (tc := cC) HJC.out (by have := HG_16.out.size; have := HZA2.out; have := HZB2.out; have := HZC2.out; omega) (HBC.out.below (by have := HG0.out.size; have := HG_10.out.size; have := HZs_11.out; have := HZs_12.out; omega)) (by have := H41.out; omega) (by have := HTT.out; have := hi; omega) (fun k hk => ⟨(HAp.out.2.1 k hk).1, (HAp.out.2.1 k hk).2.2.1, (HAp.out.2.1 k hk).2.2.2⟩) (fun k hk => (HAp.out.2.2 k hk).1) HLow.out.1 HLow.out.2)
            go_upto_region 45 with (first
              | (with_reducible refine wpList_load_part (by with_unfolding_all rfl) 69 _ (by with_unfolding_all rfl) p11 0 [.slice aB MW cB, .int .u64 (NW : Nat)] _ (by with_unfolding_all rfl) HYC.out.whole Try.underlying69 (by with_unfolding_all rfl) (by with_unfolding_all exact Try.size69) ?_)
              | (go_at_call 23; (with_reducible refine HR1.out.mono ?_); rintro e wD ⟨rfl, hJ, hk⟩; have HJD := hid hJ; have HZD := hid (Blk.kk HZC.out hk (by decide) (fun e => HBC.out.ne_blk HZC.out (by decide) _ e rfl)); have HCD := hid (OutK.kk HCC.out hk (fun k e e2 => (HAp.out.2.1 k e2).2.2.1 e)); have HZD2 := hid hk.1.size; clear hJ hk))
            clear HR1 HJC HYC HZC HBC HCC
            have HE2 : Hid (Calls Try.prog 21 #[.agg #[.slice aC MW cC, .int .u64 (NW : Nat)], .agg #[.slice aA MW cA, .int .u64 (NW : Nat)]] wD fun e w' => e = .returned (.bool true) ∧ wD.grownBy w' none) := hid (by
              have h := eqRing_any wD _ _ _ _ LW LW NW NW HCD.out.rd HJD.out.wk.rd (by have := H41.out; omega)
              rw [decide_eq_true rfl, decide_eq_true rfl] at h
              exact h)
            go_upto_region 47 with (first
              | (with_reducible refine wpList_load_part (by with_unfolding_all rfl) 69 _ (by with_unfolding_all rfl) p13 0 [.slice aC MW cC, .int .u64 (NW : Nat)] _ (by with_unfolding_all rfl) HZD.out.whole Try.underlying69 (by with_unfolding_all rfl) (by with_unfolding_all exact Try.size69) ?_)
              | (with_reducible refine wpList_load_part (by with_unfolding_all rfl) 69 _ (by with_unfolding_all rfl) p8 0 [.slice aA MW cA, .int .u64 (NW : Nat)] _ (by with_unfolding_all rfl) HJD.out.w8.whole Try.underlying69 (by with_unfolding_all rfl) (by with_unfolding_all exact Try.size69) ?_)
              | (go_at_call 21; (with_reducible refine HE2.out.mono ?_); rintro e wE ⟨rfl, hg⟩; have HJE := hid (HJD.out.keep hg); have HZE := hid (HZD.out.keep hg); have HCE := hid (HCD.out.keep hg); have HZE2 := hid hg.size; clear hg))
            clear HE2 HJD HZD HCD
            have HR2 := hid (JS.twin (s0 := w0.heap.size) (gx := NW) HJE.out (by have := HZD2.out; have := HZE2.out; omega) (HCE.out.below (by have := HG0.out.size; have := HG_10.out.size; have := HZs_11.out; have := HZs_12.out; have := HZs_13.out; have := HZs_14.out; omega)) (by have := H41.out; omega) (by have := HTT.out; have := hi; omega) (fun k hk => ⟨(HAp.out.2.2 k hk).1, (HAp.out.2.2 k hk).2.2⟩) HLow.out.1 HLow.out.2)
            go_upto_region 48 with (first
              | (with_reducible refine wpList_load_part (by with_unfolding_all rfl) 69 _ (by with_unfolding_all rfl) p13 0 [.slice aC MW cC, .int .u64 (NW : Nat)] _ (by with_unfolding_all rfl) HZE.out.whole Try.underlying69 (by with_unfolding_all rfl) (by with_unfolding_all exact Try.size69) ?_)
              | (go_at_call 23; (with_reducible refine HR2.out.mono ?_); rintro e wF ⟨rfl, hJ, hk⟩; have HJF := hid hJ; have HZF2 := hid hk.1.size; clear hJ hk))
            clear HR2 HJE HZE HCE
            by_cases hE : EW = 0
            · as_aux_lemma =>
              have HLen2 : Hid (LW.length ≤ 41) := H41
              have HLenW : Hid (LW.length ≤ 1000000) := hid (by have := HLen2.out; omega)
              have HSzU : Hid (wE.heap.size ≤ wF.heap.size) := hid (by have := HZF2.out; omega)
              go_upto_region 51 with (first
                | (with_reducible refine wpList_load_part (by with_unfolding_all rfl) 69 _ (by with_unfolding_all rfl) p8 0 [.slice aA MW cA, .int .u64 (NW : Nat)] _ (by with_unfolding_all rfl) HJF.out.w8.whole Try.underlying69 (by with_unfolding_all rfl) (by with_unfolding_all exact Try.size69) ?_)
                | ((with_reducible refine wpList_store_all (by with_unfolding_all rfl) 69 _ _ (by with_unfolding_all rfl) p5 [.slice ra rn rc, .int .u64 nx] [.slice aA MW cA, .int .u64 (NW : Nat)] 69 (by with_unfolding_all rfl) (by with_unfolding_all rfl) HJF.out.r (by with_unfolding_all rfl) (by with_unfolding_all exact Try.size69) (ring_one _ _ _ _) ?_); intro wH BB hg ss; have HJH := hid (JS.take HJF.out BB hg); have HZH2 := hid hg.size; clear BB hg ss))
              have yk := (HSp.out _ _ HJH.out.s).2.2.1
              have HAs : Hid (Calls Try.prog 17 #[.agg #[.slice aA MW cA, .int .u64 NW], .int .u64 kid] wH fun e w' => e = .returned (.bool true) ∧ wH.grownBy w' none) := hid (asks_any wH _ _ LW NW kid HJH.out.keys.rd HLenW.out)
              go_wp2_with (first
                | (with_reducible refine wpList_load_partW (by with_unfolding_all rfl) 69 _ (by with_unfolding_all rfl) p5 0 [.slice aA MW cA, .int .u64 (NW : Nat)] _ (by with_unfolding_all rfl) HJI.out.r.whole Try.underlying69 (by with_unfolding_all rfl) (by with_unfolding_all exact Try.size69) ?_)
                | (with_reducible refine wpList_load_part (by with_unfolding_all rfl) 69 _ (by with_unfolding_all rfl) p5 0 [.slice aA MW cA, .int .u64 (NW : Nat)] _ (by with_unfolding_all rfl) HJH.out.r.whole Try.underlying69 (by with_unfolding_all rfl) (by with_unfolding_all exact Try.size69) ?_)
                | (go_at_call 17; (with_reducible refine HAs.out.mono ?_); rintro e wI ⟨rfl, hg⟩; have HJI := hid (HJH.out.keep hg); have HZI2 := hid hg.size; have HPl := hid (placed_any wI w.heap.size sb _ cs va vn vc lk LW aA MW cA NW HJI.out.seat HJI.out.c4 HJI.out.row HJI.out.grown.size (fun u hu => (JS.rd HJI.out hu).rd) HLenW.out); clear hg)
                | (go_at_call 24; go_loud ((with_reducible refine HPl.out.mono ?_); rintro e wK ⟨rfl, na, nn, nc, hO, hB, hat, hK⟩; have HDn := hid (JS.done HJI.out (by have := HSzU.out; have := HZH2.out; have := HZI2.out; omega) hK hB hO hat); clear hO hB hat hK)))
              go_roundw
              case rel => exact ⟨i + 1, (TT + 1 + 1), _, _, _, _, _, _, _, _, _, _, by go_num, by omega, hid (by have := HTT.out; omega), HLen2, HDn⟩
              case measure => simp [intOf]; omega
            · as_aux_lemma =>
              go_upto_region 50 with (first
                | (with_reducible refine wpList_load_part (by with_unfolding_all rfl) 69 _ (by with_unfolding_all rfl) p5 0 [.slice ra rn rc, .int .u64 nx] _ (by with_unfolding_all rfl) HJF.out.r.whole Try.underlying69 (by with_unfolding_all rfl) (by with_unfolding_all exact Try.size69) ?_)
                | ((with_reducible refine wpList_store_all (by with_unfolding_all rfl) 69 _ _ (by with_unfolding_all rfl) p8 [.slice aA MW cA, .int .u64 (NW : Nat)] [.slice ra rn rc, .int .u64 nx] 69 (by with_unfolding_all rfl) (by with_unfolding_all rfl) HJF.out.w8 (by with_unfolding_all rfl) (by with_unfolding_all exact Try.size69) (ring_one _ _ _ _) ?_); intro wG BB hg ss; have HJG := hid (JS.back HJF.out BB hg); have HZG2 := hid hg.size; clear BB hg ss))
              have HLen2 : Hid (l.length ≤ 41) := HLen
              have HLenW : Hid (l.length ≤ 1000000) := hid (by have := HLen2.out; omega)
              have HSzU : Hid (wE.heap.size ≤ wG.heap.size) := hid (by have := HZF2.out; have := HZG2.out; omega)
              go_upto_region 51 with (first
                | (with_reducible refine wpList_load_part (by with_unfolding_all rfl) 69 _ (by with_unfolding_all rfl) p8 0 [.slice ra rn rc, .int .u64 (nx : Nat)] _ (by with_unfolding_all rfl) HJG.out.w8.whole Try.underlying69 (by with_unfolding_all rfl) (by with_unfolding_all exact Try.size69) ?_)
                | ((with_reducible refine wpList_store_all (by with_unfolding_all rfl) 69 _ _ (by with_unfolding_all rfl) p5 [.slice ra rn rc, .int .u64 nx] [.slice ra rn rc, .int .u64 (nx : Nat)] 69 (by with_unfolding_all rfl) (by with_unfolding_all rfl) HJG.out.r (by with_unfolding_all rfl) (by with_unfolding_all exact Try.size69) (ring_one _ _ _ _) ?_); intro wH BB hg ss; have HJH := hid (JS.take HJG.out BB hg); have HZH2 := hid hg.size; clear BB hg ss))
              have yk := (HSp.out _ _ HJH.out.s).2.2.1
              have HAs : Hid (Calls Try.prog 17 #[.agg #[.slice ra rn rc, .int .u64 nx], .int .u64 kid] wH fun e w' => e = .returned (.bool true) ∧ wH.grownBy w' none) := hid (asks_any wH _ _ l nx kid HJH.out.keys.rd HLenW.out)
              go_wp2_with (first
                | (with_reducible refine wpList_load_partW (by with_unfolding_all rfl) 69 _ (by with_unfolding_all rfl) p5 0 [.slice ra rn rc, .int .u64 (nx : Nat)] _ (by with_unfolding_all rfl) HJI.out.r.whole Try.underlying69 (by with_unfolding_all rfl) (by with_unfolding_all exact Try.size69) ?_)
                | (with_reducible refine wpList_load_part (by with_unfolding_all rfl) 69 _ (by with_unfolding_all rfl) p5 0 [.slice ra rn rc, .int .u64 (nx : Nat)] _ (by with_unfolding_all rfl) HJH.out.r.whole Try.underlying69 (by with_unfolding_all rfl) (by with_unfolding_all exact Try.size69) ?_)
                | (go_at_call 17; (with_reducible refine HAs.out.mono ?_); rintro e wI ⟨rfl, hg⟩; have HJI := hid (HJH.out.keep hg); have HZI2 := hid hg.size; have HPl := hid (placed_any wI w.heap.size sb _ cs va vn vc lk l ra rn rc nx HJI.out.seat HJI.out.c4 HJI.out.row HJI.out.grown.size (fun u hu => (JS.rd HJI.out hu).rd) HLenW.out); clear hg)
                | (go_at_call 24; go_loud ((with_reducible refine HPl.out.mono ?_); rintro e wK ⟨rfl, na, nn, nc, hO, hB, hat, hK⟩; have HDn := hid (JS.done HJI.out (by have := HSzU.out; have := HZH2.out; have := HZI2.out; omega) hK hB hO hat); clear hO hB hat hK)))
              go_roundw
              case rel => exact ⟨i + 1, (TT + 1 + 1), _, _, _, _, _, _, _, _, _, _, by go_num, by omega, hid (by have := HTT.out; omega), HLen2, HDn⟩
              case measure => simp [intOf]; omega
          · skip
            by_cases hk : act = 3
            · as_aux_lemma =>
              subst hk
              obtain ⟨LW, HLW⟩ : ∃ x, Hid ((prn l nx At : List Ky × Nat).1 = x) := ⟨_, hid rfl⟩
              obtain ⟨NW, HNW⟩ : ∃ x, Hid ((prn l nx At : List Ky × Nat).2 = x) := ⟨_, hid rfl⟩
              obtain ⟨MW, HMW⟩ : ∃ x, Hid (LW.length = x) := ⟨_, hid rfl⟩
              have H41 : Hid (LW.length ≤ 41) := hid (by rw [← HLW.out]; exact prn_41 l nx At)
              have HCw : Hid (∀ u, w0.grownBy u none → Calls Try.prog 13 #[.agg #[.slice ra rn rc, .int .u64 nx], .int .i64 At] u fun e w' => ∃ a c, e = .returned (.agg #[.slice a MW c, .int .u64 (NW : Nat)]) ∧ OutK u.heap.size w' (.slice a MW c) LW ∧ u.grownBy w' none) := fun u hu => by
                have h := rprn_any u _ _ l nx At (HRv.out u hu) HLb.out
                rw [HLW.out, HNW.out, HMW.out] at h
                exact h
              have HCg : Hid (∀ u, LentK w0.heap.size u g cg l → Calls Try.prog 14 #[.agg #[.slice (some ⟨g, 0, none⟩) rn cg, .int .u64 nx], .int .i64 At] u fun e w' => ∃ a c, e = .returned (.agg #[.slice a MW c, .int .u64 (NW : Nat)]) ∧ OutK u.heap.size w' (.slice a MW c) LW ∧ u.grownBy w' none) := fun u hu => by
                have h := prune_any u _ _ l nx At (HRx.out u g cg hu) HLb.out
                rw [HLW.out, HNW.out, HMW.out] at h
                exact h
              clear hact
              obtain ⟨z0, z33, z34, hz70, hz35⟩ := HSp.out _ _ HS_10.out
              clear hz35
              rw [HTS.out] at hz70
              replace hz70 := hid hz70
              go_upto_region 25 with (first
                | (with_reducible refine wpList_load_part (by with_unfolding_all rfl) 70 _ (by with_unfolding_all rfl) pS 1 ts _ (by with_unfolding_all rfl) hz70.out Try.underlying70 (by with_unfolding_all rfl) (by rw [HTl.out]; exact Try.size70) ?_)
                | (with_reducible refine wpList_load_part (by with_unfolding_all rfl) 69 _ (by with_unfolding_all rfl) p5 0 [.slice ra rn rc, .int .u64 nx] _ (by with_unfolding_all rfl) HR_10.out.whole Try.underlying69 (by with_unfolding_all rfl) (by with_unfolding_all exact Try.size69) ?_)
                | (go_at_call 13; (with_reducible refine (HCw.out _ HG_10.out).mono ?_); rintro e w11 ⟨aA, cA, rfl, hO, hg⟩; have HS_11 := hid (HS_10.out.keep hg); have HR_11 := hid (HR_10.out.keep hg); have HW_11 := hid (HW_10.out.keep hg); have HX_11 := hid (HX_10.out.keep hg); have HY_11 := hid (HY_10.out.keep hg); have HZ_11 := hid (HZ_10.out.keep hg); have HL_11 := hid (HL_10.out.keep hg); have HG_11 := hid (gtrans HG_10.out hg); have HZs_11 : Hid (w10.heap.size ≤ w11.heap.size) := hid hg.size; have HOA_11 := hid hO; clear hO; clear hg)
                | ((with_reducible refine wpList_store_all (by with_unfolding_all rfl) 69 _ _ (by with_unfolding_all rfl) p8 [.slice ra rn rc, .int .u64 nx] [.slice aA MW cA, .int .u64 (NW : Nat)] 69 (by with_unfolding_all rfl) (by with_unfolding_all rfl) HW_11.out (by with_unfolding_all rfl) (by with_unfolding_all exact Try.size69) (ring_one _ _ _ _) ?_); intro w12 BB hg ss; have HW_12 := hid BB; have HS_12 := hid (HS_11.out.on hg (by have := HPn.out; simp; omega)); have HR_12 := hid (HR_11.out.on hg (by have := HPn.out; simp; omega)); have HX_12 := hid (HX_11.out.on hg (by have := HPn.out; simp; omega)); have HY_12 := hid (HY_11.out.on hg (by have := HPn.out; simp; omega)); have HZ_12 := hid (HZ_11.out.on hg (by have := HPn.out; simp; omega)); have HL_12 := hid (show LentK w0.heap.size w12 g cg l from ⟨HL_11.out.1.offB hg HW_11.out (by decide), HL_11.out.2⟩); have HOA_12 := hid (HOA_11.out.offB hg HW_11.out (by decide)); have HG_12 := hid (HG_11.out.andThen hg (fun j hj => .inl (by injection hj with hj; have := HPn.out; omega))); have HZs_12 : Hid (w11.heap.size ≤ w12.heap.size) := hid hg.size; clear BB hg ss))
              clear z0 z33 z34 hz70
              obtain ⟨z0, z33, z34, hz70, hz35⟩ := HSp.out _ _ HS_12.out
              clear hz35
              rw [HTS.out] at hz70
              replace hz70 := hid hz70
              go_upto_region 26 with (first
                | (with_reducible refine wpList_load_part (by with_unfolding_all rfl) 70 _ (by with_unfolding_all rfl) pS 1 ts _ (by with_unfolding_all rfl) hz70.out Try.underlying70 (by with_unfolding_all rfl) (by rw [HTl.out]; exact Try.size70) ?_)
                | (with_reducible refine wpList_load_part (by with_unfolding_all rfl) 69 _ (by with_unfolding_all rfl) p10 0 [.slice (some ⟨g, 0, none⟩) rn cg, .int .u64 nx] _ (by with_unfolding_all rfl) HX_12.out.whole Try.underlying69 (by with_unfolding_all rfl) (by with_unfolding_all exact Try.size69) ?_)
                | (go_at_call 14; (with_reducible refine (HCg.out _ HL_12.out).mono ?_); rintro e w13 ⟨aB, cB, rfl, hO, hg⟩; have HS_13 := hid (HS_12.out.keep hg); have HR_13 := hid (HR_12.out.keep hg); have HW_13 := hid (HW_12.out.keep hg); have HX_13 := hid (HX_12.out.keep hg); have HY_13 := hid (HY_12.out.keep hg); have HZ_13 := hid (HZ_12.out.keep hg); have HL_13 := hid (HL_12.out.keep hg); have HOA_13 := hid (HOA_12.out.keep hg); have HG_13 := hid (gtrans HG_12.out hg); have HZs_13 : Hid (w12.heap.size ≤ w13.heap.size) := hid hg.size; have HOB_13 := hid hO; clear hO; clear hg)
                | ((with_reducible refine wpList_store_all (by with_unfolding_all rfl) 69 _ _ (by with_unfolding_all rfl) p11 [.slice ra rn rc, .int .u64 nx] [.slice aB MW cB, .int .u64 (NW : Nat)] 69 (by with_unfolding_all rfl) (by with_unfolding_all rfl) HY_13.out (by with_unfolding_all rfl) (by with_unfolding_all exact Try.size69) (ring_one _ _ _ _) ?_); intro w14 BB hg ss; have HY_14 := hid BB; have HS_14 := hid (HS_13.out.on hg (by have := HPn.out; simp; omega)); have HR_14 := hid (HR_13.out.on hg (by have := HPn.out; simp; omega)); have HW_14 := hid (HW_13.out.on hg (by have := HPn.out; simp; omega)); have HX_14 := hid (HX_13.out.on hg (by have := HPn.out; simp; omega)); have HZ_14 := hid (HZ_13.out.on hg (by have := HPn.out; simp; omega)); have HL_14 := hid (show LentK w0.heap.size w14 g cg l from ⟨HL_13.out.1.offB hg HY_13.out (by decide), HL_13.out.2⟩); have HOA_14 := hid (HOA_13.out.offB hg HY_13.out (by decide)); have HOB_14 := hid (HOB_13.out.offB hg HY_13.out (by decide)); have HG_14 := hid (HG_13.out.andThen hg (fun j hj => .inl (by injection hj with hj; have := HPn.out; omega))); have HZs_14 : Hid (w13.heap.size ≤ w14.heap.size) := hid hg.size; clear BB hg ss))
              clear z0 z33 z34 hz70
              obtain ⟨z0, z33, z34, hz70, hz35⟩ := HSp.out _ _ HS_14.out
              clear hz35
              rw [HTS.out] at hz70
              replace hz70 := hid hz70
              go_upto_region 38 with (first
                | (with_reducible refine wpList_load_part (by with_unfolding_all rfl) 70 _ (by with_unfolding_all rfl) pS 1 ts _ (by with_unfolding_all rfl) hz70.out Try.underlying70 (by with_unfolding_all rfl) (by rw [HTl.out]; exact Try.size70) ?_)
                | (with_reducible refine wpList_load_part (by with_unfolding_all rfl) 69 _ (by with_unfolding_all rfl) p10 0 [.slice (some ⟨g, 0, none⟩) rn cg, .int .u64 nx] _ (by with_unfolding_all rfl) HX_14.out.whole Try.underlying69 (by with_unfolding_all rfl) (by with_unfolding_all exact Try.size69) ?_)
                | (go_at_call 14; (with_reducible refine (HCg.out _ HL_14.out).mono ?_); rintro e w15 ⟨aC, cC, rfl, hO, hg⟩; have HS_15 := hid (HS_14.out.keep hg); have HR_15 := hid (HR_14.out.keep hg); have HW_15 := hid (HW_14.out.keep hg); have HX_15 := hid (HX_14.out.keep hg); have HY_15 := hid (HY_14.out.keep hg); have HZ_15 := hid (HZ_14.out.keep hg); have HL_15 := hid (HL_14.out.keep hg); have HOA_15 := hid (HOA_14.out.keep hg); have HOB_15 := hid (HOB_14.out.keep hg); have HG_15 := hid (gtrans HG_14.out hg); have HZs_15 : Hid (w14.heap.size ≤ w15.heap.size) := hid hg.size; have HOC_15 := hid hO; clear hO; clear hg)
                | ((with_reducible refine wpList_store_all (by with_unfolding_all rfl) 69 _ _ (by with_unfolding_all rfl) p13 [.slice none 0 0, .int .u64 0] [.slice aC MW cC, .int .u64 (NW : Nat)] 69 (by with_unfolding_all rfl) (by with_unfolding_all rfl) HZ_15.out (by with_unfolding_all rfl) (by with_unfolding_all exact Try.size69) (ring_one _ _ _ _) ?_); intro w16 BB hg ss; have HZ_16 := hid BB; have HS_16 := hid (HS_15.out.on hg (by have := HPn.out; simp; omega)); have HR_16 := hid (HR_15.out.on hg (by have := HPn.out; simp; omega)); have HW_16 := hid (HW_15.out.on hg (by have := HPn.out; simp; omega)); have HX_16 := hid (HX_15.out.on hg (by have := HPn.out; simp; omega)); have HY_16 := hid (HY_15.out.on hg (by have := HPn.out; simp; omega)); have HL_16 := hid (show LentK w0.heap.size w16 g cg l from ⟨HL_15.out.1.offB hg HZ_15.out (by decide), HL_15.out.2⟩); have HOA_16 := hid (HOA_15.out.offB hg HZ_15.out (by decide)); have HOB_16 := hid (HOB_15.out.offB hg HZ_15.out (by decide)); have HOC_16 := hid (HOC_15.out.offB hg HZ_15.out (by decide)); have HG_16 := hid (HG_15.out.andThen hg (fun j hj => .inl (by injection hj with hj; have := HPn.out; omega))); have HZs_16 : Hid (w15.heap.size ≤ w16.heap.size) := hid hg.size; clear BB hg ss))
              clear z0 z33 z34 hz70
              have HAp : Hid ((∀ k, (Value.slice aA MW cA).ownBlock = some k → w0.heap.size ≤ k ∧ k ≠ g) ∧ (∀ k, (Value.slice aB MW cB).ownBlock = some k → w0.heap.size ≤ k ∧ k ≠ g ∧ (Value.slice aC MW cC).ownBlock ≠ some k ∧ (Value.slice aA MW cA).ownBlock ≠ some k) ∧ (∀ k, (Value.slice aC MW cC).ownBlock = some k → w0.heap.size ≤ k ∧ k ≠ g ∧ (Value.slice aA MW cA).ownBlock ≠ some k)) := hid (by
                have z1 := HG_10.out.size
                have z2 := HPn.out
                have z3 := HZs_12.out
                have z4 := HZs_13.out
                have z5 := HZs_14.out
                have bA : ∀ k, (Value.slice aA MW cA).ownBlock = some k → w10.heap.size ≤ k ∧ k < w11.heap.size := fun k hk => ⟨(own_block HOA_11.out.2 hk).1, (own_block HOA_11.out.2 hk).2.1⟩
                have bB : ∀ k, (Value.slice aB MW cB).ownBlock = some k → w12.heap.size ≤ k ∧ k < w13.heap.size := fun k hk => ⟨(own_block HOB_13.out.2 hk).1, (own_block HOB_13.out.2 hk).2.1⟩
                have bC : ∀ k, (Value.slice aC MW cC).ownBlock = some k → w14.heap.size ≤ k := fun k hk => (own_block HOC_15.out.2 hk).1
                have z6 := HZs_11.out
                refine ⟨fun k hk => ?_, fun k hk => ⟨?_, ?_, fun e => ?_, fun e => ?_⟩, fun k hk => ⟨?_, ?_, fun e => ?_⟩⟩
                · have := bA k hk; omega
                · have := bB k hk; omega
                · have := bB k hk; omega
                · have := bB k hk; have := bC k e; omega
                · have := bB k hk; have := bA k e; omega
                · have := bC k hk; omega
                · have := bC k hk; omega
                · have := bC k hk; have := bA k e; omega)
              have HJ := hid (SS.js2 HSS.out HG_16.out HS_16.out HW_16.out HPn.out.2.2.2.2.2.2.2.1 (RK.of (HOA_16.out.below HG_10.out.size)))
              have HBk : Hid (Calls Try.prog 19 #[.slice (some ⟨g, 0, none⟩) rn cg, .slice ra rn rc] w16 fun e w' => e = .returned (.bool true) ∧ w16.grownBy w' none) := hid (by
                have h := backK_any w16 _ _ _ g cg l HL_16.out HJ.out.keys.rd HLe.out
                rw [HN.out] at h
                exact h)
              have yx := HX_16.out.cell 0
              have yr := HJ.out.r.cell 0
              go_upto_region 42 with (first
                | (go_at_call 19; (with_reducible refine HBk.out.mono ?_); rintro e wA ⟨rfl, hg⟩; have HJA := hid (HJ.out.keep hg); have HLA := hid (HL_16.out.keep hg); have ya := (HX_16.out.keep hg).cell 0; have HYA := hid (HY_16.out.keep hg); have HZA := hid (HZ_16.out.keep hg); have HBA := hid (HOB_16.out.keep hg); have HCA := hid (HOC_16.out.keep hg); have HOv : Hid (Calls Try.prog 20 #[.slice (some ⟨g, 0, none⟩) rn cg] wA fun e w' => e = .returned (.tuple #[]) ∧ wA.grownBy w' (some g)) := hid (by have h := overK_any wA _ g cg l HLA.out HLe.out; rw [HN.out] at h; exact h); have HZA2 := hid hg.size; clear hg)
                | (go_at_call 20; (with_reducible refine HOv.out.mono ?_); rintro e wB ⟨rfl, hg⟩; have HJB := hid (by obtain ⟨cg', hb', _⟩ := HLA.out.1.blkB (g := g) rfl; exact JS.over HJA.out hb' hg (by have := HPn.out; have := HG0.out.size; omega) (by have := HPn.out; omega) (fun e => by have := HLow.out.1 g e; have := HPn.out; omega) (fun e => by have := HLow.out.2 g e; have := HPn.out; omega) (fun e => (HAp.out.1 g e).2 rfl)); have HYB := hid (HYA.out.on hg (by have := HPn.out; simp; omega)); have HZB := hid (HZA.out.on hg (by have := HPn.out; simp; omega)); have HBB := hid (HBA.out.on hg (fun k hk e => by injection hk with hk; exact (HAp.out.2.1 k e).2.1 hk.symm)); have HCB := hid (HCA.out.on hg (fun k hk e => by injection hk with hk; exact (HAp.out.2.2 k e).2.1 hk.symm)); have yb := (HSp.out _ _ HJB.out.s).1; have HZB2 := hid hg.size; clear hg))
              clear yx yr ya HBk HOv HJ HJA HLA HYA HZA HBA HCA
              have HE1 : Hid (Calls Try.prog 21 #[.agg #[.slice aB MW cB, .int .u64 (NW : Nat)], .agg #[.slice aA MW cA, .int .u64 (NW : Nat)]] wB fun e w' => e = .returned (.bool true) ∧ wB.grownBy w' none) := hid (by
                have h := eqRing_any wB _ _ _ _ LW LW NW NW HBB.out.rd HJB.out.wk.rd (by have := H41.out; omega)
                rw [decide_eq_true rfl, decide_eq_true rfl] at h
                exact h)
              go_upto_region 44 with (first
                | (with_reducible refine wpList_load_part (by with_unfolding_all rfl) 69 _ (by with_unfolding_all rfl) p11 0 [.slice aB MW cB, .int .u64 (NW : Nat)] _ (by with_unfolding_all rfl) HYB.out.whole Try.underlying69 (by with_unfolding_all rfl) (by with_unfolding_all exact Try.size69) ?_)
                | (with_reducible refine wpList_load_part (by with_unfolding_all rfl) 69 _ (by with_unfolding_all rfl) p8 0 [.slice aA MW cA, .int .u64 (NW : Nat)] _ (by with_unfolding_all rfl) HJB.out.w8.whole Try.underlying69 (by with_unfolding_all rfl) (by with_unfolding_all exact Try.size69) ?_)
                | (go_at_call 21; (with_reducible refine HE1.out.mono ?_); rintro e wC ⟨rfl, hg⟩; have HJC := hid (HJB.out.keep hg); have HYC := hid (HYB.out.keep hg); have HZC := hid (HZB.out.keep hg); have HBC := hid (HBB.out.keep hg); have HCC := hid (HCB.out.keep hg); have HZC2 := hid hg.size; clear hg)
                | (go_at_call 22; refine (num_any _ _).mono ?_; rintro e wc' ⟨rfl, rfl⟩))
              clear yb HE1 HJB HYB HZB HBB HCB
              have HR1 := hid (JS.got (s0 := w0.heap.size) (gx := NW) (ta := aC) (tn := MW) (tc := cC) HJC.out (by have := HG_16.out.size; have := HZA2.out; have := HZB2.out; have := HZC2.out; omega) (HBC.out.below (by have := HG0.out.size; have := HG_10.out.size; have := HZs_11.out; have := HZs_12.out; omega)) (by have := H41.out; omega) (by have := HTT.out; have := hi; omega) (fun k hk => ⟨(HAp.out.2.1 k hk).1, (HAp.out.2.1 k hk).2.2.1, (HAp.out.2.1 k hk).2.2.2⟩) (fun k hk => (HAp.out.2.2 k hk).1) HLow.out.1 HLow.out.2)
              go_upto_region 45 with (first
                | (with_reducible refine wpList_load_part (by with_unfolding_all rfl) 69 _ (by with_unfolding_all rfl) p11 0 [.slice aB MW cB, .int .u64 (NW : Nat)] _ (by with_unfolding_all rfl) HYC.out.whole Try.underlying69 (by with_unfolding_all rfl) (by with_unfolding_all exact Try.size69) ?_)
                | (go_at_call 23; (with_reducible refine HR1.out.mono ?_); rintro e wD ⟨rfl, hJ, hk⟩; have HJD := hid hJ; have HZD := hid (Blk.kk HZC.out hk (by decide) (fun e => HBC.out.ne_blk HZC.out (by decide) _ e rfl)); have HCD := hid (OutK.kk HCC.out hk (fun k e e2 => (HAp.out.2.1 k e2).2.2.1 e)); have HZD2 := hid hk.1.size; clear hJ hk))
              clear HR1 HJC HYC HZC HBC HCC
              have HE2 : Hid (Calls Try.prog 21 #[.agg #[.slice aC MW cC, .int .u64 (NW : Nat)], .agg #[.slice aA MW cA, .int .u64 (NW : Nat)]] wD fun e w' => e = .returned (.bool true) ∧ wD.grownBy w' none) := hid (by
                have h := eqRing_any wD _ _ _ _ LW LW NW NW HCD.out.rd HJD.out.wk.rd (by have := H41.out; omega)
                rw [decide_eq_true rfl, decide_eq_true rfl] at h
                exact h)
              go_upto_region 47 with (first
                | (with_reducible refine wpList_load_part (by with_unfolding_all rfl) 69 _ (by with_unfolding_all rfl) p13 0 [.slice aC MW cC, .int .u64 (NW : Nat)] _ (by with_unfolding_all rfl) HZD.out.whole Try.underlying69 (by with_unfolding_all rfl) (by with_unfolding_all exact Try.size69) ?_)
                | (with_reducible refine wpList_load_part (by with_unfolding_all rfl) 69 _ (by with_unfolding_all rfl) p8 0 [.slice aA MW cA, .int .u64 (NW : Nat)] _ (by with_unfolding_all rfl) HJD.out.w8.whole Try.underlying69 (by with_unfolding_all rfl) (by with_unfolding_all exact Try.size69) ?_)
                | (go_at_call 21; (with_reducible refine HE2.out.mono ?_); rintro e wE ⟨rfl, hg⟩; have HJE := hid (HJD.out.keep hg); have HZE := hid (HZD.out.keep hg); have HCE := hid (HCD.out.keep hg); have HZE2 := hid hg.size; clear hg))
              clear HE2 HJD HZD HCD
              have HR2 := hid (JS.twin (s0 := w0.heap.size) (gx := NW) HJE.out (by have := HZD2.out; have := HZE2.out; omega) (HCE.out.below (by have := HG0.out.size; have := HG_10.out.size; have := HZs_11.out; have := HZs_12.out; have := HZs_13.out; have := HZs_14.out; omega)) (by have := H41.out; omega) (by have := HTT.out; have := hi; omega) (fun k hk => ⟨(HAp.out.2.2 k hk).1, (HAp.out.2.2 k hk).2.2⟩) HLow.out.1 HLow.out.2)
              go_upto_region 48 with (first
                | (with_reducible refine wpList_load_part (by with_unfolding_all rfl) 69 _ (by with_unfolding_all rfl) p13 0 [.slice aC MW cC, .int .u64 (NW : Nat)] _ (by with_unfolding_all rfl) HZE.out.whole Try.underlying69 (by with_unfolding_all rfl) (by with_unfolding_all exact Try.size69) ?_)
                | (go_at_call 23; (with_reducible refine HR2.out.mono ?_); rintro e wF ⟨rfl, hJ, hk⟩; have HJF := hid hJ; have HZF2 := hid hk.1.size; clear hJ hk))
              clear HR2 HJE HZE HCE
              have HLen2 : Hid (LW.length ≤ 41) := H41
              have HLenW : Hid (LW.length ≤ 1000000) := hid (by have := HLen2.out; omega)
              have HSzU : Hid (wE.heap.size ≤ wF.heap.size) := hid (by have := HZF2.out; omega)
              go_upto_region 51 with (first
                | (with_reducible refine wpList_load_part (by with_unfolding_all rfl) 69 _ (by with_unfolding_all rfl) p8 0 [.slice aA MW cA, .int .u64 (NW : Nat)] _ (by with_unfolding_all rfl) HJF.out.w8.whole Try.underlying69 (by with_unfolding_all rfl) (by with_unfolding_all exact Try.size69) ?_)
                | ((with_reducible refine wpList_store_all (by with_unfolding_all rfl) 69 _ _ (by with_unfolding_all rfl) p5 [.slice ra rn rc, .int .u64 nx] [.slice aA MW cA, .int .u64 (NW : Nat)] 69 (by with_unfolding_all rfl) (by with_unfolding_all rfl) HJF.out.r (by with_unfolding_all rfl) (by with_unfolding_all exact Try.size69) (ring_one _ _ _ _) ?_); intro wH BB hg ss; have HJH := hid (JS.take HJF.out BB hg); have HZH2 := hid hg.size; clear BB hg ss))
              have yk := (HSp.out _ _ HJH.out.s).2.2.1
              have HAs : Hid (Calls Try.prog 17 #[.agg #[.slice aA MW cA, .int .u64 NW], .int .u64 kid] wH fun e w' => e = .returned (.bool true) ∧ wH.grownBy w' none) := hid (asks_any wH _ _ LW NW kid HJH.out.keys.rd HLenW.out)
              go_wp2_with (first
                | (with_reducible refine wpList_load_partW (by with_unfolding_all rfl) 69 _ (by with_unfolding_all rfl) p5 0 [.slice aA MW cA, .int .u64 (NW : Nat)] _ (by with_unfolding_all rfl) HJI.out.r.whole Try.underlying69 (by with_unfolding_all rfl) (by with_unfolding_all exact Try.size69) ?_)
                | (with_reducible refine wpList_load_part (by with_unfolding_all rfl) 69 _ (by with_unfolding_all rfl) p5 0 [.slice aA MW cA, .int .u64 (NW : Nat)] _ (by with_unfolding_all rfl) HJH.out.r.whole Try.underlying69 (by with_unfolding_all rfl) (by with_unfolding_all exact Try.size69) ?_)
                | (go_at_call 17; (with_reducible refine HAs.out.mono ?_); rintro e wI ⟨rfl, hg⟩; have HJI := hid (HJH.out.keep hg); have HZI2 := hid hg.size; have HPl := hid (placed_any wI w.heap.size sb _ cs va vn vc lk LW aA MW cA NW HJI.out.seat HJI.out.c4 HJI.out.row HJI.out.grown.size (fun u hu => (JS.rd HJI.out hu).rd) HLenW.out); clear hg)
                | (go_at_call 24; go_loud ((with_reducible refine HPl.out.mono ?_); rintro e wK ⟨rfl, na, nn, nc, hO, hB, hat, hK⟩; have HDn := hid (JS.done HJI.out (by have := HSzU.out; have := HZH2.out; have := HZI2.out; omega) hK hB hO hat); clear hO hB hat hK)))
              go_roundw
              case rel => exact ⟨i + 1, (TT + 1 + 1), _, _, _, _, _, _, _, _, _, _, by go_num, by omega, hid (by have := HTT.out; omega), HLen2, HDn⟩
              case measure => simp [intOf]; omega
            · skip
              by_cases hk : act = 4
              · as_aux_lemma =>
                subst hk
                obtain ⟨LW, HLW⟩ : ∃ x, Hid ((disR l nx kid sec : List Ky × Nat).1 = x) := ⟨_, hid rfl⟩
                obtain ⟨NW, HNW⟩ : ∃ x, Hid ((disR l nx kid sec : List Ky × Nat).2 = x) := ⟨_, hid rfl⟩
                obtain ⟨MW, HMW⟩ : ∃ x, Hid (LW.length = x) := ⟨_, hid rfl⟩
                have H41 : Hid (LW.length ≤ 41) := hid (by rw [← HLW.out]; exact disR_41 l nx kid sec)
                obtain ⟨EW, HEW⟩ : ∃ x, Hid (disE l nx kid = x) := ⟨_, hid rfl⟩
                have HCw : Hid (∀ u, w0.grownBy u none → Calls Try.prog 15 #[.agg #[.slice ra rn rc, .int .u64 nx], .int .u64 kid, .agg ts.toArray] u fun e w' => ∃ a c, e = .returned (.tuple #[.agg #[.slice a MW c, .int .u64 (NW : Nat)], .int .i64 EW]) ∧ OutK u.heap.size w' (.slice a MW c) LW ∧ u.grownBy w' none) := fun u hu => by
                  have h := rdis_any u _ _ l nx kid sec (HRv.out u hu) HLb.out HIn.out.1
                  rw [HEW.out, HLW.out, HNW.out, HMW.out, HTS.out] at h
                  exact h
                have HCg : Hid (∀ u, LentK w0.heap.size u g cg l → Calls Try.prog 16 #[.agg #[.slice (some ⟨g, 0, none⟩) rn cg, .int .u64 nx], .int .u64 kid, .agg ts.toArray] u fun e w' => ∃ a c, e = .returned (.tuple #[.agg #[.slice a MW c, .int .u64 (NW : Nat)], .int .i64 EW]) ∧ OutK u.heap.size w' (.slice a MW c) LW ∧ u.grownBy w' none) := fun u hu => by
                  have h := distrust_any u _ _ l nx kid sec (HRx.out u g cg hu) HLb.out HIn.out.1
                  rw [HEW.out, HLW.out, HNW.out, HMW.out, HTS.out] at h
                  exact h
                clear hact
                obtain ⟨z0, z33, z34, hz70, hz35⟩ := HSp.out _ _ HS_10.out
                clear hz35
                rw [HTS.out] at hz70
                replace hz70 := hid hz70
                go_upto_region 29 with (first
                  | (with_reducible refine wpList_load_part (by with_unfolding_all rfl) 70 _ (by with_unfolding_all rfl) pS 1 ts _ (by with_unfolding_all rfl) hz70.out Try.underlying70 (by with_unfolding_all rfl) (by rw [HTl.out]; exact Try.size70) ?_)
                  | (with_reducible refine wpList_load_part (by with_unfolding_all rfl) 69 _ (by with_unfolding_all rfl) p5 0 [.slice ra rn rc, .int .u64 nx] _ (by with_unfolding_all rfl) HR_10.out.whole Try.underlying69 (by with_unfolding_all rfl) (by with_unfolding_all exact Try.size69) ?_)
                  | (go_at_call 15; (with_reducible refine (HCw.out _ HG_10.out).mono ?_); rintro e w11 ⟨aA, cA, rfl, hO, hg⟩; have HS_11 := hid (HS_10.out.keep hg); have HR_11 := hid (HR_10.out.keep hg); have HW_11 := hid (HW_10.out.keep hg); have HX_11 := hid (HX_10.out.keep hg); have HY_11 := hid (HY_10.out.keep hg); have HZ_11 := hid (HZ_10.out.keep hg); have HL_11 := hid (HL_10.out.keep hg); have HG_11 := hid (gtrans HG_10.out hg); have HZs_11 : Hid (w10.heap.size ≤ w11.heap.size) := hid hg.size; have HOA_11 := hid hO; clear hO; clear hg)
                  | ((with_reducible refine wpList_store_all (by with_unfolding_all rfl) 69 _ _ (by with_unfolding_all rfl) p8 [.slice ra rn rc, .int .u64 nx] [.slice aA MW cA, .int .u64 (NW : Nat)] 69 (by with_unfolding_all rfl) (by with_unfolding_all rfl) HW_11.out (by with_unfolding_all rfl) (by with_unfolding_all exact Try.size69) (ring_one _ _ _ _) ?_); intro w12 BB hg ss; have HW_12 := hid BB; have HS_12 := hid (HS_11.out.on hg (by have := HPn.out; simp; omega)); have HR_12 := hid (HR_11.out.on hg (by have := HPn.out; simp; omega)); have HX_12 := hid (HX_11.out.on hg (by have := HPn.out; simp; omega)); have HY_12 := hid (HY_11.out.on hg (by have := HPn.out; simp; omega)); have HZ_12 := hid (HZ_11.out.on hg (by have := HPn.out; simp; omega)); have HL_12 := hid (show LentK w0.heap.size w12 g cg l from ⟨HL_11.out.1.offB hg HW_11.out (by decide), HL_11.out.2⟩); have HOA_12 := hid (HOA_11.out.offB hg HW_11.out (by decide)); have HG_12 := hid (HG_11.out.andThen hg (fun j hj => .inl (by injection hj with hj; have := HPn.out; omega))); have HZs_12 : Hid (w11.heap.size ≤ w12.heap.size) := hid hg.size; clear BB hg ss))
                clear z0 z33 z34 hz70
                obtain ⟨z0, z33, z34, hz70, hz35⟩ := HSp.out _ _ HS_12.out
                clear hz35
                rw [HTS.out] at hz70
                replace hz70 := hid hz70
                go_upto_region 30 with (first
                  | (with_reducible refine wpList_load_part (by with_unfolding_all rfl) 70 _ (by with_unfolding_all rfl) pS 1 ts _ (by with_unfolding_all rfl) hz70.out Try.underlying70 (by with_unfolding_all rfl) (by rw [HTl.out]; exact Try.size70) ?_)
                  | (with_reducible refine wpList_load_part (by with_unfolding_all rfl) 69 _ (by with_unfolding_all rfl) p10 0 [.slice (some ⟨g, 0, none⟩) rn cg, .int .u64 nx] _ (by with_unfolding_all rfl) HX_12.out.whole Try.underlying69 (by with_unfolding_all rfl) (by with_unfolding_all exact Try.size69) ?_)
                  | (go_at_call 16; (with_reducible refine (HCg.out _ HL_12.out).mono ?_); rintro e w13 ⟨aB, cB, rfl, hO, hg⟩; have HS_13 := hid (HS_12.out.keep hg); have HR_13 := hid (HR_12.out.keep hg); have HW_13 := hid (HW_12.out.keep hg); have HX_13 := hid (HX_12.out.keep hg); have HY_13 := hid (HY_12.out.keep hg); have HZ_13 := hid (HZ_12.out.keep hg); have HL_13 := hid (HL_12.out.keep hg); have HOA_13 := hid (HOA_12.out.keep hg); have HG_13 := hid (gtrans HG_12.out hg); have HZs_13 : Hid (w12.heap.size ≤ w13.heap.size) := hid hg.size; have HOB_13 := hid hO; clear hO; clear hg)
                  | ((with_reducible refine wpList_store_all (by with_unfolding_all rfl) 69 _ _ (by with_unfolding_all rfl) p11 [.slice ra rn rc, .int .u64 nx] [.slice aB MW cB, .int .u64 (NW : Nat)] 69 (by with_unfolding_all rfl) (by with_unfolding_all rfl) HY_13.out (by with_unfolding_all rfl) (by with_unfolding_all exact Try.size69) (ring_one _ _ _ _) ?_); intro w14 BB hg ss; have HY_14 := hid BB; have HS_14 := hid (HS_13.out.on hg (by have := HPn.out; simp; omega)); have HR_14 := hid (HR_13.out.on hg (by have := HPn.out; simp; omega)); have HW_14 := hid (HW_13.out.on hg (by have := HPn.out; simp; omega)); have HX_14 := hid (HX_13.out.on hg (by have := HPn.out; simp; omega)); have HZ_14 := hid (HZ_13.out.on hg (by have := HPn.out; simp; omega)); have HL_14 := hid (show LentK w0.heap.size w14 g cg l from ⟨HL_13.out.1.offB hg HY_13.out (by decide), HL_13.out.2⟩); have HOA_14 := hid (HOA_13.out.offB hg HY_13.out (by decide)); have HOB_14 := hid (HOB_13.out.offB hg HY_13.out (by decide)); have HG_14 := hid (HG_13.out.andThen hg (fun j hj => .inl (by injection hj with hj; have := HPn.out; omega))); have HZs_14 : Hid (w13.heap.size ≤ w14.heap.size) := hid hg.size; clear BB hg ss))
                clear z0 z33 z34 hz70
                obtain ⟨z0, z33, z34, hz70, hz35⟩ := HSp.out _ _ HS_14.out
                clear hz35
                rw [HTS.out] at hz70
                replace hz70 := hid hz70
                go_upto_region 38 with (first
                  | (with_reducible refine wpList_load_part (by with_unfolding_all rfl) 70 _ (by with_unfolding_all rfl) pS 1 ts _ (by with_unfolding_all rfl) hz70.out Try.underlying70 (by with_unfolding_all rfl) (by rw [HTl.out]; exact Try.size70) ?_)
                  | (with_reducible refine wpList_load_part (by with_unfolding_all rfl) 69 _ (by with_unfolding_all rfl) p10 0 [.slice (some ⟨g, 0, none⟩) rn cg, .int .u64 nx] _ (by with_unfolding_all rfl) HX_14.out.whole Try.underlying69 (by with_unfolding_all rfl) (by with_unfolding_all exact Try.size69) ?_)
                  | (go_at_call 16; (with_reducible refine (HCg.out _ HL_14.out).mono ?_); rintro e w15 ⟨aC, cC, rfl, hO, hg⟩; have HS_15 := hid (HS_14.out.keep hg); have HR_15 := hid (HR_14.out.keep hg); have HW_15 := hid (HW_14.out.keep hg); have HX_15 := hid (HX_14.out.keep hg); have HY_15 := hid (HY_14.out.keep hg); have HZ_15 := hid (HZ_14.out.keep hg); have HL_15 := hid (HL_14.out.keep hg); have HOA_15 := hid (HOA_14.out.keep hg); have HOB_15 := hid (HOB_14.out.keep hg); have HG_15 := hid (gtrans HG_14.out hg); have HZs_15 : Hid (w14.heap.size ≤ w15.heap.size) := hid hg.size; have HOC_15 := hid hO; clear hO; clear hg)
                  | ((with_reducible refine wpList_store_all (by with_unfolding_all rfl) 69 _ _ (by with_unfolding_all rfl) p13 [.slice none 0 0, .int .u64 0] [.slice aC MW cC, .int .u64 (NW : Nat)] 69 (by with_unfolding_all rfl) (by with_unfolding_all rfl) HZ_15.out (by with_unfolding_all rfl) (by with_unfolding_all exact Try.size69) (ring_one _ _ _ _) ?_); intro w16 BB hg ss; have HZ_16 := hid BB; have HS_16 := hid (HS_15.out.on hg (by have := HPn.out; simp; omega)); have HR_16 := hid (HR_15.out.on hg (by have := HPn.out; simp; omega)); have HW_16 := hid (HW_15.out.on hg (by have := HPn.out; simp; omega)); have HX_16 := hid (HX_15.out.on hg (by have := HPn.out; simp; omega)); have HY_16 := hid (HY_15.out.on hg (by have := HPn.out; simp; omega)); have HL_16 := hid (show LentK w0.heap.size w16 g cg l from ⟨HL_15.out.1.offB hg HZ_15.out (by decide), HL_15.out.2⟩); have HOA_16 := hid (HOA_15.out.offB hg HZ_15.out (by decide)); have HOB_16 := hid (HOB_15.out.offB hg HZ_15.out (by decide)); have HOC_16 := hid (HOC_15.out.offB hg HZ_15.out (by decide)); have HG_16 := hid (HG_15.out.andThen hg (fun j hj => .inl (by injection hj with hj; have := HPn.out; omega))); have HZs_16 : Hid (w15.heap.size ≤ w16.heap.size) := hid hg.size; clear BB hg ss))
                clear z0 z33 z34 hz70
                have HAp : Hid ((∀ k, (Value.slice aA MW cA).ownBlock = some k → w0.heap.size ≤ k ∧ k ≠ g) ∧ (∀ k, (Value.slice aB MW cB).ownBlock = some k → w0.heap.size ≤ k ∧ k ≠ g ∧ (Value.slice aC MW cC).ownBlock ≠ some k ∧ (Value.slice aA MW cA).ownBlock ≠ some k) ∧ (∀ k, (Value.slice aC MW cC).ownBlock = some k → w0.heap.size ≤ k ∧ k ≠ g ∧ (Value.slice aA MW cA).ownBlock ≠ some k)) := hid (by
                  have z1 := HG_10.out.size
                  have z2 := HPn.out
                  have z3 := HZs_12.out
                  have z4 := HZs_13.out
                  have z5 := HZs_14.out
                  have bA : ∀ k, (Value.slice aA MW cA).ownBlock = some k → w10.heap.size ≤ k ∧ k < w11.heap.size := fun k hk => ⟨(own_block HOA_11.out.2 hk).1, (own_block HOA_11.out.2 hk).2.1⟩
                  have bB : ∀ k, (Value.slice aB MW cB).ownBlock = some k → w12.heap.size ≤ k ∧ k < w13.heap.size := fun k hk => ⟨(own_block HOB_13.out.2 hk).1, (own_block HOB_13.out.2 hk).2.1⟩
                  have bC : ∀ k, (Value.slice aC MW cC).ownBlock = some k → w14.heap.size ≤ k := fun k hk => (own_block HOC_15.out.2 hk).1
                  have z6 := HZs_11.out
                  refine ⟨fun k hk => ?_, fun k hk => ⟨?_, ?_, fun e => ?_, fun e => ?_⟩, fun k hk => ⟨?_, ?_, fun e => ?_⟩⟩
                  · have := bA k hk; omega
                  · have := bB k hk; omega
                  · have := bB k hk; omega
                  · have := bB k hk; have := bC k e; omega
                  · have := bB k hk; have := bA k e; omega
                  · have := bC k hk; omega
                  · have := bC k hk; omega
                  · have := bC k hk; have := bA k e; omega)
                have HJ := hid (SS.js2 HSS.out HG_16.out HS_16.out HW_16.out HPn.out.2.2.2.2.2.2.2.1 (RK.of (HOA_16.out.below HG_10.out.size)))
                have HBk : Hid (Calls Try.prog 19 #[.slice (some ⟨g, 0, none⟩) rn cg, .slice ra rn rc] w16 fun e w' => e = .returned (.bool true) ∧ w16.grownBy w' none) := hid (by
                  have h := backK_any w16 _ _ _ g cg l HL_16.out HJ.out.keys.rd HLe.out
                  rw [HN.out] at h
                  exact h)
                have yx := HX_16.out.cell 0
                have yr := HJ.out.r.cell 0
                go_upto_region 42 with (first
                  | (go_at_call 19; (with_reducible refine HBk.out.mono ?_); rintro e wA ⟨rfl, hg⟩; have HJA := hid (HJ.out.keep hg); have HLA := hid (HL_16.out.keep hg); have ya := (HX_16.out.keep hg).cell 0; have HYA := hid (HY_16.out.keep hg); have HZA := hid (HZ_16.out.keep hg); have HBA := hid (HOB_16.out.keep hg); have HCA := hid (HOC_16.out.keep hg); have HOv : Hid (Calls Try.prog 20 #[.slice (some ⟨g, 0, none⟩) rn cg] wA fun e w' => e = .returned (.tuple #[]) ∧ wA.grownBy w' (some g)) := hid (by have h := overK_any wA _ g cg l HLA.out HLe.out; rw [HN.out] at h; exact h); have HZA2 := hid hg.size; clear hg)
                  | (go_at_call 20; (with_reducible refine HOv.out.mono ?_); rintro e wB ⟨rfl, hg⟩; have HJB := hid (by obtain ⟨cg', hb', _⟩ := HLA.out.1.blkB (g := g) rfl; exact JS.over HJA.out hb' hg (by have := HPn.out; have := HG0.out.size; omega) (by have := HPn.out; omega) (fun e => by have := HLow.out.1 g e; have := HPn.out; omega) (fun e => by have := HLow.out.2 g e; have := HPn.out; omega) (fun e => (HAp.out.1 g e).2 rfl)); have HYB := hid (HYA.out.on hg (by have := HPn.out; simp; omega)); have HZB := hid (HZA.out.on hg (by have := HPn.out; simp; omega)); have HBB := hid (HBA.out.on hg (fun k hk e => by injection hk with hk; exact (HAp.out.2.1 k e).2.1 hk.symm)); have HCB := hid (HCA.out.on hg (fun k hk e => by injection hk with hk; exact (HAp.out.2.2 k e).2.1 hk.symm)); have yb := (HSp.out _ _ HJB.out.s).1; have HZB2 := hid hg.size; clear hg))
                clear yx yr ya HBk HOv HJ HJA HLA HYA HZA HBA HCA
                have HE1 : Hid (Calls Try.prog 21 #[.agg #[.slice aB MW cB, .int .u64 (NW : Nat)], .agg #[.slice aA MW cA, .int .u64 (NW : Nat)]] wB fun e w' => e = .returned (.bool true) ∧ wB.grownBy w' none) := hid (by
                  have h := eqRing_any wB _ _ _ _ LW LW NW NW HBB.out.rd HJB.out.wk.rd (by have := H41.out; omega)
                  rw [decide_eq_true rfl, decide_eq_true rfl] at h
                  exact h)
                go_upto_region 44 with (first
                  | (with_reducible refine wpList_load_part (by with_unfolding_all rfl) 69 _ (by with_unfolding_all rfl) p11 0 [.slice aB MW cB, .int .u64 (NW : Nat)] _ (by with_unfolding_all rfl) HYB.out.whole Try.underlying69 (by with_unfolding_all rfl) (by with_unfolding_all exact Try.size69) ?_)
                  | (with_reducible refine wpList_load_part (by with_unfolding_all rfl) 69 _ (by with_unfolding_all rfl) p8 0 [.slice aA MW cA, .int .u64 (NW : Nat)] _ (by with_unfolding_all rfl) HJB.out.w8.whole Try.underlying69 (by with_unfolding_all rfl) (by with_unfolding_all exact Try.size69) ?_)
                  | (go_at_call 21; (with_reducible refine HE1.out.mono ?_); rintro e wC ⟨rfl, hg⟩; have HJC := hid (HJB.out.keep hg); have HYC := hid (HYB.out.keep hg); have HZC := hid (HZB.out.keep hg); have HBC := hid (HBB.out.keep hg); have HCC := hid (HCB.out.keep hg); have HZC2 := hid hg.size; clear hg)
                  | (go_at_call 22; refine (num_any _ _).mono ?_; rintro e wc' ⟨rfl, rfl⟩))
                clear yb HE1 HJB HYB HZB HBB HCB
                have HR1 := hid (JS.got (s0 := w0.heap.size) (gx := NW) (ta := aC) (tn := MW) (tc := cC) HJC.out (by have := HG_16.out.size; have := HZA2.out; have := HZB2.out; have := HZC2.out; omega) (HBC.out.below (by have := HG0.out.size; have := HG_10.out.size; have := HZs_11.out; have := HZs_12.out; omega)) (by have := H41.out; omega) (by have := HTT.out; have := hi; omega) (fun k hk => ⟨(HAp.out.2.1 k hk).1, (HAp.out.2.1 k hk).2.2.1, (HAp.out.2.1 k hk).2.2.2⟩) (fun k hk => (HAp.out.2.2 k hk).1) HLow.out.1 HLow.out.2)
                go_upto_region 45 with (first
                  | (with_reducible refine wpList_load_part (by with_unfolding_all rfl) 69 _ (by with_unfolding_all rfl) p11 0 [.slice aB MW cB, .int .u64 (NW : Nat)] _ (by with_unfolding_all rfl) HYC.out.whole Try.underlying69 (by with_unfolding_all rfl) (by with_unfolding_all exact Try.size69) ?_)
                  | (go_at_call 23; (with_reducible refine HR1.out.mono ?_); rintro e wD ⟨rfl, hJ, hk⟩; have HJD := hid hJ; have HZD := hid (Blk.kk HZC.out hk (by decide) (fun e => HBC.out.ne_blk HZC.out (by decide) _ e rfl)); have HCD := hid (OutK.kk HCC.out hk (fun k e e2 => (HAp.out.2.1 k e2).2.2.1 e)); have HZD2 := hid hk.1.size; clear hJ hk))
                clear HR1 HJC HYC HZC HBC HCC
                have HE2 : Hid (Calls Try.prog 21 #[.agg #[.slice aC MW cC, .int .u64 (NW : Nat)], .agg #[.slice aA MW cA, .int .u64 (NW : Nat)]] wD fun e w' => e = .returned (.bool true) ∧ wD.grownBy w' none) := hid (by
                  have h := eqRing_any wD _ _ _ _ LW LW NW NW HCD.out.rd HJD.out.wk.rd (by have := H41.out; omega)
                  rw [decide_eq_true rfl, decide_eq_true rfl] at h
                  exact h)
                go_upto_region 47 with (first
                  | (with_reducible refine wpList_load_part (by with_unfolding_all rfl) 69 _ (by with_unfolding_all rfl) p13 0 [.slice aC MW cC, .int .u64 (NW : Nat)] _ (by with_unfolding_all rfl) HZD.out.whole Try.underlying69 (by with_unfolding_all rfl) (by with_unfolding_all exact Try.size69) ?_)
                  | (with_reducible refine wpList_load_part (by with_unfolding_all rfl) 69 _ (by with_unfolding_all rfl) p8 0 [.slice aA MW cA, .int .u64 (NW : Nat)] _ (by with_unfolding_all rfl) HJD.out.w8.whole Try.underlying69 (by with_unfolding_all rfl) (by with_unfolding_all exact Try.size69) ?_)
                  | (go_at_call 21; (with_reducible refine HE2.out.mono ?_); rintro e wE ⟨rfl, hg⟩; have HJE := hid (HJD.out.keep hg); have HZE := hid (HZD.out.keep hg); have HCE := hid (HCD.out.keep hg); have HZE2 := hid hg.size; clear hg))
                clear HE2 HJD HZD HCD
                have HR2 := hid (JS.twin (s0 := w0.heap.size) (gx := NW) HJE.out (by have := HZD2.out; have := HZE2.out; omega) (HCE.out.below (by have := HG0.out.size; have := HG_10.out.size; have := HZs_11.out; have := HZs_12.out; have := HZs_13.out; have := HZs_14.out; omega)) (by have := H41.out; omega) (by have := HTT.out; have := hi; omega) (fun k hk => ⟨(HAp.out.2.2 k hk).1, (HAp.out.2.2 k hk).2.2⟩) HLow.out.1 HLow.out.2)
                go_upto_region 48 with (first
                  | (with_reducible refine wpList_load_part (by with_unfolding_all rfl) 69 _ (by with_unfolding_all rfl) p13 0 [.slice aC MW cC, .int .u64 (NW : Nat)] _ (by with_unfolding_all rfl) HZE.out.whole Try.underlying69 (by with_unfolding_all rfl) (by with_unfolding_all exact Try.size69) ?_)
                  | (go_at_call 23; (with_reducible refine HR2.out.mono ?_); rintro e wF ⟨rfl, hJ, hk⟩; have HJF := hid hJ; have HZF2 := hid hk.1.size; clear hJ hk))
                clear HR2 HJE HZE HCE
                by_cases hE : EW = 0
                · as_aux_lemma =>
                  have HLen2 : Hid (LW.length ≤ 41) := H41
                  have HLenW : Hid (LW.length ≤ 1000000) := hid (by have := HLen2.out; omega)
                  have HSzU : Hid (wE.heap.size ≤ wF.heap.size) := hid (by have := HZF2.out; omega)
                  go_upto_region 51 with (first
                    | (with_reducible refine wpList_load_part (by with_unfolding_all rfl) 69 _ (by with_unfolding_all rfl) p8 0 [.slice aA MW cA, .int .u64 (NW : Nat)] _ (by with_unfolding_all rfl) HJF.out.w8.whole Try.underlying69 (by with_unfolding_all rfl) (by with_unfolding_all exact Try.size69) ?_)
                    | ((with_reducible refine wpList_store_all (by with_unfolding_all rfl) 69 _ _ (by with_unfolding_all rfl) p5 [.slice ra rn rc, .int .u64 nx] [.slice aA MW cA, .int .u64 (NW : Nat)] 69 (by with_unfolding_all rfl) (by with_unfolding_all rfl) HJF.out.r (by with_unfolding_all rfl) (by with_unfolding_all exact Try.size69) (ring_one _ _ _ _) ?_); intro wH BB hg ss; have HJH := hid (JS.take HJF.out BB hg); have HZH2 := hid hg.size; clear BB hg ss))
                  have yk := (HSp.out _ _ HJH.out.s).2.2.1
                  have HAs : Hid (Calls Try.prog 17 #[.agg #[.slice aA MW cA, .int .u64 NW], .int .u64 kid] wH fun e w' => e = .returned (.bool true) ∧ wH.grownBy w' none) := hid (asks_any wH _ _ LW NW kid HJH.out.keys.rd HLenW.out)
                  go_wp2_with (first
                    | (with_reducible refine wpList_load_partW (by with_unfolding_all rfl) 69 _ (by with_unfolding_all rfl) p5 0 [.slice aA MW cA, .int .u64 (NW : Nat)] _ (by with_unfolding_all rfl) HJI.out.r.whole Try.underlying69 (by with_unfolding_all rfl) (by with_unfolding_all exact Try.size69) ?_)
                    | (with_reducible refine wpList_load_part (by with_unfolding_all rfl) 69 _ (by with_unfolding_all rfl) p5 0 [.slice aA MW cA, .int .u64 (NW : Nat)] _ (by with_unfolding_all rfl) HJH.out.r.whole Try.underlying69 (by with_unfolding_all rfl) (by with_unfolding_all exact Try.size69) ?_)
                    | (go_at_call 17; (with_reducible refine HAs.out.mono ?_); rintro e wI ⟨rfl, hg⟩; have HJI := hid (HJH.out.keep hg); have HZI2 := hid hg.size; have HPl := hid (placed_any wI w.heap.size sb _ cs va vn vc lk LW aA MW cA NW HJI.out.seat HJI.out.c4 HJI.out.row HJI.out.grown.size (fun u hu => (JS.rd HJI.out hu).rd) HLenW.out); clear hg)
                    | (go_at_call 24; go_loud ((with_reducible refine HPl.out.mono ?_); rintro e wK ⟨rfl, na, nn, nc, hO, hB, hat, hK⟩; have HDn := hid (JS.done HJI.out (by have := HSzU.out; have := HZH2.out; have := HZI2.out; omega) hK hB hO hat); clear hO hB hat hK)))
                  go_roundw
                  case rel => exact ⟨i + 1, (TT + 1 + 1), _, _, _, _, _, _, _, _, _, _, by go_num, by omega, hid (by have := HTT.out; omega), HLen2, HDn⟩
                  case measure => simp [intOf]; omega
                · as_aux_lemma =>
                  go_upto_region 50 with (first
                    | (with_reducible refine wpList_load_part (by with_unfolding_all rfl) 69 _ (by with_unfolding_all rfl) p5 0 [.slice ra rn rc, .int .u64 nx] _ (by with_unfolding_all rfl) HJF.out.r.whole Try.underlying69 (by with_unfolding_all rfl) (by with_unfolding_all exact Try.size69) ?_)
                    | ((with_reducible refine wpList_store_all (by with_unfolding_all rfl) 69 _ _ (by with_unfolding_all rfl) p8 [.slice aA MW cA, .int .u64 (NW : Nat)] [.slice ra rn rc, .int .u64 nx] 69 (by with_unfolding_all rfl) (by with_unfolding_all rfl) HJF.out.w8 (by with_unfolding_all rfl) (by with_unfolding_all exact Try.size69) (ring_one _ _ _ _) ?_); intro wG BB hg ss; have HJG := hid (JS.back HJF.out BB hg); have HZG2 := hid hg.size; clear BB hg ss))
                  have HLen2 : Hid (l.length ≤ 41) := HLen
                  have HLenW : Hid (l.length ≤ 1000000) := hid (by have := HLen2.out; omega)
                  have HSzU : Hid (wE.heap.size ≤ wG.heap.size) := hid (by have := HZF2.out; have := HZG2.out; omega)
                  go_upto_region 51 with (first
                    | (with_reducible refine wpList_load_part (by with_unfolding_all rfl) 69 _ (by with_unfolding_all rfl) p8 0 [.slice ra rn rc, .int .u64 (nx : Nat)] _ (by with_unfolding_all rfl) HJG.out.w8.whole Try.underlying69 (by with_unfolding_all rfl) (by with_unfolding_all exact Try.size69) ?_)
                    | ((with_reducible refine wpList_store_all (by with_unfolding_all rfl) 69 _ _ (by with_unfolding_all rfl) p5 [.slice ra rn rc, .int .u64 nx] [.slice ra rn rc, .int .u64 (nx : Nat)] 69 (by with_unfolding_all rfl) (by with_unfolding_all rfl) HJG.out.r (by with_unfolding_all rfl) (by with_unfolding_all exact Try.size69) (ring_one _ _ _ _) ?_); intro wH BB hg ss; have HJH := hid (JS.take HJG.out BB hg); have HZH2 := hid hg.size; clear BB hg ss))
                  have yk := (HSp.out _ _ HJH.out.s).2.2.1
                  have HAs : Hid (Calls Try.prog 17 #[.agg #[.slice ra rn rc, .int .u64 nx], .int .u64 kid] wH fun e w' => e = .returned (.bool true) ∧ wH.grownBy w' none) := hid (asks_any wH _ _ l nx kid HJH.out.keys.rd HLenW.out)
                  go_wp2_with (first
                    | (with_reducible refine wpList_load_partW (by with_unfolding_all rfl) 69 _ (by with_unfolding_all rfl) p5 0 [.slice ra rn rc, .int .u64 (nx : Nat)] _ (by with_unfolding_all rfl) HJI.out.r.whole Try.underlying69 (by with_unfolding_all rfl) (by with_unfolding_all exact Try.size69) ?_)
                    | (with_reducible refine wpList_load_part (by with_unfolding_all rfl) 69 _ (by with_unfolding_all rfl) p5 0 [.slice ra rn rc, .int .u64 (nx : Nat)] _ (by with_unfolding_all rfl) HJH.out.r.whole Try.underlying69 (by with_unfolding_all rfl) (by with_unfolding_all exact Try.size69) ?_)
                    | (go_at_call 17; (with_reducible refine HAs.out.mono ?_); rintro e wI ⟨rfl, hg⟩; have HJI := hid (HJH.out.keep hg); have HZI2 := hid hg.size; have HPl := hid (placed_any wI w.heap.size sb _ cs va vn vc lk l ra rn rc nx HJI.out.seat HJI.out.c4 HJI.out.row HJI.out.grown.size (fun u hu => (JS.rd HJI.out hu).rd) HLenW.out); clear hg)
                    | (go_at_call 24; go_loud ((with_reducible refine HPl.out.mono ?_); rintro e wK ⟨rfl, na, nn, nc, hO, hB, hat, hK⟩; have HDn := hid (JS.done HJI.out (by have := HSzU.out; have := HZH2.out; have := HZI2.out; omega) hK hB hO hat); clear hO hB hat hK)))
                  go_roundw
                  case rel => exact ⟨i + 1, (TT + 1 + 1), _, _, _, _, _, _, _, _, _, _, by go_num, by omega, hid (by have := HTT.out; omega), HLen2, HDn⟩
                  case measure => simp [intOf]; omega
              · skip
                by_cases hk : act = 5
                · as_aux_lemma =>
                  subst hk
                  have zk := (HSp.out _ _ HS_10.out).2.2.1
                  have HA5 : Hid (Calls Try.prog 17 #[.agg #[.slice ra rn rc, .int .u64 nx], .int .u64 kid] w10 fun e w' => e = .returned (.bool true) ∧ w10.grownBy w' none) := hid (asks_any w10 _ _ l nx kid (HRv.out _ HG_10.out) HLe.out)
                  go_upto_region 38 with (first
                    | (with_reducible refine wpList_load_part (by with_unfolding_all rfl) 69 _ (by with_unfolding_all rfl) p5 0 [.slice ra rn rc, .int .u64 nx] _ (by with_unfolding_all rfl) HR_10.out.whole Try.underlying69 (by with_unfolding_all rfl) (by with_unfolding_all exact Try.size69) ?_)
                    | (go_at_call 17; (with_reducible refine (HA5.out).mono ?_); rintro e w11 ⟨rfl, hg⟩; have HS_11 := hid (HS_10.out.keep hg); have HR_11 := hid (HR_10.out.keep hg); have HW_11 := hid (HW_10.out.keep hg); have HX_11 := hid (HX_10.out.keep hg); have HL_11 := hid (HL_10.out.keep hg); have HG_11 := hid (gtrans HG_10.out hg); have HZs_11 : Hid (w10.heap.size ≤ w11.heap.size) := hid hg.size; clear hg))
                  clear hact zk
                  have HJ := hid (SS.js HSS.out HG_11.out HS_11.out HW_11.out HPn.out.2.2.2.2.2.2.2.1)
                  have HWg : Hid ((Value.slice ra rn rc).ownBlock ≠ some g) := hid (fun e => by have := HLow.out.2 g e; have := HPn.out; omega)
                  have HBk : Hid (Calls Try.prog 19 #[.slice (some ⟨g, 0, none⟩) rn cg, .slice ra rn rc] w11 fun e w' => e = .returned (.bool true) ∧ w11.grownBy w' none) := hid (by
                    have h := backK_any w11 _ _ _ g cg l HL_11.out HJ.out.keys.rd HLe.out
                    rw [HN.out] at h
                    exact h)
                  have yx := HX_11.out.cell 0
                  have yr := HJ.out.r.cell 0
                  go_upto_region 50 with (first
                    | (go_at_call 19; (with_reducible refine HBk.out.mono ?_); rintro e wA ⟨rfl, hg⟩; have HJA := hid (HJ.out.keep hg); have HLA := hid (HL_11.out.keep hg); have ya := (HX_11.out.keep hg).cell 0;  have HOv : Hid (Calls Try.prog 20 #[.slice (some ⟨g, 0, none⟩) rn cg] wA fun e w' => e = .returned (.tuple #[]) ∧ wA.grownBy w' (some g)) := hid (by have h := overK_any wA _ g cg l HLA.out HLe.out; rw [HN.out] at h; exact h); have HZA2 := hid hg.size; clear hg)
                    | (go_at_call 20; (with_reducible refine HOv.out.mono ?_); rintro e wB ⟨rfl, hg⟩; have HJB := hid (by obtain ⟨cg', hb', _⟩ := HLA.out.1.blkB (g := g) rfl; exact JS.over HJA.out hb' hg (by have := HPn.out; have := HG0.out.size; omega) (by have := HPn.out; omega) (fun e => by have := HLow.out.1 g e; have := HPn.out; omega) (fun e => by have := HLow.out.2 g e; have := HPn.out; omega) HWg.out);  have yb := (HSp.out _ _ HJB.out.s).1; have HZB2 := hid hg.size; clear hg))
                  have HLen2 : Hid (l.length ≤ 41) := HLen
                  have HLenW : Hid (l.length ≤ 1000000) := hid (by have := HLen2.out; omega)
                  have HSzU : Hid (w0.heap.size ≤ wB.heap.size) := hid (by have := HG_11.out.size; have := HZA2.out; have := HZB2.out; omega)
                  go_upto_region 51 with (first
                    | (with_reducible refine wpList_load_part (by with_unfolding_all rfl) 69 _ (by with_unfolding_all rfl) p8 0 [.slice ra rn rc, .int .u64 (nx : Nat)] _ (by with_unfolding_all rfl) HJB.out.w8.whole Try.underlying69 (by with_unfolding_all rfl) (by with_unfolding_all exact Try.size69) ?_)
                    | ((with_reducible refine wpList_store_all (by with_unfolding_all rfl) 69 _ _ (by with_unfolding_all rfl) p5 [.slice ra rn rc, .int .u64 nx] [.slice ra rn rc, .int .u64 (nx : Nat)] 69 (by with_unfolding_all rfl) (by with_unfolding_all rfl) HJB.out.r (by with_unfolding_all rfl) (by with_unfolding_all exact Try.size69) (ring_one _ _ _ _) ?_); intro wH BB hg ss; have HJH := hid (JS.take HJB.out BB hg); have HZH2 := hid hg.size; clear BB hg ss))
                  have yk := (HSp.out _ _ HJH.out.s).2.2.1
                  have HAs : Hid (Calls Try.prog 17 #[.agg #[.slice ra rn rc, .int .u64 nx], .int .u64 kid] wH fun e w' => e = .returned (.bool true) ∧ wH.grownBy w' none) := hid (asks_any wH _ _ l nx kid HJH.out.keys.rd HLenW.out)
                  go_wp2_with (first
                    | (with_reducible refine wpList_load_partW (by with_unfolding_all rfl) 69 _ (by with_unfolding_all rfl) p5 0 [.slice ra rn rc, .int .u64 (nx : Nat)] _ (by with_unfolding_all rfl) HJI.out.r.whole Try.underlying69 (by with_unfolding_all rfl) (by with_unfolding_all exact Try.size69) ?_)
                    | (with_reducible refine wpList_load_part (by with_unfolding_all rfl) 69 _ (by with_unfolding_all rfl) p5 0 [.slice ra rn rc, .int .u64 (nx : Nat)] _ (by with_unfolding_all rfl) HJH.out.r.whole Try.underlying69 (by with_unfolding_all rfl) (by with_unfolding_all exact Try.size69) ?_)
                    | (go_at_call 17; (with_reducible refine HAs.out.mono ?_); rintro e wI ⟨rfl, hg⟩; have HJI := hid (HJH.out.keep hg); have HZI2 := hid hg.size; have HPl := hid (placed_any wI w.heap.size sb _ cs va vn vc lk l ra rn rc nx HJI.out.seat HJI.out.c4 HJI.out.row HJI.out.grown.size (fun u hu => (JS.rd HJI.out hu).rd) HLenW.out); clear hg)
                    | (go_at_call 24; go_loud ((with_reducible refine HPl.out.mono ?_); rintro e wK ⟨rfl, na, nn, nc, hO, hB, hat, hK⟩; have HDn := hid (JS.done HJI.out (by have := HSzU.out; have := HZH2.out; have := HZI2.out; omega) hK hB hO hat); clear hO hB hat hK)))
                  go_roundw
                  case rel => exact ⟨i + 1, TT, _, _, _, _, _, _, _, _, _, _, by go_num, by omega, hid (by have := HTT.out; omega), HLen2, HDn⟩
                  case measure => simp [intOf]; omega
                · skip
                  by_cases hk : act = 6
                  · as_aux_lemma =>
                    subst hk
                    have HCp : Hid (Calls Try.prog 18 #[.agg #[.slice qa qn qc, .int .u64 qx]] w10 fun e w' => ∃ a c, e = .returned (.agg #[.slice a qn c, .int .u64 qx]) ∧ OutK w10.heap.size w' (.slice a qn c) ql ∧ w10.grownBy w' none) := hid (by
                      have h := copyRingW w10 _ _ ql qx (HQv.out _ (gtrans HG0.out HG_10.out)) HQb.out
                      rw [HQn.out] at h
                      exact h)
                    have hz35 := hid (HSp.out _ _ HS_10.out).2.2.2.2
                    go_upto_region 36 with (first
                      | (with_reducible refine wpList_load_part (by with_unfolding_all rfl) 69 _ (by with_unfolding_all rfl) pS 35 [.slice qa qn qc, .int .u64 qx] _ (by with_unfolding_all rfl) hz35.out Try.underlying69 (by with_unfolding_all rfl) (by with_unfolding_all exact Try.size69) ?_)
                      | (go_at_call 18; (with_reducible refine (HCp.out).mono ?_); rintro e w11 ⟨aQ, cQ, rfl, hO, hg⟩; have HS_11 := hid (HS_10.out.keep hg); have HR_11 := hid (HR_10.out.keep hg); have HW_11 := hid (HW_10.out.keep hg); have HX_11 := hid (HX_10.out.keep hg); have HL_11 := hid (HL_10.out.keep hg); have HG_11 := hid (gtrans HG_10.out hg); have HZs_11 : Hid (w10.heap.size ≤ w11.heap.size) := hid hg.size; have HOQ_11 := hid hO; clear hO; clear hg)
                      | ((with_reducible refine wpList_store_all (by with_unfolding_all rfl) 69 _ _ (by with_unfolding_all rfl) p8 [.slice ra rn rc, .int .u64 nx] [.slice aQ qn cQ, .int .u64 qx] 69 (by with_unfolding_all rfl) (by with_unfolding_all rfl) HW_11.out (by with_unfolding_all rfl) (by with_unfolding_all exact Try.size69) (ring_one _ _ _ _) ?_); intro w12 BB hg ss; have HW_12 := hid BB; have HS_12 := hid (HS_11.out.on hg (by have := HPn.out; simp; omega)); have HR_12 := hid (HR_11.out.on hg (by have := HPn.out; simp; omega)); have HX_12 := hid (HX_11.out.on hg (by have := HPn.out; simp; omega)); have HL_12 := hid (show LentK w0.heap.size w12 g cg l from ⟨HL_11.out.1.offB hg HW_11.out (by decide), HL_11.out.2⟩); have HOQ_12 := hid (HOQ_11.out.offB hg HW_11.out (by decide)); have HG_12 := hid (HG_11.out.andThen hg (fun j hj => .inl (by injection hj with hj; have := HPn.out; omega))); have HZs_12 : Hid (w11.heap.size ≤ w12.heap.size) := hid hg.size; clear BB hg ss))
                    clear hact
                    have y8 := HW_12.out.cell 0
                    have y8f := HW_12.out.frozen 0
                    have HCc : Hid (qn ≤ cQ) := hid (OutK.rdle HOQ_12.out)
                    by_cases h40 : 40 < qn
                    · as_aux_lemma =>
                      have h40' : (40 : Int) < (qn : Int) := by omega
                      have hc40 : (40 : Int) ≤ (cQ : Int) := by have := HCc.out; omega
                      obtain ⟨w13, hw13⟩ : ∃ x, w12.setCell ⟨p8, 0, none⟩ (.slice aQ 40 cQ) = x := ⟨_, rfl⟩
                      go_upto_region 38 with fail
                      (try rw [hw13])
                      have HB13 : Hid (Blk w13 p8 [.slice aQ 40 cQ, .int .u64 qx] 69) := hid (by rw [← hw13]; exact HW_12.out.set 0 _)
                      have hg : w12.grownBy w13 (some p8) := by rw [← hw13]; exact gset _ _ _
                      have HG_13 := hid (HG_12.out.andThen hg (fun j hj => .inl (by injection hj with hj; have := HPn.out; omega)))
                      have HS_13 := hid (HS_12.out.on hg (by have := HPn.out; simp; omega))
                      have HX_13 := hid (HX_12.out.on hg (by have := HPn.out; simp; omega))
                      have HL_13 := hid (show LentK w0.heap.size w13 g cg l from ⟨HL_12.out.1.offB hg HW_12.out (by decide), HL_12.out.2⟩)
                      have HOQ_13 := hid (HOQ_12.out.offB hg HW_12.out (by decide))
                      clear hw13 hg y8 y8f
                      have HWg : Hid ((Value.slice aQ 40 cQ).ownBlock ≠ some g) := hid (fun e => by have := (own_block HOQ_13.out.2 ((ob aQ qn cQ 40 cQ).trans e)).1; have := HPn.out; omega)
                      have HJ := hid (SS.js2 HSS.out HG_13.out HS_13.out HB13.out HPn.out.2.2.2.2.2.2.2.1 ((RK.of (HOQ_13.out.below HG_10.out.size)).cut (m := 40) (by omega)))
                      have HBk : Hid (Calls Try.prog 19 #[.slice (some ⟨g, 0, none⟩) rn cg, .slice ra rn rc] w13 fun e w' => e = .returned (.bool true) ∧ w13.grownBy w' none) := hid (by
                        have h := backK_any w13 _ _ _ g cg l HL_13.out HJ.out.keys.rd HLe.out
                        rw [HN.out] at h
                        exact h)
                      have yx := HX_13.out.cell 0
                      have yr := HJ.out.r.cell 0
                      go_upto_region 50 with (first
                        | (go_at_call 19; (with_reducible refine HBk.out.mono ?_); rintro e wA ⟨rfl, hg⟩; have HJA := hid (HJ.out.keep hg); have HLA := hid (HL_13.out.keep hg); have ya := (HX_13.out.keep hg).cell 0;  have HOv : Hid (Calls Try.prog 20 #[.slice (some ⟨g, 0, none⟩) rn cg] wA fun e w' => e = .returned (.tuple #[]) ∧ wA.grownBy w' (some g)) := hid (by have h := overK_any wA _ g cg l HLA.out HLe.out; rw [HN.out] at h; exact h); have HZA2 := hid hg.size; clear hg)
                        | (go_at_call 20; (with_reducible refine HOv.out.mono ?_); rintro e wB ⟨rfl, hg⟩; have HJB := hid (by obtain ⟨cg', hb', _⟩ := HLA.out.1.blkB (g := g) rfl; exact JS.over HJA.out hb' hg (by have := HPn.out; have := HG0.out.size; omega) (by have := HPn.out; omega) (fun e => by have := HLow.out.1 g e; have := HPn.out; omega) (fun e => by have := HLow.out.2 g e; have := HPn.out; omega) HWg.out);  have yb := (HSp.out _ _ HJB.out.s).1; have HZB2 := hid hg.size; clear hg))
                      have HLen2 : Hid ((ql.take 40).length ≤ 41) := hid (by rw [List.length_take]; omega)
                      have HLenW : Hid ((ql.take 40).length ≤ 1000000) := hid (by have := HLen2.out; omega)
                      have HSzU : Hid (w0.heap.size ≤ wB.heap.size) := hid (by have := HG_13.out.size; have := HZA2.out; have := HZB2.out; omega)
                      go_upto_region 51 with (first
                        | (with_reducible refine wpList_load_part (by with_unfolding_all rfl) 69 _ (by with_unfolding_all rfl) p8 0 [.slice aQ 40 cQ, .int .u64 (qx : Nat)] _ (by with_unfolding_all rfl) HJB.out.w8.whole Try.underlying69 (by with_unfolding_all rfl) (by with_unfolding_all exact Try.size69) ?_)
                        | ((with_reducible refine wpList_store_all (by with_unfolding_all rfl) 69 _ _ (by with_unfolding_all rfl) p5 [.slice ra rn rc, .int .u64 nx] [.slice aQ 40 cQ, .int .u64 (qx : Nat)] 69 (by with_unfolding_all rfl) (by with_unfolding_all rfl) HJB.out.r (by with_unfolding_all rfl) (by with_unfolding_all exact Try.size69) (ring_one _ _ _ _) ?_); intro wH BB hg ss; have HJH := hid (JS.take HJB.out BB hg); have HZH2 := hid hg.size; clear BB hg ss))
                      have yk := (HSp.out _ _ HJH.out.s).2.2.1
                      have HAs : Hid (Calls Try.prog 17 #[.agg #[.slice aQ 40 cQ, .int .u64 qx], .int .u64 kid] wH fun e w' => e = .returned (.bool true) ∧ wH.grownBy w' none) := hid (asks_any wH _ _ (ql.take 40) qx kid HJH.out.keys.rd HLenW.out)
                      go_wp2_with (first
                        | (with_reducible refine wpList_load_partW (by with_unfolding_all rfl) 69 _ (by with_unfolding_all rfl) p5 0 [.slice aQ 40 cQ, .int .u64 (qx : Nat)] _ (by with_unfolding_all rfl) HJI.out.r.whole Try.underlying69 (by with_unfolding_all rfl) (by with_unfolding_all exact Try.size69) ?_)
                        | (with_reducible refine wpList_load_part (by with_unfolding_all rfl) 69 _ (by with_unfolding_all rfl) p5 0 [.slice aQ 40 cQ, .int .u64 (qx : Nat)] _ (by with_unfolding_all rfl) HJH.out.r.whole Try.underlying69 (by with_unfolding_all rfl) (by with_unfolding_all exact Try.size69) ?_)
                        | (go_at_call 17; (with_reducible refine HAs.out.mono ?_); rintro e wI ⟨rfl, hg⟩; have HJI := hid (HJH.out.keep hg); have HZI2 := hid hg.size; have HPl := hid (placed_any wI w.heap.size sb _ cs va vn vc lk (ql.take 40) aQ 40 cQ qx HJI.out.seat HJI.out.c4 HJI.out.row HJI.out.grown.size (fun u hu => (JS.rd HJI.out hu).rd) HLenW.out); clear hg)
                        | (go_at_call 24; go_loud ((with_reducible refine HPl.out.mono ?_); rintro e wK ⟨rfl, na, nn, nc, hO, hB, hat, hK⟩; have HDn := hid (JS.done HJI.out (by have := HSzU.out; have := HZH2.out; have := HZI2.out; omega) hK hB hO hat); clear hO hB hat hK)))
                      go_roundw
                      case rel => exact ⟨i + 1, TT, _, _, _, _, _, _, _, _, _, _, by go_num, by omega, hid (by have := HTT.out; omega), HLen2, HDn⟩
                      case measure => simp [intOf]; omega
                    · as_aux_lemma =>
                      have h40' : ¬ (40 : Int) < (qn : Int) := by omega
                      go_upto_region 38 with fail
                      clear y8 y8f
                      have HWg : Hid ((Value.slice aQ qn cQ).ownBlock ≠ some g) := hid (fun e => by have := (own_block HOQ_12.out.2 e).1; have := HPn.out; omega)
                      have HJ := hid (SS.js2 HSS.out HG_12.out HS_12.out HW_12.out HPn.out.2.2.2.2.2.2.2.1 (RK.of (HOQ_12.out.below HG_10.out.size)))
                      have HBk : Hid (Calls Try.prog 19 #[.slice (some ⟨g, 0, none⟩) rn cg, .slice ra rn rc] w12 fun e w' => e = .returned (.bool true) ∧ w12.grownBy w' none) := hid (by
                        have h := backK_any w12 _ _ _ g cg l HL_12.out HJ.out.keys.rd HLe.out
                        rw [HN.out] at h
                        exact h)
                      have yx := HX_12.out.cell 0
                      have yr := HJ.out.r.cell 0
                      go_upto_region 50 with (first
                        | (go_at_call 19; (with_reducible refine HBk.out.mono ?_); rintro e wA ⟨rfl, hg⟩; have HJA := hid (HJ.out.keep hg); have HLA := hid (HL_12.out.keep hg); have ya := (HX_12.out.keep hg).cell 0;  have HOv : Hid (Calls Try.prog 20 #[.slice (some ⟨g, 0, none⟩) rn cg] wA fun e w' => e = .returned (.tuple #[]) ∧ wA.grownBy w' (some g)) := hid (by have h := overK_any wA _ g cg l HLA.out HLe.out; rw [HN.out] at h; exact h); have HZA2 := hid hg.size; clear hg)
                        | (go_at_call 20; (with_reducible refine HOv.out.mono ?_); rintro e wB ⟨rfl, hg⟩; have HJB := hid (by obtain ⟨cg', hb', _⟩ := HLA.out.1.blkB (g := g) rfl; exact JS.over HJA.out hb' hg (by have := HPn.out; have := HG0.out.size; omega) (by have := HPn.out; omega) (fun e => by have := HLow.out.1 g e; have := HPn.out; omega) (fun e => by have := HLow.out.2 g e; have := HPn.out; omega) HWg.out);  have yb := (HSp.out _ _ HJB.out.s).1; have HZB2 := hid hg.size; clear hg))
                      have HLen2 : Hid (ql.length ≤ 41) := hid (by rw [HQn.out]; omega)
                      have HLenW : Hid (ql.length ≤ 1000000) := hid (by have := HLen2.out; omega)
                      have HSzU : Hid (w0.heap.size ≤ wB.heap.size) := hid (by have := HG_12.out.size; have := HZA2.out; have := HZB2.out; omega)
                      go_upto_region 51 with (first
                        | (with_reducible refine wpList_load_part (by with_unfolding_all rfl) 69 _ (by with_unfolding_all rfl) p8 0 [.slice aQ qn cQ, .int .u64 (qx : Nat)] _ (by with_unfolding_all rfl) HJB.out.w8.whole Try.underlying69 (by with_unfolding_all rfl) (by with_unfolding_all exact Try.size69) ?_)
                        | ((with_reducible refine wpList_store_all (by with_unfolding_all rfl) 69 _ _ (by with_unfolding_all rfl) p5 [.slice ra rn rc, .int .u64 nx] [.slice aQ qn cQ, .int .u64 (qx : Nat)] 69 (by with_unfolding_all rfl) (by with_unfolding_all rfl) HJB.out.r (by with_unfolding_all rfl) (by with_unfolding_all exact Try.size69) (ring_one _ _ _ _) ?_); intro wH BB hg ss; have HJH := hid (JS.take HJB.out BB hg); have HZH2 := hid hg.size; clear BB hg ss))
                      have yk := (HSp.out _ _ HJH.out.s).2.2.1
                      have HAs : Hid (Calls Try.prog 17 #[.agg #[.slice aQ qn cQ, .int .u64 qx], .int .u64 kid] wH fun e w' => e = .returned (.bool true) ∧ wH.grownBy w' none) := hid (asks_any wH _ _ ql qx kid HJH.out.keys.rd HLenW.out)
                      go_wp2_with (first
                        | (with_reducible refine wpList_load_partW (by with_unfolding_all rfl) 69 _ (by with_unfolding_all rfl) p5 0 [.slice aQ qn cQ, .int .u64 (qx : Nat)] _ (by with_unfolding_all rfl) HJI.out.r.whole Try.underlying69 (by with_unfolding_all rfl) (by with_unfolding_all exact Try.size69) ?_)
                        | (with_reducible refine wpList_load_part (by with_unfolding_all rfl) 69 _ (by with_unfolding_all rfl) p5 0 [.slice aQ qn cQ, .int .u64 (qx : Nat)] _ (by with_unfolding_all rfl) HJH.out.r.whole Try.underlying69 (by with_unfolding_all rfl) (by with_unfolding_all exact Try.size69) ?_)
                        | (go_at_call 17; (with_reducible refine HAs.out.mono ?_); rintro e wI ⟨rfl, hg⟩; have HJI := hid (HJH.out.keep hg); have HZI2 := hid hg.size; have HPl := hid (placed_any wI w.heap.size sb _ cs va vn vc lk ql aQ qn cQ qx HJI.out.seat HJI.out.c4 HJI.out.row HJI.out.grown.size (fun u hu => (JS.rd HJI.out hu).rd) HLenW.out); clear hg)
                        | (go_at_call 24; go_loud ((with_reducible refine HPl.out.mono ?_); rintro e wK ⟨rfl, na, nn, nc, hO, hB, hat, hK⟩; have HDn := hid (JS.done HJI.out (by have := HSzU.out; have := HZH2.out; have := HZI2.out; omega) hK hB hO hat); clear hO hB hat hK)))
                      go_roundw
                      case rel => exact ⟨i + 1, TT, _, _, _, _, _, _, _, _, _, _, by go_num, by omega, hid (by have := HTT.out; omega), HLen2, HDn⟩
                      case measure => simp [intOf]; omega
                  · skip
                    by_cases hlo : act < 1
                    · as_aux_lemma =>
                      have e1 : ¬ act = 1 := by omega
                      have e2 : ¬ act = 2 := by omega
                      have e3 : ¬ act = 3 := by omega
                      have e4 : ¬ act = 4 := by omega
                      have e5 : ¬ act = 5 := by omega
                      have e6 : ¬ act = 6 := by omega
                      have k2 : ¬ (1 : Int) ≤ act := by omega
                      have HJ := hid (SS.js HSS.out HG_10.out HS_10.out HW_10.out HPn.out.2.2.2.2.2.2.2.1)
                      have HWg : Hid ((Value.slice ra rn rc).ownBlock ≠ some g) := hid (fun e => by have := HLow.out.2 g e; have := HPn.out; omega)
                      go_upto_region 38 with fail
                      clear hact
                      have HBk : Hid (Calls Try.prog 19 #[.slice (some ⟨g, 0, none⟩) rn cg, .slice ra rn rc] w10 fun e w' => e = .returned (.bool true) ∧ w10.grownBy w' none) := hid (by
                        have h := backK_any w10 _ _ _ g cg l HL_10.out HJ.out.keys.rd HLe.out
                        rw [HN.out] at h
                        exact h)
                      have yx := HX_10.out.cell 0
                      have yr := HJ.out.r.cell 0
                      go_upto_region 50 with (first
                        | (go_at_call 19; (with_reducible refine HBk.out.mono ?_); rintro e wA ⟨rfl, hg⟩; have HJA := hid (HJ.out.keep hg); have HLA := hid (HL_10.out.keep hg); have ya := (HX_10.out.keep hg).cell 0;  have HOv : Hid (Calls Try.prog 20 #[.slice (some ⟨g, 0, none⟩) rn cg] wA fun e w' => e = .returned (.tuple #[]) ∧ wA.grownBy w' (some g)) := hid (by have h := overK_any wA _ g cg l HLA.out HLe.out; rw [HN.out] at h; exact h); have HZA2 := hid hg.size; clear hg)
                        | (go_at_call 20; (with_reducible refine HOv.out.mono ?_); rintro e wB ⟨rfl, hg⟩; have HJB := hid (by obtain ⟨cg', hb', _⟩ := HLA.out.1.blkB (g := g) rfl; exact JS.over HJA.out hb' hg (by have := HPn.out; have := HG0.out.size; omega) (by have := HPn.out; omega) (fun e => by have := HLow.out.1 g e; have := HPn.out; omega) (fun e => by have := HLow.out.2 g e; have := HPn.out; omega) HWg.out);  have yb := (HSp.out _ _ HJB.out.s).1; have HZB2 := hid hg.size; clear hg))
                      have HLen2 : Hid (l.length ≤ 41) := HLen
                      have HLenW : Hid (l.length ≤ 1000000) := hid (by have := HLen2.out; omega)
                      have HSzU : Hid (w0.heap.size ≤ wB.heap.size) := hid (by have := HG_10.out.size; have := HZA2.out; have := HZB2.out; omega)
                      go_upto_region 51 with (first
                        | (with_reducible refine wpList_load_part (by with_unfolding_all rfl) 69 _ (by with_unfolding_all rfl) p8 0 [.slice ra rn rc, .int .u64 (nx : Nat)] _ (by with_unfolding_all rfl) HJB.out.w8.whole Try.underlying69 (by with_unfolding_all rfl) (by with_unfolding_all exact Try.size69) ?_)
                        | ((with_reducible refine wpList_store_all (by with_unfolding_all rfl) 69 _ _ (by with_unfolding_all rfl) p5 [.slice ra rn rc, .int .u64 nx] [.slice ra rn rc, .int .u64 (nx : Nat)] 69 (by with_unfolding_all rfl) (by with_unfolding_all rfl) HJB.out.r (by with_unfolding_all rfl) (by with_unfolding_all exact Try.size69) (ring_one _ _ _ _) ?_); intro wH BB hg ss; have HJH := hid (JS.take HJB.out BB hg); have HZH2 := hid hg.size; clear BB hg ss))
                      have yk := (HSp.out _ _ HJH.out.s).2.2.1
                      have HAs : Hid (Calls Try.prog 17 #[.agg #[.slice ra rn rc, .int .u64 nx], .int .u64 kid] wH fun e w' => e = .returned (.bool true) ∧ wH.grownBy w' none) := hid (asks_any wH _ _ l nx kid HJH.out.keys.rd HLenW.out)
                      go_wp2_with (first
                        | (with_reducible refine wpList_load_partW (by with_unfolding_all rfl) 69 _ (by with_unfolding_all rfl) p5 0 [.slice ra rn rc, .int .u64 (nx : Nat)] _ (by with_unfolding_all rfl) HJI.out.r.whole Try.underlying69 (by with_unfolding_all rfl) (by with_unfolding_all exact Try.size69) ?_)
                        | (with_reducible refine wpList_load_part (by with_unfolding_all rfl) 69 _ (by with_unfolding_all rfl) p5 0 [.slice ra rn rc, .int .u64 (nx : Nat)] _ (by with_unfolding_all rfl) HJH.out.r.whole Try.underlying69 (by with_unfolding_all rfl) (by with_unfolding_all exact Try.size69) ?_)
                        | (go_at_call 17; (with_reducible refine HAs.out.mono ?_); rintro e wI ⟨rfl, hg⟩; have HJI := hid (HJH.out.keep hg); have HZI2 := hid hg.size; have HPl := hid (placed_any wI w.heap.size sb _ cs va vn vc lk l ra rn rc nx HJI.out.seat HJI.out.c4 HJI.out.row HJI.out.grown.size (fun u hu => (JS.rd HJI.out hu).rd) HLenW.out); clear hg)
                        | (go_at_call 24; go_loud ((with_reducible refine HPl.out.mono ?_); rintro e wK ⟨rfl, na, nn, nc, hO, hB, hat, hK⟩; have HDn := hid (JS.done HJI.out (by have := HSzU.out; have := HZH2.out; have := HZI2.out; omega) hK hB hO hat); clear hO hB hat hK)))
                      go_roundw
                      case rel => exact ⟨i + 1, TT, _, _, _, _, _, _, _, _, _, _, by go_num, by omega, hid (by have := HTT.out; omega), HLen2, HDn⟩
                      case measure => simp [intOf]; omega
                    · as_aux_lemma =>
                      have e1 : ¬ act = 1 := by omega
                      have e2 : ¬ act = 2 := by omega
                      have e3 : ¬ act = 3 := by omega
                      have e4 : ¬ act = 4 := by omega
                      have e5 : ¬ act = 5 := by omega
                      have e6 : ¬ act = 6 := by omega
                      have k2 : (1 : Int) ≤ act := by omega
                      have k3 : ¬ act ≤ 4 := by omega
                      have HJ := hid (SS.js HSS.out HG_10.out HS_10.out HW_10.out HPn.out.2.2.2.2.2.2.2.1)
                      have HWg : Hid ((Value.slice ra rn rc).ownBlock ≠ some g) := hid (fun e => by have := HLow.out.2 g e; have := HPn.out; omega)
                      go_upto_region 38 with fail
                      clear hact
                      have HBk : Hid (Calls Try.prog 19 #[.slice (some ⟨g, 0, none⟩) rn cg, .slice ra rn rc] w10 fun e w' => e = .returned (.bool true) ∧ w10.grownBy w' none) := hid (by
                        have h := backK_any w10 _ _ _ g cg l HL_10.out HJ.out.keys.rd HLe.out
                        rw [HN.out] at h
                        exact h)
                      have yx := HX_10.out.cell 0
                      have yr := HJ.out.r.cell 0
                      go_upto_region 50 with (first
                        | (go_at_call 19; (with_reducible refine HBk.out.mono ?_); rintro e wA ⟨rfl, hg⟩; have HJA := hid (HJ.out.keep hg); have HLA := hid (HL_10.out.keep hg); have ya := (HX_10.out.keep hg).cell 0;  have HOv : Hid (Calls Try.prog 20 #[.slice (some ⟨g, 0, none⟩) rn cg] wA fun e w' => e = .returned (.tuple #[]) ∧ wA.grownBy w' (some g)) := hid (by have h := overK_any wA _ g cg l HLA.out HLe.out; rw [HN.out] at h; exact h); have HZA2 := hid hg.size; clear hg)
                        | (go_at_call 20; (with_reducible refine HOv.out.mono ?_); rintro e wB ⟨rfl, hg⟩; have HJB := hid (by obtain ⟨cg', hb', _⟩ := HLA.out.1.blkB (g := g) rfl; exact JS.over HJA.out hb' hg (by have := HPn.out; have := HG0.out.size; omega) (by have := HPn.out; omega) (fun e => by have := HLow.out.1 g e; have := HPn.out; omega) (fun e => by have := HLow.out.2 g e; have := HPn.out; omega) HWg.out);  have yb := (HSp.out _ _ HJB.out.s).1; have HZB2 := hid hg.size; clear hg))
                      have HLen2 : Hid (l.length ≤ 41) := HLen
                      have HLenW : Hid (l.length ≤ 1000000) := hid (by have := HLen2.out; omega)
                      have HSzU : Hid (w0.heap.size ≤ wB.heap.size) := hid (by have := HG_10.out.size; have := HZA2.out; have := HZB2.out; omega)
                      go_upto_region 51 with (first
                        | (with_reducible refine wpList_load_part (by with_unfolding_all rfl) 69 _ (by with_unfolding_all rfl) p8 0 [.slice ra rn rc, .int .u64 (nx : Nat)] _ (by with_unfolding_all rfl) HJB.out.w8.whole Try.underlying69 (by with_unfolding_all rfl) (by with_unfolding_all exact Try.size69) ?_)
                        | ((with_reducible refine wpList_store_all (by with_unfolding_all rfl) 69 _ _ (by with_unfolding_all rfl) p5 [.slice ra rn rc, .int .u64 nx] [.slice ra rn rc, .int .u64 (nx : Nat)] 69 (by with_unfolding_all rfl) (by with_unfolding_all rfl) HJB.out.r (by with_unfolding_all rfl) (by with_unfolding_all exact Try.size69) (ring_one _ _ _ _) ?_); intro wH BB hg ss; have HJH := hid (JS.take HJB.out BB hg); have HZH2 := hid hg.size; clear BB hg ss))
                      have yk := (HSp.out _ _ HJH.out.s).2.2.1
                      have HAs : Hid (Calls Try.prog 17 #[.agg #[.slice ra rn rc, .int .u64 nx], .int .u64 kid] wH fun e w' => e = .returned (.bool true) ∧ wH.grownBy w' none) := hid (asks_any wH _ _ l nx kid HJH.out.keys.rd HLenW.out)
                      go_wp2_with (first
                        | (with_reducible refine wpList_load_partW (by with_unfolding_all rfl) 69 _ (by with_unfolding_all rfl) p5 0 [.slice ra rn rc, .int .u64 (nx : Nat)] _ (by with_unfolding_all rfl) HJI.out.r.whole Try.underlying69 (by with_unfolding_all rfl) (by with_unfolding_all exact Try.size69) ?_)
                        | (with_reducible refine wpList_load_part (by with_unfolding_all rfl) 69 _ (by with_unfolding_all rfl) p5 0 [.slice ra rn rc, .int .u64 (nx : Nat)] _ (by with_unfolding_all rfl) HJH.out.r.whole Try.underlying69 (by with_unfolding_all rfl) (by with_unfolding_all exact Try.size69) ?_)
                        | (go_at_call 17; (with_reducible refine HAs.out.mono ?_); rintro e wI ⟨rfl, hg⟩; have HJI := hid (HJH.out.keep hg); have HZI2 := hid hg.size; have HPl := hid (placed_any wI w.heap.size sb _ cs va vn vc lk l ra rn rc nx HJI.out.seat HJI.out.c4 HJI.out.row HJI.out.grown.size (fun u hu => (JS.rd HJI.out hu).rd) HLenW.out); clear hg)
                        | (go_at_call 24; go_loud ((with_reducible refine HPl.out.mono ?_); rintro e wK ⟨rfl, na, nn, nc, hO, hB, hat, hK⟩; have HDn := hid (JS.done HJI.out (by have := HSzU.out; have := HZH2.out; have := HZI2.out; omega) hK hB hO hat); clear hO hB hat hK)))
                      go_roundw
                      case rel => exact ⟨i + 1, TT, _, _, _, _, _, _, _, _, _, _, by go_num, by omega, hid (by have := HTT.out; omega), HLen2, HDn⟩
                      case measure => simp [intOf]; omega
      · as_aux_lemma =>
        have i1 : (i : Int) < (n : Int) := by omega
        have i2 : ¬ (i : Int) < 200 := by omega
        have HLk := hid HSS.out.book.look
        go_wp2_with (first
          | (go_at_call 25; (with_reducible refine HLk.out.mono ?_); rintro e q1 ⟨rfl, hb1⟩; have HQ1 := hid (gof ((gbelow HG0.out).trans hb1) none); clear hb1)
          | (go_at_call 26; (with_reducible refine (HWk.out _).mono ?_); rintro e q2 ⟨rfl, hg2⟩; have HQ2 := hid (gtrans HQ1.out hg2); clear hg2))
        go_ret
        exact ⟨rfl, HQ2.out⟩
    · as_aux_lemma =>
      have i1 : ¬ (i : Int) < (n : Int) := by omega
      have HLk := hid HSS.out.book.look
      go_wp2_with (first
        | (go_at_call 25; (with_reducible refine HLk.out.mono ?_); rintro e q1 ⟨rfl, hb1⟩; have HQ1 := hid (gof ((gbelow HG0.out).trans hb1) none); clear hb1)
        | (go_at_call 26; (with_reducible refine (HWk.out _).mono ?_); rintro e q2 ⟨rfl, hg2⟩; have HQ2 := hid (gtrans HQ1.out hg2); clear hg2))
      go_ret
      exact ⟨rfl, HQ2.out⟩
end Go.Proofs.Ytmpcpakdocaieaa.Bk
