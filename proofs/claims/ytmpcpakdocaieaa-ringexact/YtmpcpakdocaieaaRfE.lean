/- The reference's Distrust. -/
import Derived.Test.YtmpcpakdocaieaaRfD
namespace Go.Proofs.Ytmpcpakdocaieaa
open Go Go.RowKit
open Go.RowKit (wrap32 wrap64)

theorem disR_no {l : List Ky} {nx kid : Nat} {sec : List UInt8} (h : disE l nx kid ≠ 0) : disR l nx kid sec = ([], 0) := by unfold disR; rw [if_neg h]
theorem disR_yes {l : List Ky} {nx kid : Nat} {sec : List UInt8} {q : Ky} (h : disE l nx kid = 0) (hq : findK l kid = some q) : disR l nx kid sec = disK l nx sec q := by unfold disR; rw [if_pos h, hq]
theorem find_kid {l : List Ky} {kid : Nat} {q : Ky} (h : findK l kid = some q) : q ∈ l ∧ q.kid = kid := by
  have h1 := List.find?_some h
  exact ⟨List.mem_of_find?_eq_some h, by simpa using h1⟩
set_option maxRecDepth 100000 in
set_option maxHeartbeats 6400000 in
theorem rdis_any (w : World) (v : Value) (F : Nat → Prop) (l : List Ky) (nx kid : Nat) (sec : List UInt8) (hv : RdK w F v l) (hl : l.length ≤ 1099511627776) (hs : sec.length = 32) :
    Calls Try.prog 15 #[.agg #[v, .int .u64 nx], .int .u64 kid, .agg (Lib.byteCells sec).toArray] w fun e w' => ∃ a c, e = .returned (.tuple #[.agg #[.slice a (disR l nx kid sec).1.length c, .int .u64 (disR l nx kid sec).2], .int .i64 (disE l nx kid)]) ∧ OutK w.heap.size w' (.slice a (disR l nx kid sec).1.length c) (disR l nx kid sec).1 ∧ w.grownBy w' none := by
  have HV := hid hv
  obtain ⟨ho, a, b, off, c, rfl, hc, Ha, Hc⟩ := hv.open
  obtain ⟨n, HN⟩ : ∃ n, Hid (l.length = n) := ⟨_, hid rfl⟩
  obtain ⟨g, HGd⟩ : ∃ g, Hid (isRing l nx = g) := ⟨_, hid rfl⟩
  have HO := hid ho
  have HCk : Hid (∀ u, w.grownBy u none → Calls Try.prog 34 #[.agg #[.slice a n c, .int .u64 nx]] u fun e w' => e = .returned (.int .i64 (if g = true then 0 else 50)) ∧ u.grownBy w' none) := fun u hu => by
    have := rchk_any u _ F l nx (HV.out.keep hu) hl
    unfold chk at this
    rw [HGd.out, HN.out] at this
    exact this
  obtain ⟨ts, HTS⟩ : ∃ x, Hid (Lib.byteCells sec = x) := ⟨_, hid rfl⟩
  have HTl : Hid (ts.length = 32) := hid (by rw [← HTS.out, byteCells_length]; exact hs)
  have HSc := hid hs
  have HOk := hid HO.out
  have HFd : Hid (∀ u, w.grownBy u none → Calls Try.prog 38 #[.agg #[.slice a n c, .int .u64 nx], .int .u64 kid] u fun e w' => e = .returned (.tuple #[.agg (keyOr (fnd l nx kid)).cells.toArray, .bool (fnd l nx kid).isSome]) ∧ u.grownBy w' none) := fun u hu => by
    have := rfnd_any u _ F l nx kid (HV.out.keep hu) hl
    rw [HN.out] at this
    exact this
  rw [HN.out, HTS.out]
  rw [HN.out] at HV hl
  clear hv hc ho hs HO
  cases g with
  | false =>
    have he : disE l nx kid = 50 := by unfold disE; rw [HGd.out, if_neg (by decide)]
    rw [disR_no (by rw [he]; decide), he]
    rw [if_neg (by decide)] at HCk
    show Calls Try.prog 15 _ w fun e w' => ∃ a c, e = .returned (.tuple #[.agg #[.slice a 0 c, .int .u64 0], .int .i64 50]) ∧ OutK w.heap.size w' (.slice a 0 c) [] ∧ w.grownBy w' none
    clear he
    go_enter Try.func15, Try.ntmps15
    go_wp2_with (first
      | ((with_reducible refine wpList_box_row (by with_unfolding_all rfl) 69 _ (by with_unfolding_all rfl) [.slice a n c, .int .u64 nx] (by with_unfolding_all rfl) ?_); intro w1 B1 s1 g1; have HB1 := hid B1; have HG1 := hid g1; clear B1 s1 g1)
      | ((with_reducible refine wpList_box_row (by with_unfolding_all rfl) 70 _ (by with_unfolding_all rfl) ts (by with_unfolding_all rfl) ?_); intro w2 B2 s2 g2; have HS2 := hid B2; have HB2 := hid (HB1.out.keep g2); have HG2 := hid (gtrans HG1.out g2); clear B2 s2 g2)
      | ((with_reducible refine wpList_alloc_row (by with_unfolding_all rfl) 69 (by with_unfolding_all rfl) [.slice none 0 0, .int .u64 0] Try.zero69 ?_); intro w3 B3 s3 g3; have HA3 := hid B3; have HS3 := hid (HS2.out.keep g3); have HB3 := hid (HB2.out.keep g3); have HG3 := hid (gtrans HG2.out g3); clear B3 s3 g3)
      | (with_reducible refine wpList_load_part (by with_unfolding_all rfl) 69 _ (by with_unfolding_all rfl) w.heap.size 0 [.slice a n c, .int .u64 nx] _ (by with_unfolding_all rfl) HB3.out.whole Try.underlying69 (by with_unfolding_all rfl) (by with_unfolding_all exact Try.size69) ?_)
      | (go_at_call 34; (with_reducible refine (HCk.out _ HG3.out).mono ?_); rintro e w4 ⟨rfl, hg4⟩; have HA4 := hid (HA3.out.keep hg4); have HS4 := hid (HS3.out.keep hg4); have HB4 := hid (HB3.out.keep hg4); have HG4 := hid (gtrans HG3.out hg4); have y0 := HB4.out.cell 0; have y1 := HB4.out.cell 1; clear hg4)
      | (with_reducible refine wpList_build_row (by with_unfolding_all rfl) 69 (by with_unfolding_all rfl) [.slice none 0 0, .int .u64 0] Try.built69 ?_)
      | ((with_reducible refine wpList_store_all (by with_unfolding_all rfl) 69 _ _ (by with_unfolding_all rfl) _ [.slice none 0 0, .int .u64 0] [.slice none 0 0, .int .u64 0] 69 (by with_unfolding_all rfl) (by with_unfolding_all rfl) HA4.out (by with_unfolding_all rfl) (by with_unfolding_all exact Try.size69) (ring_one _ _ _ _) ?_); intro w5 B5 g5 s5; have HA5 := hid B5; have HG5 := hid (HG4.out.andThen g5 (fun j hj => .inl (by injection hj with hj; have := HG2.out.size; omega))); clear B5 g5 s5))
    refine bodyPost_ret (v := .tuple #[.agg #[.slice none 0 0, .int .u64 0], .int .i64 50]) (results_blk_tmp rfl _ w2.heap.size 69 [.slice none 0 0, .int .u64 0] _ (.int .i64 50) rfl rfl HA5.out Try.underlying69 rfl (by with_unfolding_all exact Try.size69)) rfl ?_
    exact ⟨none, 0, rfl, OutK.nil _ _, HG5.out⟩
  | true =>
    have hp := goodL_pos (isRing_good HGd.out).1
    have hx3 := (isRing_good HGd.out).2.2
    rw [HN.out] at hp
    rw [if_pos rfl] at HCk
    have HFf : Hid (fnd l nx kid = findK l kid) := hid (by unfold fnd; rw [HGd.out, if_pos rfl])
    rw [HFf.out] at HFd
    obtain ⟨rfl, -⟩ := Ha.out (by rw [HN.out]; omega)
    obtain ⟨m, rfl⟩ : ∃ m, n = m + 1 := ⟨n - 1, by omega⟩
    have hm8 : m ≤ 8 := by omega
    obtain ⟨X, hX⟩ : ∃ x : Int, (nx : Int) = x := ⟨_, rfl⟩
    cases hfd : findK l kid with
    | none =>
      have he : disE l nx kid = 53 := by unfold disE; rw [HGd.out, if_pos rfl, hfd]
      rw [disR_no (by rw [he]; decide), he]
      rw [hfd] at HFd
      show Calls Try.prog 15 _ w fun e w' => ∃ a c, e = .returned (.tuple #[.agg #[.slice a 0 c, .int .u64 0], .int .i64 53]) ∧ OutK w.heap.size w' (.slice a 0 c) [] ∧ w.grownBy w' none
      rw [hX] at HCk HFd ⊢
      clear he hfd hX hx3 hp
      go_enter Try.func15, Try.ntmps15
      go_wp2_with (first
        | ((with_reducible refine wpList_box_row (by with_unfolding_all rfl) 69 _ (by with_unfolding_all rfl) [.slice (some ⟨b, off, none⟩) (m + 1) c, .int .u64 X] (by with_unfolding_all rfl) ?_); intro w1 B1 s1 g1; have HB1 := hid B1; have HG1 := hid g1; clear B1 s1 g1)
        | ((with_reducible refine wpList_box_row (by with_unfolding_all rfl) 70 _ (by with_unfolding_all rfl) ts (by with_unfolding_all rfl) ?_); intro w2 B2 s2 g2; have HS2 := hid B2; have HB2 := hid (HB1.out.keep g2); have HG2 := hid (gtrans HG1.out g2); clear B2 s2 g2)
        | ((with_reducible refine wpList_alloc_row (by with_unfolding_all rfl) 69 (by with_unfolding_all rfl) [.slice none 0 0, .int .u64 0] Try.zero69 ?_); intro w3 B3 s3 g3; have HA3 := hid B3; have HS3 := hid (HS2.out.keep g3); have HB3 := hid (HB2.out.keep g3); have HG3 := hid (gtrans HG2.out g3); clear B3 s3 g3)
        | (with_reducible refine wpList_load_part (by with_unfolding_all rfl) 69 _ (by with_unfolding_all rfl) w.heap.size 0 [.slice (some ⟨b, off, none⟩) (m + 1) c, .int .u64 X] _ (by with_unfolding_all rfl) HB4.out.whole Try.underlying69 (by with_unfolding_all rfl) (by with_unfolding_all exact Try.size69) ?_)
        | (with_reducible refine wpList_load_part (by with_unfolding_all rfl) 69 _ (by with_unfolding_all rfl) w.heap.size 0 [.slice (some ⟨b, off, none⟩) (m + 1) c, .int .u64 X] _ (by with_unfolding_all rfl) HB3.out.whole Try.underlying69 (by with_unfolding_all rfl) (by with_unfolding_all exact Try.size69) ?_)
        | (go_at_call 34; (with_reducible refine (HCk.out _ HG3.out).mono ?_); rintro e w4 ⟨rfl, hg4⟩; have HA4 := hid (HA3.out.keep hg4); have HS4 := hid (HS3.out.keep hg4); have HB4 := hid (HB3.out.keep hg4); have HG4 := hid (gtrans HG3.out hg4); have y0 := HB4.out.cell 0; have y1 := HB4.out.cell 1; clear hg4)
        | (go_at_call 38; (with_reducible refine (HFd.out _ HG4.out).mono ?_); rintro e w5 ⟨rfl, hg5⟩; have HA5 := hid (HA4.out.keep hg5); have HS5 := hid (HS4.out.keep hg5); have HB5 := hid (HB4.out.keep hg5); have HG5 := hid (gtrans HG4.out hg5); clear hg5)
        | (have := HA5; clear this; (with_reducible refine wpList_alloc_row (by with_unfolding_all rfl) 107 (by with_unfolding_all rfl) zky.cells Try.zero107 ?_); intro w6 B6 s6 g6; have HQ6 := hid B6; have HA6 := hid (HA5.out.keep g6); have HS6 := hid (HS5.out.keep g6); have HB6 := hid (HB5.out.keep g6); have HG6 := hid (gtrans HG5.out g6); clear B6 s6 g6)
        | ((with_reducible refine wpList_store_all (by with_unfolding_all rfl) 107 _ _ (by with_unfolding_all rfl) _ zky.cells zky.cells 107 (by with_unfolding_all rfl) (by with_unfolding_all rfl) HQ6.out (by with_unfolding_all rfl) (by with_unfolding_all exact Try.size107) (Ky.one _) ?_); intro w7 B7 g7 s7; have HA7 := hid (HA6.out.on g7 (by have := HA5.out.lt; simp; omega)); have HS7 := hid (HS6.out.on g7 (by have := HS5.out.lt; simp; omega)); have HB7 := hid (HB6.out.on g7 (by have := HB5.out.lt; simp; omega)); have HG7 := hid (HG6.out.andThen g7 (fun j hj => .inl (by injection hj with hj; have := HG5.out.size; omega))); have y0 := HB7.out.cell 0; have y1 := HB7.out.cell 1; clear B7 g7 s7)
        | (with_reducible refine wpList_build_row (by with_unfolding_all rfl) 69 (by with_unfolding_all rfl) [.slice none 0 0, .int .u64 0] Try.built69 ?_)
        | (have := HA7; clear this; (with_reducible refine wpList_store_all (by with_unfolding_all rfl) 69 _ _ (by with_unfolding_all rfl) _ [.slice none 0 0, .int .u64 0] [.slice none 0 0, .int .u64 0] 69 (by with_unfolding_all rfl) (by with_unfolding_all rfl) HA7.out (by with_unfolding_all rfl) (by with_unfolding_all exact Try.size69) (ring_one _ _ _ _) ?_); intro w8 B8 g8 s8; have HA8 := hid B8; have HG8 := hid (HG7.out.andThen g8 (fun j hj => .inl (by injection hj with hj; have := HG2.out.size; omega))); clear B8 g8 s8))
      refine bodyPost_ret (v := .tuple #[.agg #[.slice none 0 0, .int .u64 0], .int .i64 53]) (results_blk_tmp rfl _ w2.heap.size 69 [.slice none 0 0, .int .u64 0] _ (.int .i64 53) rfl rfl HA8.out Try.underlying69 rfl (by with_unfolding_all exact Try.size69)) rfl ?_
      exact ⟨none, 0, rfl, OutK.nil _ _, HG8.out⟩
    | some q =>
      obtain ⟨hqm, hqk⟩ := find_kid hfd
      obtain ⟨i0, hrg⟩ := isRing_rg HGd.out
      have HKe : Hid (∀ k ∈ l, (!(k == q)) = !decide (k.kid = kid)) := hid (fun k hk => by
        congr 1
        rw [Bool.eq_iff_iff, beq_iff_eq, decide_eq_true_eq]
        exact ⟨fun e => by rw [e]; exact hqk, fun e => hrg.kid_inj hk hqm (by rw [e, hqk])⟩)
      have HQl : Hid (q.cells.length = 34) := hid (Ky.cells_length (HOk.out q hqm).2.1)
      rw [hfd] at HFd
      have hlm := last_at HN.out
      obtain ⟨hml, hme⟩ := List.getElem?_eq_some_iff.1 hlm
      have HLc : Hid (∀ u, w.grownBy u none → u.cell? ⟨b, off + m * 34, none⟩ = some (.int .u64 (lastK l).kid)) := hid (fun u hu => by
        have := (Ky.at_ (HOk.out _ (List.getElem_mem hml)) (Hc.out u hu m hml).1).1
        rw [hme] at this
        exact this)
      have hcur : (q == lastK l) = decide ((lastK l).kid = kid) := by
        have hlm2 : lastK l ∈ l := List.mem_of_getElem? hlm
        rw [Bool.eq_iff_iff, beq_iff_eq, decide_eq_true_eq]
        exact ⟨fun e => by rw [← e]; exact hqk, fun e => hrg.kid_inj hqm hlm2 (by rw [e, hqk])⟩
      obtain ⟨LK, hLK⟩ : ∃ x, (lastK l).kid = x := ⟨_, rfl⟩
      rw [hLK] at HLc hcur
      obtain ⟨FL, HFL⟩ : ∃ x, Hid (l.filter (fun k => !(k == q)) = x) := ⟨_, hid rfl⟩
      have HBu : Hid (Try.prog.built 107 [(0, .int .u64 (nx : Int)), (1, .agg ts.toArray)] = some (Ky.mk nx sec 0).cells.toArray) := hid (by rw [← HTS.out]; exact built_kid nx sec HSc.out)
      have HKo : Hid ((Ky.mk nx sec 0).ok) := hid ⟨by show nx < _; omega, HSc.out, by show -9223372036854775808 ≤ (0 : Int); omega, by show (0 : Int) ≤ _; omega⟩
      have HCl : Hid (∀ u, w.grownBy u none → u.cell? ⟨b, off + m * 34, none⟩ = some (.int .u64 (LK : Int))) := HLc
      clear hlm hml hme HLc
      by_cases hc1 : LK = kid
      · rw [decide_eq_true hc1] at hcur
        by_cases hx : nx = 9223372036854775807
        · have he : disE l nx kid = 51 := by unfold disE; rw [HGd.out, if_pos rfl, hfd]; simp only []; rw [hcur, decide_eq_true hx]; rfl
          rw [disR_no (by rw [he]; decide), he]
          show Calls Try.prog 15 _ w fun e w' => ∃ a c, e = .returned (.tuple #[.agg #[.slice a 0 c, .int .u64 0], .int .i64 51]) ∧ OutK w.heap.size w' (.slice a 0 c) [] ∧ w.grownBy w' none
          have hx' : (9223372036854775807 : Int) ≤ X := by omega
          rw [hX] at HCk HFd ⊢
          have hc9 := hc1.symm
          clear hc1
          subst hc9
          clear he hfd hX hx3 hp hx hcur hqm hqk hrg
          as_aux_lemma =>
          go_enter Try.func15, Try.ntmps15
          go_upto_region 7 with (first
            | ((with_reducible refine wpList_box_row (by with_unfolding_all rfl) 69 _ (by with_unfolding_all rfl) [.slice (some ⟨b, off, none⟩) (m + 1) c, .int .u64 X] (by with_unfolding_all rfl) ?_); intro w1 B1 s1 g1; have HB1 := hid B1; have HG1 := hid g1; clear B1 s1 g1)
            | ((with_reducible refine wpList_box_row (by with_unfolding_all rfl) 70 _ (by with_unfolding_all rfl) ts (by with_unfolding_all rfl) ?_); intro w2 B2 s2 g2; have HS2 := hid B2; have HB2 := hid (HB1.out.keep g2); have HG2 := hid (gtrans HG1.out g2); clear B2 s2 g2)
            | ((with_reducible refine wpList_alloc_row (by with_unfolding_all rfl) 69 (by with_unfolding_all rfl) [.slice none 0 0, .int .u64 0] Try.zero69 ?_); intro w3 B3 s3 g3; have HA3 := hid B3; have HS3 := hid (HS2.out.keep g3); have HB3 := hid (HB2.out.keep g3); have HG3 := hid (gtrans HG2.out g3); clear B3 s3 g3)
            | (with_reducible refine wpList_load_part (by with_unfolding_all rfl) 69 _ (by with_unfolding_all rfl) w.heap.size 0 [.slice (some ⟨b, off, none⟩) (m + 1) c, .int .u64 X] _ (by with_unfolding_all rfl) HB4.out.whole Try.underlying69 (by with_unfolding_all rfl) (by with_unfolding_all exact Try.size69) ?_)
            | (with_reducible refine wpList_load_part (by with_unfolding_all rfl) 69 _ (by with_unfolding_all rfl) w.heap.size 0 [.slice (some ⟨b, off, none⟩) (m + 1) c, .int .u64 X] _ (by with_unfolding_all rfl) HB3.out.whole Try.underlying69 (by with_unfolding_all rfl) (by with_unfolding_all exact Try.size69) ?_)
            | (go_at_call 34; (with_reducible refine (HCk.out _ HG3.out).mono ?_); rintro e w4 ⟨rfl, hg4⟩; have HA4 := hid (HA3.out.keep hg4); have HS4 := hid (HS3.out.keep hg4); have HB4 := hid (HB3.out.keep hg4); have HG4 := hid (gtrans HG3.out hg4); have y0 := HB4.out.cell 0; have y1 := HB4.out.cell 1; clear hg4)
            | (go_at_call 38; (with_reducible refine (HFd.out _ HG4.out).mono ?_); rintro e w5 ⟨rfl, hg5⟩; have HA5 := hid (HA4.out.keep hg5); have HS5 := hid (HS4.out.keep hg5); have HB5 := hid (HB4.out.keep hg5); have HG5 := hid (gtrans HG4.out hg5); clear hg5)
            | (have := HA5; clear this; (with_reducible refine wpList_alloc_row (by with_unfolding_all rfl) 107 (by with_unfolding_all rfl) zky.cells Try.zero107 ?_); intro w6 B6 s6 g6; have HQ6 := hid B6; have HA6 := hid (HA5.out.keep g6); have HS6 := hid (HS5.out.keep g6); have HB6 := hid (HB5.out.keep g6); have HG6 := hid (gtrans HG5.out g6); clear B6 s6 g6)
            | ((with_reducible refine wpList_store_all (by with_unfolding_all rfl) 107 _ _ (by with_unfolding_all rfl) _ zky.cells q.cells 107 (by with_unfolding_all rfl) (by with_unfolding_all rfl) HQ6.out (by rw [HQl.out]; with_unfolding_all rfl) (by rw [HQl.out]; exact Try.size107) (Ky.one _) ?_); intro w7 B7 g7 s7; have HA7 := hid (HA6.out.on g7 (by have := HA5.out.lt; simp; omega)); have HS7 := hid (HS6.out.on g7 (by have := HS5.out.lt; simp; omega)); have HB7 := hid (HB6.out.on g7 (by have := HB5.out.lt; simp; omega)); have HG7 := hid (HG6.out.andThen g7 (fun j hj => .inl (by injection hj with hj; have := HG5.out.size; omega))); have y0 := HB7.out.cell 0; have y1 := HB7.out.cell 1; clear B7 g7 s7))
          have y9 := HCl.out _ HG7.out
          go_wp2_with (first
            | (with_reducible refine wpList_build_row (by with_unfolding_all rfl) 69 (by with_unfolding_all rfl) [.slice none 0 0, .int .u64 0] Try.built69 ?_)
            | (have := HA7; clear this; (with_reducible refine wpList_store_all (by with_unfolding_all rfl) 69 _ _ (by with_unfolding_all rfl) _ [.slice none 0 0, .int .u64 0] [.slice none 0 0, .int .u64 0] 69 (by with_unfolding_all rfl) (by with_unfolding_all rfl) HA7.out (by with_unfolding_all rfl) (by with_unfolding_all exact Try.size69) (ring_one _ _ _ _) ?_); intro w8 B8 g8 s8; have HA8 := hid B8; have HG8 := hid (HG7.out.andThen g8 (fun j hj => .inl (by injection hj with hj; have := HG2.out.size; omega))); clear B8 g8 s8))
          refine bodyPost_ret (v := .tuple #[.agg #[.slice none 0 0, .int .u64 0], .int .i64 51]) (results_blk_tmp rfl _ w2.heap.size 69 [.slice none 0 0, .int .u64 0] _ (.int .i64 51) rfl rfl HA8.out Try.underlying69 rfl (by with_unfolding_all exact Try.size69)) rfl ?_
          exact ⟨none, 0, rfl, OutK.nil _ _, HG8.out⟩
        · have he : disE l nx kid = 0 := by unfold disE; rw [HGd.out, if_pos rfl, hfd]; simp only []; rw [hcur, decide_eq_false hx]; rfl
          rw [disR_yes he hfd, he]
          have hdk : disK l nx sec q = (FL ++ [⟨nx, sec, 0⟩], nx + 1) := by unfold disK; rw [hcur, if_pos rfl, HFL.out]
          rw [hdk]
          have hx' : ¬ (9223372036854775807 : Int) ≤ X := by omega
          have hwr : IntKind.u64.wrap (X + 1) = X + 1 := by rw [IntKind.wrap_u64]; omega
          show Calls Try.prog 15 _ w fun e w' => ∃ a c, e = .returned (.tuple #[.agg #[.slice a (FL ++ [(⟨nx, sec, 0⟩ : Ky)]).length c, .int .u64 ((nx + 1 : Nat) : Int)], .int .i64 0]) ∧ OutK w.heap.size w' (.slice a (FL ++ [(⟨nx, sec, 0⟩ : Ky)]).length c) (FL ++ [⟨nx, sec, 0⟩]) ∧ w.grownBy w' none
          rw [show ((nx + 1 : Nat) : Int) = (nx : Int) + 1 by omega]
          rw [hX] at HCk HFd HBu ⊢
          have hc9 := hc1.symm
          clear hc1
          subst hc9
          clear he hfd hX hx3 hp hx hcur hqm hqk hrg hdk
          as_aux_lemma =>
          go_enter Try.func15, Try.ntmps15
          go_upto_region 7 with (first
            | ((with_reducible refine wpList_box_row (by with_unfolding_all rfl) 69 _ (by with_unfolding_all rfl) [.slice (some ⟨b, off, none⟩) (m + 1) c, .int .u64 X] (by with_unfolding_all rfl) ?_); intro w1 B1 s1 g1; have HB1 := hid B1; have HG1 := hid g1; clear B1 s1 g1)
            | ((with_reducible refine wpList_box_row (by with_unfolding_all rfl) 70 _ (by with_unfolding_all rfl) ts (by with_unfolding_all rfl) ?_); intro w2 B2 s2 g2; have HS2 := hid B2; have HB2 := hid (HB1.out.keep g2); have HG2 := hid (gtrans HG1.out g2); clear B2 s2 g2)
            | ((with_reducible refine wpList_alloc_row (by with_unfolding_all rfl) 69 (by with_unfolding_all rfl) [.slice none 0 0, .int .u64 0] Try.zero69 ?_); intro w3 B3 s3 g3; have HA3 := hid B3; have HS3 := hid (HS2.out.keep g3); have HB3 := hid (HB2.out.keep g3); have HG3 := hid (gtrans HG2.out g3); clear B3 s3 g3)
            | (with_reducible refine wpList_load_part (by with_unfolding_all rfl) 69 _ (by with_unfolding_all rfl) w.heap.size 0 [.slice (some ⟨b, off, none⟩) (m + 1) c, .int .u64 X] _ (by with_unfolding_all rfl) HB4.out.whole Try.underlying69 (by with_unfolding_all rfl) (by with_unfolding_all exact Try.size69) ?_)
            | (with_reducible refine wpList_load_part (by with_unfolding_all rfl) 69 _ (by with_unfolding_all rfl) w.heap.size 0 [.slice (some ⟨b, off, none⟩) (m + 1) c, .int .u64 X] _ (by with_unfolding_all rfl) HB3.out.whole Try.underlying69 (by with_unfolding_all rfl) (by with_unfolding_all exact Try.size69) ?_)
            | (go_at_call 34; (with_reducible refine (HCk.out _ HG3.out).mono ?_); rintro e w4 ⟨rfl, hg4⟩; have HA4 := hid (HA3.out.keep hg4); have HS4 := hid (HS3.out.keep hg4); have HB4 := hid (HB3.out.keep hg4); have HG4 := hid (gtrans HG3.out hg4); have y0 := HB4.out.cell 0; have y1 := HB4.out.cell 1; clear hg4)
            | (go_at_call 38; (with_reducible refine (HFd.out _ HG4.out).mono ?_); rintro e w5 ⟨rfl, hg5⟩; have HA5 := hid (HA4.out.keep hg5); have HS5 := hid (HS4.out.keep hg5); have HB5 := hid (HB4.out.keep hg5); have HG5 := hid (gtrans HG4.out hg5); clear hg5)
            | (have := HA5; clear this; (with_reducible refine wpList_alloc_row (by with_unfolding_all rfl) 107 (by with_unfolding_all rfl) zky.cells Try.zero107 ?_); intro w6 B6 s6 g6; have HQ6 := hid B6; have HA6 := hid (HA5.out.keep g6); have HS6 := hid (HS5.out.keep g6); have HB6 := hid (HB5.out.keep g6); have HG6 := hid (gtrans HG5.out g6); clear B6 s6 g6)
            | ((with_reducible refine wpList_store_all (by with_unfolding_all rfl) 107 _ _ (by with_unfolding_all rfl) _ zky.cells q.cells 107 (by with_unfolding_all rfl) (by with_unfolding_all rfl) HQ6.out (by rw [HQl.out]; with_unfolding_all rfl) (by rw [HQl.out]; exact Try.size107) (Ky.one _) ?_); intro w7 B7 g7 s7; have HA7 := hid (HA6.out.on g7 (by have := HA5.out.lt; simp; omega)); have HS7 := hid (HS6.out.on g7 (by have := HS5.out.lt; simp; omega)); have HB7 := hid (HB6.out.on g7 (by have := HB5.out.lt; simp; omega)); have HG7 := hid (HG6.out.andThen g7 (fun j hj => .inl (by injection hj with hj; have := HG5.out.size; omega))); have y0 := HB7.out.cell 0; have y1 := HB7.out.cell 1; clear B7 g7 s7)
            | (with_reducible refine wpList_build_ofW (by with_unfolding_all rfl) 69 _ (by with_unfolding_all rfl) [(1, .int .u64 X)] (by with_unfolding_all rfl) [.slice none 0 0, .int .u64 X] (built_next X) ?_)
            | (have := HA7; clear this; (with_reducible refine wpList_alloc_row (by with_unfolding_all rfl) 69 (by with_unfolding_all rfl) [.slice none 0 0, .int .u64 0] Try.zero69 ?_); intro w8 B8 s8 g8; have HX8 := hid B8; have HA8 := hid (HA7.out.keep g8); have HB8 := hid (HB7.out.keep g8); have HS8 := hid (HS7.out.keep g8); have HG8 := hid (gtrans HG7.out g8); clear B8 s8 g8)
            | ((with_reducible refine wpList_store_all (by with_unfolding_all rfl) 69 _ _ (by with_unfolding_all rfl) _ [.slice none 0 0, .int .u64 0] [.slice none 0 0, .int .u64 X] 69 (by with_unfolding_all rfl) (by with_unfolding_all rfl) HX8.out (by with_unfolding_all rfl) (by with_unfolding_all exact Try.size69) (ring_one _ _ _ _) ?_); intro w9 B9 g9 s9; have HX9 := hid B9; have HA9 := hid (HA8.out.on g9 (by have := HA7.out.lt; simp; omega)); have HB9 := hid (HB8.out.on g9 (by have := HB7.out.lt; simp; omega)); have HS9 := hid (HS8.out.on g9 (by have := HS7.out.lt; simp; omega)); have HG9 := hid (HG8.out.andThen g9 (fun j hj => .inl (by injection hj with hj; have := HG7.out.size; omega))); clear B9 g9 s9))
          have y9 := HCl.out _ HG7.out
          go_upto_region 11 with (first
            | (with_reducible refine wpList_build_ofW (by with_unfolding_all rfl) 69 _ (by with_unfolding_all rfl) [(1, .int .u64 X)] (by with_unfolding_all rfl) [.slice none 0 0, .int .u64 X] (built_next X) ?_)
            | (have := HA7; clear this; (with_reducible refine wpList_alloc_row (by with_unfolding_all rfl) 69 (by with_unfolding_all rfl) [.slice none 0 0, .int .u64 0] Try.zero69 ?_); intro w8 B8 s8 g8; have HX8 := hid B8; have HA8 := hid (HA7.out.keep g8); have HB8 := hid (HB7.out.keep g8); have HS8 := hid (HS7.out.keep g8); have HG8 := hid (gtrans HG7.out g8); clear B8 s8 g8)
            | ((with_reducible refine wpList_store_all (by with_unfolding_all rfl) 69 _ _ (by with_unfolding_all rfl) _ [.slice none 0 0, .int .u64 0] [.slice none 0 0, .int .u64 X] 69 (by with_unfolding_all rfl) (by with_unfolding_all rfl) HX8.out (by with_unfolding_all rfl) (by with_unfolding_all exact Try.size69) (ring_one _ _ _ _) ?_); intro w9 B9 g9 s9; have HX9 := hid B9; have HA9 := hid (HA8.out.on g9 (by have := HA7.out.lt; simp; omega)); have HB9 := hid (HB8.out.on g9 (by have := HB7.out.lt; simp; omega)); have HS9 := hid (HS8.out.on g9 (by have := HS7.out.lt; simp; omega)); have HG9 := hid (HG8.out.andThen g9 (fun j hj => .inl (by injection hj with hj; have := HG7.out.size; omega))); clear B9 g9 s9))
          clear y0 y1 y9
          obtain ⟨p2, hp2⟩ : ∃ x, w.heap.size = x := ⟨_, rfl⟩
          obtain ⟨pS, hpS⟩ : ∃ x, w1.heap.size = x := ⟨_, rfl⟩
          obtain ⟨p4, hp4⟩ : ∃ x, w2.heap.size = x := ⟨_, rfl⟩
          obtain ⟨p8, hp8⟩ : ∃ x, w5.heap.size = x := ⟨_, rfl⟩
          obtain ⟨p5, hp5⟩ : ∃ x, w7.heap.size = x := ⟨_, rfl⟩
          rw [hp2] at HB9
          rw [hpS] at HS9
          rw [hp4] at HA9
          rw [hp5] at HX9
          simp only [hp2, hpS, hp4, hp8, hp5]
          have HPn : Hid (w.heap.size ≤ p2 ∧ w.heap.size ≤ p4 ∧ w.heap.size ≤ p5 ∧ w.heap.size ≤ pS ∧ p5 ≠ p2 ∧ p5 ≠ p4 ∧ p5 ≠ pS) := hid (by
            have h1 := HG1.out.size
            have h2 := HG2.out.size
            have h7 := HG7.out.size
            have h4 := HB7.out.lt
            have h6 := HA7.out.lt
            have h8 := HS7.out.lt
            omega)
          have HS9' : Hid (Blk w9 p2 [.slice (some ⟨b, off, none⟩) (m + 1) c, .int .u64 X] 69) := HB9
          have HSe9 : Hid (Blk w9 pS ts 70) := HS9
          clear hp2 hpS hp4 hp8 hp5 HB1 HB2 HB3 HB4 HB5 HB6 HB7 HB8 HB9 HA3 HA4 HA5 HA6 HA7 HA8 HS2 HS3 HS4 HS5 HS6 HS7 HS8 HS9 HX8 HQ6 HG1 HG2 HG3 HG4 HG5 HG6 HG7 HG8
          have HOn : Hid (OutK w.heap.size w9 (.slice none 0 0) []) := hid (OutK.nil _ _)
          go_wp2_with fail
          go_loopw [13] (fun iv wr => ∃ (i : Nat) (acc : List Ky) (ax : Option Addr) (nn cx : Nat), iv = .int .i64 i ∧ i ≤ m + 1 ∧ Hid (acc.length ≤ i) ∧ Hid (acc.length = nn) ∧ Hid (FL = acc ++ (l.drop i).filter (fun k => !(k == q))) ∧ Hid (Blk wr p5 [.slice ax nn cx, .int .u64 X] 69) ∧ Hid (Blk wr p2 [.slice (some ⟨b, off, none⟩) (m + 1) c, .int .u64 X] 69) ∧ Hid (Blk wr p4 [.slice none 0 0, .int .u64 0] 69) ∧ Hid (OutK w.heap.size wr (.slice ax nn cx) acc) ∧ Hid (Blk wr pS ts 70) ∧ Hid (w.grownBy wr none)) (fun iv _ => m + 1 - (intOf iv).toNat)
          case atStart => exact ⟨0, [], none, 0, 0, rfl, Nat.zero_le _, hid (Nat.le_refl _), hid rfl, hid HFL.out.symm, HX9, HS9', HA9, HOn, HSe9, HG9⟩
          case round =>
            clear HX9 HS9' HA9 HOn HG9 HSe9
            obtain ⟨i, acc, ax, nn, cx, rfl, hi, HAl, HNn, HAc, HX, HS, HA, HO, HSe, HG⟩ := hrel
            have x0 := HS.out.cell 0
            by_cases hlt : i < m + 1
            · have hlt' : (i : Int) < (m : Int) + 1 := by omega
              have hil : i < l.length := by rw [HN.out]; exact hlt
              have hok := HOk.out _ (List.getElem_mem hil)
              have hke := HKe.out _ (List.getElem_mem hil)
              have HRq := hid (fun u (hu : w.grownBy u none) => (Hc.out u hu i hil).1)
              have hac := HAc.out
              rw [List.drop_eq_getElem_cons hil, List.filter_cons] at hac
              obtain ⟨qq, hq⟩ : ∃ qq, l[i] = qq := ⟨_, rfl⟩
              rw [hq] at hok hke HRq hac
              have hci := (Ky.at_ hok (HRq.out wr HG.out)).1
              have HQl : Hid (qq.cells.length = 34) := hid (Ky.cells_length hok.2.1)
              have HQo := hid hok
              rw [hke] at hac
              obtain ⟨qk, hqk⟩ : ∃ x, qq.kid = x := ⟨_, rfl⟩
              rw [hqk] at hci hac
              have HAc2 := hid hac
              clear hok hke hac hq hqk hil HAc
              by_cases h0 : qk = kid
              · as_aux_lemma =>
                have HAc : Hid (FL = acc ++ (l.drop (i + 1)).filter (fun k => !(k == q))) := hid (by rw [HAc2.out, decide_eq_true h0, if_neg (by decide)])
                have h09 := h0.symm
                clear h0
                subst h09
                go_wp2_with fail
                go_roundw
                case rel => exact ⟨i + 1, acc, ax, nn, cx, by go_num, by omega, hid (by have := HAl.out; omega), HNn, HAc, HX, HS, HA, HO, HSe, HG⟩
                case measure => simp [intOf]; omega
              · as_aux_lemma =>
                have h01 : ¬ (qk : Int) = (kid : Int) := by omega
                have h02 : ((qk : Int) == (kid : Int)) = false := beq_eq_false_iff_ne.2 h01
                have HAc : Hid (FL = acc ++ [qq] ++ (l.drop (i + 1)).filter (fun k => !(k == q))) := hid (by rw [HAc2.out, decide_eq_false h0, if_pos (by decide), List.append_assoc]; rfl)
                clear h0
                go_upto_region 15 with fail
                refine wp_region_listX (by kernel_rfl) [fun v _ => v = (Value.pointer (some ⟨p5, 0, none⟩)), fun v _ => v = (Value.slice ax nn cx), fun v _ => v = (Value.pointer (some ⟨p2, 0, none⟩)), fun v _ => v = (Value.slice (some ⟨b, off, none⟩) (m + 1) c), fun v _ => v = (Value.int .i64 (i : Nat)), fun v _ => v = (Value.pointer (some ⟨b, off + i * 34, none⟩)), fun v _ => v = (Value.agg qq.cells.toArray), fun v u => ∃ bb, v = Value.slice (some ⟨bb, 0, none⟩) 1 1 ∧ Blk u bb qq.cells 107] (none) (fun _ => none) 8 (by kernel_rfl) (by kernel_rfl) (by kernel_rfl) (by kernel_rfl) (by decide) noRow_one (fun _ => .inl rfl) ⟨fun i v u u' hki h hg => h, fun i v u u' hki h hg => h, fun i v u u' hki h hg => h, fun i v u u' hki h hg => h, fun i v u u' hki h hg => h, fun i v u u' hki h hg => h, fun i v u u' hki h hg => h, fun i v u u' hki h hg => (by obtain ⟨bb, e, hb⟩ := h; exact ⟨bb, e, hb.keep hg⟩), trivial⟩ ⟨?_, ?_, ?_, ?_, ?_, ?_, ?_, ?_, trivial⟩ ?_
                · intro A u hu hpu hsz hout hdeps
                  have e12 : A.eval (.tmp 12) = (.pointer (some ⟨p5, 0, none⟩)) := (hout 12 (by kernel_rfl)).trans rfl
                  refine ifw_none rfl ?_
                  with_reducible refine shown_q (Value.pointer (some ⟨p5, 0, none⟩)) ?qq_3y1_0 (fun _ _ => ?qr_3y1_0)
                  case qr_3y1_0 => exact (rfl : (Value.pointer (some ⟨p5, 0, none⟩)) = (Value.pointer (some ⟨p5, 0, none⟩)))
                  with_reducible refine quietAt_field 69 (.tmp 12) 0 ?h0_3y1_0 ⟨p5, 0, none⟩ ⟨p5, 0, none⟩ ?h1_3y1_0 ?h2_3y1_0
                  case h0_3y1_0 => rfl
                  case h1_3y1_0 => exact e12
                  case h2_3y1_0 => kernel_rfl
                · intro A u hu hpu hsz hout hdeps
                  have e62 : A.eval (.tmp 62) = (.pointer (some ⟨p5, 0, none⟩)) := by have h := depL hdeps 0 (by kernel_rfl) 62 (by kernel_rfl); exact h
                  refine ifw_none rfl ?_
                  with_reducible refine shown_q (Value.slice ax nn cx) ?qq_3y1_1 (fun _ _ => ?qr_3y1_1)
                  case qr_3y1_1 => exact (rfl : (Value.slice ax nn cx) = (Value.slice ax nn cx))
                  with_reducible refine quietAt_ld 55 (.tmp 62) (Value.pointer (some ⟨p5, 0, none⟩)) (Value.slice ax nn cx) ?h0_3y1_1 ?h1_3y1_1 ?h2_3y1_1
                  case h0_3y1_1 => rfl
                  case h1_3y1_1 => exact e62
                  case h2_3y1_1 => exact ld55 p5 0 nn cx ax u ((HX.out.keep hu).cell 0)
                · intro A u hu hpu hsz hout hdeps
                  have e3 : A.eval (.tmp 3) = (.pointer (some ⟨p2, 0, none⟩)) := (hout 3 (by kernel_rfl)).trans rfl
                  refine ifw_none rfl ?_
                  with_reducible refine shown_q (Value.pointer (some ⟨p2, 0, none⟩)) ?qq_3y1_2 (fun _ _ => ?qr_3y1_2)
                  case qr_3y1_2 => exact (rfl : (Value.pointer (some ⟨p2, 0, none⟩)) = (Value.pointer (some ⟨p2, 0, none⟩)))
                  with_reducible refine quietAt_field 69 (.tmp 3) 0 ?h0_3y1_2 ⟨p2, 0, none⟩ ⟨p2, 0, none⟩ ?h1_3y1_2 ?h2_3y1_2
                  case h0_3y1_2 => rfl
                  case h1_3y1_2 => exact e3
                  case h2_3y1_2 => kernel_rfl
                · intro A u hu hpu hsz hout hdeps
                  have e64 : A.eval (.tmp 64) = (.pointer (some ⟨p2, 0, none⟩)) := by have h := depL hdeps 2 (by kernel_rfl) 64 (by kernel_rfl); exact h
                  refine ifw_none rfl ?_
                  with_reducible refine shown_q (Value.slice (some ⟨b, off, none⟩) (m + 1) c) ?qq_3y1_3 (fun _ _ => ?qr_3y1_3)
                  case qr_3y1_3 => exact (rfl : (Value.slice (some ⟨b, off, none⟩) (m + 1) c) = (Value.slice (some ⟨b, off, none⟩) (m + 1) c))
                  with_reducible refine quietAt_ld 55 (.tmp 64) (Value.pointer (some ⟨p2, 0, none⟩)) (Value.slice (some ⟨b, off, none⟩) (m + 1) c) ?h0_3y1_3 ?h1_3y1_3 ?h2_3y1_3
                  case h0_3y1_3 => rfl
                  case h1_3y1_3 => exact e64
                  case h2_3y1_3 => exact ld55 p2 0 (m + 1) c (some ⟨b, off, none⟩) u ((HS.out.keep hu).cell 0)
                · intro A u hu hpu hsz hout hdeps
                  have e13 : A.eval (.tmp 13) = (.int .i64 (i : Nat)) := (hout 13 (by kernel_rfl)).trans rfl
                  refine ifw_none rfl ?_
                  with_reducible refine shown_q (Value.int .i64 (i : Nat)) ?qq_3y1_4 (fun _ _ => ?qr_3y1_4)
                  case qr_3y1_4 => exact (rfl : (Value.int .i64 (i : Nat)) = (Value.int .i64 (i : Nat)))
                  with_reducible refine quietAt_mv (.tmp 13) (Value.int .i64 (i : Nat)) ?h0_3y1_4 ?h1_3y1_4
                  case h0_3y1_4 => rfl
                  case h1_3y1_4 => exact e13
                · intro A u hu hpu hsz hout hdeps
                  have e65 : A.eval (.tmp 65) = (.slice (some ⟨b, off, none⟩) (m + 1) c) := by have h := depL hdeps 3 (by kernel_rfl) 65 (by kernel_rfl); exact h
                  have e66 : A.eval (.tmp 66) = (.int .i64 (i : Nat)) := by have h := depL hdeps 4 (by kernel_rfl) 66 (by kernel_rfl); exact h
                  refine ifw_none rfl ?_
                  with_reducible refine shown_q (Value.pointer (some ⟨b, off + i * 34, none⟩)) ?qq_3y1_5 (fun _ _ => ?qr_3y1_5)
                  case qr_3y1_5 => exact (rfl : (Value.pointer (some ⟨b, off + i * 34, none⟩)) = (Value.pointer (some ⟨b, off + i * 34, none⟩)))
                  with_reducible refine quietAt_idx 55 (.tmp 65) (.tmp 66) (Value.slice (some ⟨b, off, none⟩) (m + 1) c) (Value.int .i64 (i : Nat)) (Value.pointer (some ⟨b, off + i * 34, none⟩)) ?h0_3y1_5 ?h1_3y1_5 ?h2_3y1_5 ?h3_3y1_5
                  case h0_3y1_5 => rfl
                  case h1_3y1_5 => exact e65
                  case h2_3y1_5 => exact e66
                  case h3_3y1_5 => exact idx55 b off (m + 1) c i hlt u
                · intro A u hu hpu hsz hout hdeps
                  have e67 : A.eval (.tmp 67) = (.pointer (some ⟨b, off + i * 34, none⟩)) := by have h := depL hdeps 5 (by kernel_rfl) 67 (by kernel_rfl); exact h
                  refine ifw_none rfl ?_
                  with_reducible refine shown_q (Value.agg qq.cells.toArray) ?qq_3y1_6 (fun _ _ => ?qr_3y1_6)
                  case qr_3y1_6 => exact (rfl : (Value.agg qq.cells.toArray) = (Value.agg qq.cells.toArray))
                  with_reducible refine quietAt_load 107 (.tmp 67) ?h0_3y1_6 b (off + i * 34) qq.cells (.struct (Try.prog.fieldsOf 107)) ?h1_3y1_6 ?h2_3y1_6 ?h3_3y1_6 ?h4_3y1_6 ?h5_3y1_6
                  case h0_3y1_6 => rfl
                  case h1_3y1_6 => exact e67
                  case h2_3y1_6 => exact (HRq.out u (gtrans HG.out hu))
                  case h3_3y1_6 => exact Try.under107
                  case h4_3y1_6 => rfl
                  case h5_3y1_6 => exact (by rw [HQl.out]; exact Try.size107)
                · intro A u hu hpu hsz hout hdeps
                  have e68 : A.eval (.tmp 68) = (.agg qq.cells.toArray) := by have h := depL hdeps 6 (by kernel_rfl) 68 (by kernel_rfl); exact h
                  refine ifw_none rfl ?_
                  exact shown_slice1 (.tmp 68) rfl qq HQo.out.2.1 e68 (fun w' h _ => ⟨u.heap.size, rfl, h⟩)
                · intro A u8 listed hh hall
                  have hA := hh.frame
                  have HU := hid hh.grown
                  obtain ⟨x62, hx62⟩ : ∃ x, A.eval (.tmp 62) = x := ⟨_, rfl⟩
                  have f62 : (fun v _ => v = (Value.pointer (some ⟨p5, 0, none⟩))) x62 u8 := by rw [← hx62]; exact hh.got 0 _ 62 rfl rfl (hall 0 (by decide))
                  obtain ⟨x63, hx63⟩ : ∃ x, A.eval (.tmp 63) = x := ⟨_, rfl⟩
                  have f63 : (fun v _ => v = (Value.slice ax nn cx)) x63 u8 := by rw [← hx63]; exact hh.got 1 _ 63 rfl rfl (hall 1 (by decide))
                  obtain ⟨x64, hx64⟩ : ∃ x, A.eval (.tmp 64) = x := ⟨_, rfl⟩
                  have f64 : (fun v _ => v = (Value.pointer (some ⟨p2, 0, none⟩))) x64 u8 := by rw [← hx64]; exact hh.got 2 _ 64 rfl rfl (hall 2 (by decide))
                  obtain ⟨x65, hx65⟩ : ∃ x, A.eval (.tmp 65) = x := ⟨_, rfl⟩
                  have f65 : (fun v _ => v = (Value.slice (some ⟨b, off, none⟩) (m + 1) c)) x65 u8 := by rw [← hx65]; exact hh.got 3 _ 65 rfl rfl (hall 3 (by decide))
                  obtain ⟨x66, hx66⟩ : ∃ x, A.eval (.tmp 66) = x := ⟨_, rfl⟩
                  have f66 : (fun v _ => v = (Value.int .i64 (i : Nat))) x66 u8 := by rw [← hx66]; exact hh.got 4 _ 66 rfl rfl (hall 4 (by decide))
                  obtain ⟨x67, hx67⟩ : ∃ x, A.eval (.tmp 67) = x := ⟨_, rfl⟩
                  have f67 : (fun v _ => v = (Value.pointer (some ⟨b, off + i * 34, none⟩))) x67 u8 := by rw [← hx67]; exact hh.got 5 _ 67 rfl rfl (hall 5 (by decide))
                  obtain ⟨x68, hx68⟩ : ∃ x, A.eval (.tmp 68) = x := ⟨_, rfl⟩
                  have f68 : (fun v _ => v = (Value.agg qq.cells.toArray)) x68 u8 := by rw [← hx68]; exact hh.got 6 _ 68 rfl rfl (hall 6 (by decide))
                  obtain ⟨x69, hx69⟩ : ∃ x, A.eval (.tmp 69) = x := ⟨_, rfl⟩
                  have f69 : (fun v u => ∃ bb, v = Value.slice (some ⟨bb, 0, none⟩) 1 1 ∧ Blk u bb qq.cells 107) x69 u8 := by rw [← hx69]; exact hh.got 7 _ 69 rfl rfl (hall 7 (by decide))
                  obtain ⟨x70, hx70⟩ : ∃ x, A.eval (.tmp 70) = x := ⟨_, rfl⟩
                  obtain ⟨x71, hx71⟩ : ∃ x, A.eval (.tmp 71) = x := ⟨_, rfl⟩
                  dsimp only [wrote, List.foldl] at hA
                  rw [hx62, hx63, hx64, hx65, hx66, hx67, hx68, hx69, hx70, hx71] at hA
                  clear hh hall hx62 hx63 hx64 hx65 hx66 hx67 hx68 hx69 hx70 hx71
                  replace f62 := (f62 : x62 = (.pointer (some ⟨p5, 0, none⟩)))
                  subst f62
                  replace f63 := (f63 : x63 = (.slice ax nn cx))
                  subst f63
                  replace f64 := (f64 : x64 = (.pointer (some ⟨p2, 0, none⟩)))
                  subst f64
                  replace f65 := (f65 : x65 = (.slice (some ⟨b, off, none⟩) (m + 1) c))
                  subst f65
                  replace f66 := (f66 : x66 = (.int .i64 (i : Nat)))
                  subst f66
                  replace f67 := (f67 : x67 = (.pointer (some ⟨b, off + i * 34, none⟩)))
                  subst f67
                  replace f68 := (f68 : x68 = (.agg qq.cells.toArray))
                  subst f68
                  obtain ⟨b9, e69, hb9⟩ := f69
                  subst e69
                  subst hA
                  show wpList _ _ _ [_, _, _] _ _
                  simp only [Act.put, List.setIfInBounds_toArray, List.set_cons_succ, List.set_cons_zero]
                  go_upto_region 13 with (first
                    | (at_builtin; refine wpList_append_keys rfl _ _ rfl w.heap.size (fun _ => True) acc [qq] (HO.out.keep HU.out) (one_rd HQo.out hb9 _ trivial) (by have := HAl.out; show acc.length + 1 ≤ _; omega) (gtrans HG.out HU.out).size ?_; intro v10 w10 hO10 hg10; have HG10 := hid hg10; obtain ⟨a10, c10, hv10⟩ := hO10.slice; rw [len_snoc, HNn.out] at hv10; subst hv10; have HO10 := hid hO10; have HX10 := hid ((HX.out.keep HU.out).on hg10 (fun e => by obtain ⟨cs6, hk6, _⟩ := (HO.out.keep HU.out).blkB e; exact hk6.neT (HX.out.keep HU.out) (by decide) rfl)); have HS10 := hid ((HS.out.keep HU.out).on hg10 (fun e => by obtain ⟨cs6, hk6, _⟩ := (HO.out.keep HU.out).blkB e; exact hk6.neT (HS.out.keep HU.out) (by decide) rfl)); have HA10 := hid ((HA.out.keep HU.out).on hg10 (fun e => by obtain ⟨cs6, hk6, _⟩ := (HO.out.keep HU.out).blkB e; exact hk6.neT (HA.out.keep HU.out) (by decide) rfl)); have HSe10 := hid ((HSe.out.keep HU.out).on hg10 (fun e => by obtain ⟨cs6, hk6, _⟩ := (HO.out.keep HU.out).blkB e; exact hk6.neT (HSe.out.keep HU.out) (by decide) rfl)); have HGw := hid ((gtrans HG.out HU.out).andThen hg10 (fun j hj => .inl (by obtain ⟨cs6, _, hC6⟩ := (HO.out.keep HU.out).blkB hj; omega))); have q0 := HX10.out.cell 0; have qz := HX10.out.frozen 0; clear hO10 hg10))
                  obtain ⟨w11, hw11⟩ : ∃ x, w10.setCell ⟨p5, 0, none⟩ (.slice a10 (nn + 1) c10) = x := ⟨_, rfl⟩
                  rw [hw11]
                  have HX11 : Hid (Blk w11 p5 [.slice a10 (nn + 1) c10, .int .u64 X] 69) := hid (by rw [← hw11]; exact HX10.out.set 0 _)
                  have HG11 : Hid (w10.grownBy w11 (some p5)) := hid (by rw [← hw11]; exact gset _ _ _)
                  have HO11 := hid (HO10.out.offB HG11.out HX10.out (by decide))
                  have HS11 := hid (HS10.out.on HG11.out (by have := HPn.out; simp; omega))
                  have HA11 := hid (HA10.out.on HG11.out (by have := HPn.out; simp; omega))
                  have HSe11 := hid (HSe10.out.on HG11.out (by have := HPn.out; simp; omega))
                  have HGw11 := hid (HGw.out.andThen HG11.out (fun j hj => .inl (by injection hj with hj; have := HPn.out; omega)))
                  clear hw11 q0 qz
                  go_wp2_with fail
                  go_roundw
                  case rel => exact ⟨i + 1, acc ++ [qq], a10, nn + 1, c10, by go_num, by omega, hid (by have := HAl.out; rw [len_snoc]; omega), hid (by rw [len_snoc, HNn.out]), HAc, HX11, HS11, HA11, HO11, HSe11, HGw11⟩
                  case measure => simp [intOf]; omega
            · as_aux_lemma =>
              have hlt' : ¬ (i : Int) < (m : Int) + 1 := by omega
              have hFL : FL = acc := by rw [HAc.out, List.drop_of_length_le (by rw [HN.out]; omega)]; simp
              subst hFL
              have x3 := HX.out.cell 0
              have x4 := HS.out.cell 1
              have hnn : nn ≤ 9 := by have := HAl.out; have := HNn.out; omega
              go_upto_region 18 with (first
                | (with_reducible refine wpList_load_part (by with_unfolding_all rfl) 70 _ (by with_unfolding_all rfl) pS 0 ts _ (by with_unfolding_all rfl) HSe.out.whole Try.underlying70 (by with_unfolding_all rfl) (by rw [HTl.out]; exact Try.size70) ?_)
                | (with_reducible refine wpList_build_ofW (by with_unfolding_all rfl) 107 _ (by with_unfolding_all rfl) [(0, .int .u64 X), (1, .agg ts.toArray)] (by with_unfolding_all rfl) (Ky.mk nx sec 0).cells HBu.out ?_)
                | ((with_reducible refine wpList_slice1 (by with_unfolding_all rfl) _ (by with_unfolding_all rfl) (Ky.mk nx sec 0) HSc.out (by with_unfolding_all rfl) ?_); intro w9 B9 s9 g9; have HK9 := hid B9; have HO9 := hid (HO.out.keep g9); have HX9 := hid (HX.out.keep g9); have HB9 := hid (HS.out.keep g9); have HA9 := hid (HA.out.keep g9); have HG9 := hid (gtrans HG.out g9); clear B9 s9 g9)
                | (at_builtin; refine wpList_append_keys rfl _ _ rfl w.heap.size (fun _ => True) FL [Ky.mk nx sec 0] HO9.out (one_rd HKo.out HK9.out _ trivial) (by rw [HNn.out]; show nn + 1 ≤ _; omega) HG9.out.size ?_; intro v10 w10 hO10 hg10; obtain ⟨a10, c10, hv10⟩ := hO10.slice; rw [len_snoc, HNn.out] at hv10; subst hv10; have HO10 := hid hO10; have HX10 := hid (HX9.out.on hg10 (fun e => by obtain ⟨cs6, hk6, _⟩ := HO9.out.blkB e; exact hk6.neT HX9.out (by decide) rfl)); have HB10 := hid (HB9.out.on hg10 (fun e => by obtain ⟨cs6, hk6, _⟩ := HO9.out.blkB e; exact hk6.neT HB9.out (by decide) rfl)); have HA10 := hid (HA9.out.on hg10 (fun e => by obtain ⟨cs6, hk6, _⟩ := HO9.out.blkB e; exact hk6.neT HA9.out (by decide) rfl)); have HG10 := hid (HG9.out.andThen hg10 (fun j hj => .inl (by obtain ⟨cs6, _, hC6⟩ := HO9.out.blkB hj; omega))); have q0 := HX10.out.cell 0; have qz := HX10.out.frozen 0; clear hO10 hg10))
              obtain ⟨w11, hw11⟩ : ∃ x, w10.setCell ⟨p5, 0, none⟩ (.slice a10 (nn + 1) c10) = x := ⟨_, rfl⟩
              rw [hw11]
              have HX11 : Hid (Blk w11 p5 [.slice a10 (nn + 1) c10, .int .u64 X] 69) := hid (by rw [← hw11]; exact HX10.out.set 0 _)
              have HG11 : Hid (w10.grownBy w11 (some p5)) := hid (by rw [← hw11]; exact gset _ _ _)
              have HO11 := hid (HO10.out.offB HG11.out HX10.out (by decide))
              have HB11 := hid (HB10.out.on HG11.out (by have := HPn.out; simp; omega))
              have HA11 := hid (HA10.out.on HG11.out (by have := HPn.out; simp; omega))
              have HGw11 := hid (HG10.out.andThen HG11.out (fun j hj => .inl (by injection hj with hj; have := HPn.out; omega)))
              clear hw11 q0 qz x0 x3 x4
              have x1 := HB11.out.cell 1
              have x2 := HX11.out.cell 1
              have z2 := HX11.out.frozen 1
              go_upto_region 19 with fail
              obtain ⟨w12, hw12⟩ : ∃ x, w11.setCell ⟨p5, 1, none⟩ (.int .u64 (X + 1)) = x := ⟨_, rfl⟩
              rw [hw12]
              have HX12 : Hid (Blk w12 p5 [.slice a10 (nn + 1) c10, .int .u64 (X + 1)] 69) := hid (by rw [← hw12]; exact HX11.out.set 1 _)
              have HG12 : Hid (w11.grownBy w12 (some p5)) := hid (by rw [← hw12]; exact gset _ _ _)
              have HO12 := hid (HO11.out.offB HG12.out HX11.out (by decide))
              have HA12 := hid (HA11.out.on HG12.out (by have := HPn.out; simp; omega))
              have HGw12 := hid (HGw11.out.andThen HG12.out (fun j hj => .inl (by injection hj with hj; have := HPn.out; omega)))
              clear hw12 x1 x2 z2
              go_wp2_with (first
                | (with_reducible refine wpList_load_part (by with_unfolding_all rfl) 69 _ (by with_unfolding_all rfl) p5 0 [.slice a10 (nn + 1) c10, .int .u64 (X + 1)] _ (by with_unfolding_all rfl) HX12.out.whole Try.underlying69 (by with_unfolding_all rfl) (by with_unfolding_all exact Try.size69) ?_)
                | ((with_reducible refine wpList_store_all (by with_unfolding_all rfl) 69 _ _ (by with_unfolding_all rfl) p4 [.slice none 0 0, .int .u64 0] [.slice a10 (nn + 1) c10, .int .u64 (X + 1)] 69 (by with_unfolding_all rfl) (by with_unfolding_all rfl) HA12.out (by with_unfolding_all rfl) (by with_unfolding_all exact Try.size69) (ring_one _ _ _ _) ?_); intro w13 B13 g13 s13; have HA13 := hid B13; have HO13 := hid (HO12.out.offB g13 HA12.out (by decide)); have HG13 := hid (HGw12.out.andThen g13 (fun j hj => .inl (by injection hj with hj; have := HPn.out; omega))); clear B13 g13 s13))
              refine bodyPost_ret (v := .tuple #[.agg #[.slice a10 (nn + 1) c10, .int .u64 (X + 1)], .int .i64 0]) (results_blk_tmp rfl _ p4 69 [.slice a10 (nn + 1) c10, .int .u64 (X + 1)] _ (.int .i64 0) rfl rfl HA13.out Try.underlying69 rfl (by with_unfolding_all exact Try.size69)) rfl ?_
              exact ⟨a10, c10, by rw [← HNn.out], by have h9 := HO13.out; rw [← HNn.out] at h9; simpa using h9, HG13.out⟩
      · rw [decide_eq_false hc1] at hcur
        have he : disE l nx kid = 0 := by unfold disE; rw [HGd.out, if_pos rfl, hfd]; simp only []; rw [hcur]; rfl
        rw [disR_yes he hfd, he]
        have hdk : disK l nx sec q = (FL, nx) := by unfold disK; rw [hcur, if_neg (by decide), HFL.out]
        rw [hdk]
        have hc2 : ¬ (LK : Int) = (kid : Int) := by omega
        have hc3 : ((LK : Int) == (kid : Int)) = false := beq_eq_false_iff_ne.2 hc2
        show Calls Try.prog 15 _ w fun e w' => ∃ a c, e = .returned (.tuple #[.agg #[.slice a FL.length c, .int .u64 (nx : Int)], .int .i64 0]) ∧ OutK w.heap.size w' (.slice a FL.length c) FL ∧ w.grownBy w' none
        rw [hX] at HCk HFd ⊢
        clear he hfd hX hx3 hp hcur hqm hqk hrg hdk hc1
        as_aux_lemma =>
        go_enter Try.func15, Try.ntmps15
        go_upto_region 7 with (first
          | ((with_reducible refine wpList_box_row (by with_unfolding_all rfl) 69 _ (by with_unfolding_all rfl) [.slice (some ⟨b, off, none⟩) (m + 1) c, .int .u64 X] (by with_unfolding_all rfl) ?_); intro w1 B1 s1 g1; have HB1 := hid B1; have HG1 := hid g1; clear B1 s1 g1)
          | ((with_reducible refine wpList_box_row (by with_unfolding_all rfl) 70 _ (by with_unfolding_all rfl) ts (by with_unfolding_all rfl) ?_); intro w2 B2 s2 g2; have HS2 := hid B2; have HB2 := hid (HB1.out.keep g2); have HG2 := hid (gtrans HG1.out g2); clear B2 s2 g2)
          | ((with_reducible refine wpList_alloc_row (by with_unfolding_all rfl) 69 (by with_unfolding_all rfl) [.slice none 0 0, .int .u64 0] Try.zero69 ?_); intro w3 B3 s3 g3; have HA3 := hid B3; have HS3 := hid (HS2.out.keep g3); have HB3 := hid (HB2.out.keep g3); have HG3 := hid (gtrans HG2.out g3); clear B3 s3 g3)
          | (with_reducible refine wpList_load_part (by with_unfolding_all rfl) 69 _ (by with_unfolding_all rfl) w.heap.size 0 [.slice (some ⟨b, off, none⟩) (m + 1) c, .int .u64 X] _ (by with_unfolding_all rfl) HB4.out.whole Try.underlying69 (by with_unfolding_all rfl) (by with_unfolding_all exact Try.size69) ?_)
          | (with_reducible refine wpList_load_part (by with_unfolding_all rfl) 69 _ (by with_unfolding_all rfl) w.heap.size 0 [.slice (some ⟨b, off, none⟩) (m + 1) c, .int .u64 X] _ (by with_unfolding_all rfl) HB3.out.whole Try.underlying69 (by with_unfolding_all rfl) (by with_unfolding_all exact Try.size69) ?_)
          | (go_at_call 34; (with_reducible refine (HCk.out _ HG3.out).mono ?_); rintro e w4 ⟨rfl, hg4⟩; have HA4 := hid (HA3.out.keep hg4); have HS4 := hid (HS3.out.keep hg4); have HB4 := hid (HB3.out.keep hg4); have HG4 := hid (gtrans HG3.out hg4); have y0 := HB4.out.cell 0; have y1 := HB4.out.cell 1; clear hg4)
          | (go_at_call 38; (with_reducible refine (HFd.out _ HG4.out).mono ?_); rintro e w5 ⟨rfl, hg5⟩; have HA5 := hid (HA4.out.keep hg5); have HS5 := hid (HS4.out.keep hg5); have HB5 := hid (HB4.out.keep hg5); have HG5 := hid (gtrans HG4.out hg5); clear hg5)
          | (have := HA5; clear this; (with_reducible refine wpList_alloc_row (by with_unfolding_all rfl) 107 (by with_unfolding_all rfl) zky.cells Try.zero107 ?_); intro w6 B6 s6 g6; have HQ6 := hid B6; have HA6 := hid (HA5.out.keep g6); have HS6 := hid (HS5.out.keep g6); have HB6 := hid (HB5.out.keep g6); have HG6 := hid (gtrans HG5.out g6); clear B6 s6 g6)
          | ((with_reducible refine wpList_store_all (by with_unfolding_all rfl) 107 _ _ (by with_unfolding_all rfl) _ zky.cells q.cells 107 (by with_unfolding_all rfl) (by with_unfolding_all rfl) HQ6.out (by rw [HQl.out]; with_unfolding_all rfl) (by rw [HQl.out]; exact Try.size107) (Ky.one _) ?_); intro w7 B7 g7 s7; have HA7 := hid (HA6.out.on g7 (by have := HA5.out.lt; simp; omega)); have HS7 := hid (HS6.out.on g7 (by have := HS5.out.lt; simp; omega)); have HB7 := hid (HB6.out.on g7 (by have := HB5.out.lt; simp; omega)); have HG7 := hid (HG6.out.andThen g7 (fun j hj => .inl (by injection hj with hj; have := HG5.out.size; omega))); have y0 := HB7.out.cell 0; have y1 := HB7.out.cell 1; clear B7 g7 s7)
          | (with_reducible refine wpList_build_ofW (by with_unfolding_all rfl) 69 _ (by with_unfolding_all rfl) [(1, .int .u64 X)] (by with_unfolding_all rfl) [.slice none 0 0, .int .u64 X] (built_next X) ?_)
          | (have := HA7; clear this; (with_reducible refine wpList_alloc_row (by with_unfolding_all rfl) 69 (by with_unfolding_all rfl) [.slice none 0 0, .int .u64 0] Try.zero69 ?_); intro w8 B8 s8 g8; have HX8 := hid B8; have HA8 := hid (HA7.out.keep g8); have HB8 := hid (HB7.out.keep g8); have HS8 := hid (HS7.out.keep g8); have HG8 := hid (gtrans HG7.out g8); clear B8 s8 g8)
          | ((with_reducible refine wpList_store_all (by with_unfolding_all rfl) 69 _ _ (by with_unfolding_all rfl) _ [.slice none 0 0, .int .u64 0] [.slice none 0 0, .int .u64 X] 69 (by with_unfolding_all rfl) (by with_unfolding_all rfl) HX8.out (by with_unfolding_all rfl) (by with_unfolding_all exact Try.size69) (ring_one _ _ _ _) ?_); intro w9 B9 g9 s9; have HX9 := hid B9; have HA9 := hid (HA8.out.on g9 (by have := HA7.out.lt; simp; omega)); have HB9 := hid (HB8.out.on g9 (by have := HB7.out.lt; simp; omega)); have HS9 := hid (HS8.out.on g9 (by have := HS7.out.lt; simp; omega)); have HG9 := hid (HG8.out.andThen g9 (fun j hj => .inl (by injection hj with hj; have := HG7.out.size; omega))); clear B9 g9 s9))
        have y9 := HCl.out _ HG7.out
        go_upto_region 11 with (first
          | (with_reducible refine wpList_build_ofW (by with_unfolding_all rfl) 69 _ (by with_unfolding_all rfl) [(1, .int .u64 X)] (by with_unfolding_all rfl) [.slice none 0 0, .int .u64 X] (built_next X) ?_)
          | (have := HA7; clear this; (with_reducible refine wpList_alloc_row (by with_unfolding_all rfl) 69 (by with_unfolding_all rfl) [.slice none 0 0, .int .u64 0] Try.zero69 ?_); intro w8 B8 s8 g8; have HX8 := hid B8; have HA8 := hid (HA7.out.keep g8); have HB8 := hid (HB7.out.keep g8); have HS8 := hid (HS7.out.keep g8); have HG8 := hid (gtrans HG7.out g8); clear B8 s8 g8)
          | ((with_reducible refine wpList_store_all (by with_unfolding_all rfl) 69 _ _ (by with_unfolding_all rfl) _ [.slice none 0 0, .int .u64 0] [.slice none 0 0, .int .u64 X] 69 (by with_unfolding_all rfl) (by with_unfolding_all rfl) HX8.out (by with_unfolding_all rfl) (by with_unfolding_all exact Try.size69) (ring_one _ _ _ _) ?_); intro w9 B9 g9 s9; have HX9 := hid B9; have HA9 := hid (HA8.out.on g9 (by have := HA7.out.lt; simp; omega)); have HB9 := hid (HB8.out.on g9 (by have := HB7.out.lt; simp; omega)); have HS9 := hid (HS8.out.on g9 (by have := HS7.out.lt; simp; omega)); have HG9 := hid (HG8.out.andThen g9 (fun j hj => .inl (by injection hj with hj; have := HG7.out.size; omega))); clear B9 g9 s9))
        clear y0 y1 y9
        obtain ⟨p2, hp2⟩ : ∃ x, w.heap.size = x := ⟨_, rfl⟩
        obtain ⟨pS, hpS⟩ : ∃ x, w1.heap.size = x := ⟨_, rfl⟩
        obtain ⟨p4, hp4⟩ : ∃ x, w2.heap.size = x := ⟨_, rfl⟩
        obtain ⟨p8, hp8⟩ : ∃ x, w5.heap.size = x := ⟨_, rfl⟩
        obtain ⟨p5, hp5⟩ : ∃ x, w7.heap.size = x := ⟨_, rfl⟩
        rw [hp2] at HB9
        rw [hpS] at HS9
        rw [hp4] at HA9
        rw [hp5] at HX9
        simp only [hp2, hpS, hp4, hp8, hp5]
        have HPn : Hid (w.heap.size ≤ p2 ∧ w.heap.size ≤ p4 ∧ w.heap.size ≤ p5 ∧ w.heap.size ≤ pS ∧ p5 ≠ p2 ∧ p5 ≠ p4 ∧ p5 ≠ pS) := hid (by
          have h1 := HG1.out.size
          have h2 := HG2.out.size
          have h7 := HG7.out.size
          have h4 := HB7.out.lt
          have h6 := HA7.out.lt
          have h8 := HS7.out.lt
          omega)
        have HS9' : Hid (Blk w9 p2 [.slice (some ⟨b, off, none⟩) (m + 1) c, .int .u64 X] 69) := HB9
        have HSe9 : Hid (Blk w9 pS ts 70) := HS9
        clear hp2 hpS hp4 hp8 hp5 HB1 HB2 HB3 HB4 HB5 HB6 HB7 HB8 HB9 HA3 HA4 HA5 HA6 HA7 HA8 HS2 HS3 HS4 HS5 HS6 HS7 HS8 HS9 HX8 HQ6 HG1 HG2 HG3 HG4 HG5 HG6 HG7 HG8
        have HOn : Hid (OutK w.heap.size w9 (.slice none 0 0) []) := hid (OutK.nil _ _)
        go_wp2_with fail
        go_loopw [13] (fun iv wr => ∃ (i : Nat) (acc : List Ky) (ax : Option Addr) (nn cx : Nat), iv = .int .i64 i ∧ i ≤ m + 1 ∧ Hid (acc.length ≤ i) ∧ Hid (acc.length = nn) ∧ Hid (FL = acc ++ (l.drop i).filter (fun k => !(k == q))) ∧ Hid (Blk wr p5 [.slice ax nn cx, .int .u64 X] 69) ∧ Hid (Blk wr p2 [.slice (some ⟨b, off, none⟩) (m + 1) c, .int .u64 X] 69) ∧ Hid (Blk wr p4 [.slice none 0 0, .int .u64 0] 69) ∧ Hid (OutK w.heap.size wr (.slice ax nn cx) acc) ∧ Hid (Blk wr pS ts 70) ∧ Hid (w.grownBy wr none)) (fun iv _ => m + 1 - (intOf iv).toNat)
        case atStart => exact ⟨0, [], none, 0, 0, rfl, Nat.zero_le _, hid (Nat.le_refl _), hid rfl, hid HFL.out.symm, HX9, HS9', HA9, HOn, HSe9, HG9⟩
        case round =>
          clear HX9 HS9' HA9 HOn HG9 HSe9
          obtain ⟨i, acc, ax, nn, cx, rfl, hi, HAl, HNn, HAc, HX, HS, HA, HO, HSe, HG⟩ := hrel
          have x0 := HS.out.cell 0
          by_cases hlt : i < m + 1
          · have hlt' : (i : Int) < (m : Int) + 1 := by omega
            have hil : i < l.length := by rw [HN.out]; exact hlt
            have hok := HOk.out _ (List.getElem_mem hil)
            have hke := HKe.out _ (List.getElem_mem hil)
            have HRq := hid (fun u (hu : w.grownBy u none) => (Hc.out u hu i hil).1)
            have hac := HAc.out
            rw [List.drop_eq_getElem_cons hil, List.filter_cons] at hac
            obtain ⟨qq, hq⟩ : ∃ qq, l[i] = qq := ⟨_, rfl⟩
            rw [hq] at hok hke HRq hac
            have hci := (Ky.at_ hok (HRq.out wr HG.out)).1
            have HQl : Hid (qq.cells.length = 34) := hid (Ky.cells_length hok.2.1)
            have HQo := hid hok
            rw [hke] at hac
            obtain ⟨qk, hqk⟩ : ∃ x, qq.kid = x := ⟨_, rfl⟩
            rw [hqk] at hci hac
            have HAc2 := hid hac
            clear hok hke hac hq hqk hil HAc
            by_cases h0 : qk = kid
            · as_aux_lemma =>
              have HAc : Hid (FL = acc ++ (l.drop (i + 1)).filter (fun k => !(k == q))) := hid (by rw [HAc2.out, decide_eq_true h0, if_neg (by decide)])
              have h09 := h0.symm
              clear h0
              subst h09
              go_wp2_with fail
              go_roundw
              case rel => exact ⟨i + 1, acc, ax, nn, cx, by go_num, by omega, hid (by have := HAl.out; omega), HNn, HAc, HX, HS, HA, HO, HSe, HG⟩
              case measure => simp [intOf]; omega
            · as_aux_lemma =>
              have h01 : ¬ (qk : Int) = (kid : Int) := by omega
              have h02 : ((qk : Int) == (kid : Int)) = false := beq_eq_false_iff_ne.2 h01
              have HAc : Hid (FL = acc ++ [qq] ++ (l.drop (i + 1)).filter (fun k => !(k == q))) := hid (by rw [HAc2.out, decide_eq_false h0, if_pos (by decide), List.append_assoc]; rfl)
              clear h0
              go_upto_region 15 with fail
              refine wp_region_listX (by kernel_rfl) [fun v _ => v = (Value.pointer (some ⟨p5, 0, none⟩)), fun v _ => v = (Value.slice ax nn cx), fun v _ => v = (Value.pointer (some ⟨p2, 0, none⟩)), fun v _ => v = (Value.slice (some ⟨b, off, none⟩) (m + 1) c), fun v _ => v = (Value.int .i64 (i : Nat)), fun v _ => v = (Value.pointer (some ⟨b, off + i * 34, none⟩)), fun v _ => v = (Value.agg qq.cells.toArray), fun v u => ∃ bb, v = Value.slice (some ⟨bb, 0, none⟩) 1 1 ∧ Blk u bb qq.cells 107] (none) (fun _ => none) 8 (by kernel_rfl) (by kernel_rfl) (by kernel_rfl) (by kernel_rfl) (by decide) noRow_one (fun _ => .inl rfl) ⟨fun i v u u' hki h hg => h, fun i v u u' hki h hg => h, fun i v u u' hki h hg => h, fun i v u u' hki h hg => h, fun i v u u' hki h hg => h, fun i v u u' hki h hg => h, fun i v u u' hki h hg => h, fun i v u u' hki h hg => (by obtain ⟨bb, e, hb⟩ := h; exact ⟨bb, e, hb.keep hg⟩), trivial⟩ ⟨?_, ?_, ?_, ?_, ?_, ?_, ?_, ?_, trivial⟩ ?_
              · intro A u hu hpu hsz hout hdeps
                have e12 : A.eval (.tmp 12) = (.pointer (some ⟨p5, 0, none⟩)) := (hout 12 (by kernel_rfl)).trans rfl
                refine ifw_none rfl ?_
                with_reducible refine shown_q (Value.pointer (some ⟨p5, 0, none⟩)) ?qq_4y2_0 (fun _ _ => ?qr_4y2_0)
                case qr_4y2_0 => exact (rfl : (Value.pointer (some ⟨p5, 0, none⟩)) = (Value.pointer (some ⟨p5, 0, none⟩)))
                with_reducible refine quietAt_field 69 (.tmp 12) 0 ?h0_4y2_0 ⟨p5, 0, none⟩ ⟨p5, 0, none⟩ ?h1_4y2_0 ?h2_4y2_0
                case h0_4y2_0 => rfl
                case h1_4y2_0 => exact e12
                case h2_4y2_0 => kernel_rfl
              · intro A u hu hpu hsz hout hdeps
                have e62 : A.eval (.tmp 62) = (.pointer (some ⟨p5, 0, none⟩)) := by have h := depL hdeps 0 (by kernel_rfl) 62 (by kernel_rfl); exact h
                refine ifw_none rfl ?_
                with_reducible refine shown_q (Value.slice ax nn cx) ?qq_4y2_1 (fun _ _ => ?qr_4y2_1)
                case qr_4y2_1 => exact (rfl : (Value.slice ax nn cx) = (Value.slice ax nn cx))
                with_reducible refine quietAt_ld 55 (.tmp 62) (Value.pointer (some ⟨p5, 0, none⟩)) (Value.slice ax nn cx) ?h0_4y2_1 ?h1_4y2_1 ?h2_4y2_1
                case h0_4y2_1 => rfl
                case h1_4y2_1 => exact e62
                case h2_4y2_1 => exact ld55 p5 0 nn cx ax u ((HX.out.keep hu).cell 0)
              · intro A u hu hpu hsz hout hdeps
                have e3 : A.eval (.tmp 3) = (.pointer (some ⟨p2, 0, none⟩)) := (hout 3 (by kernel_rfl)).trans rfl
                refine ifw_none rfl ?_
                with_reducible refine shown_q (Value.pointer (some ⟨p2, 0, none⟩)) ?qq_4y2_2 (fun _ _ => ?qr_4y2_2)
                case qr_4y2_2 => exact (rfl : (Value.pointer (some ⟨p2, 0, none⟩)) = (Value.pointer (some ⟨p2, 0, none⟩)))
                with_reducible refine quietAt_field 69 (.tmp 3) 0 ?h0_4y2_2 ⟨p2, 0, none⟩ ⟨p2, 0, none⟩ ?h1_4y2_2 ?h2_4y2_2
                case h0_4y2_2 => rfl
                case h1_4y2_2 => exact e3
                case h2_4y2_2 => kernel_rfl
              · intro A u hu hpu hsz hout hdeps
                have e64 : A.eval (.tmp 64) = (.pointer (some ⟨p2, 0, none⟩)) := by have h := depL hdeps 2 (by kernel_rfl) 64 (by kernel_rfl); exact h
                refine ifw_none rfl ?_
                with_reducible refine shown_q (Value.slice (some ⟨b, off, none⟩) (m + 1) c) ?qq_4y2_3 (fun _ _ => ?qr_4y2_3)
                case qr_4y2_3 => exact (rfl : (Value.slice (some ⟨b, off, none⟩) (m + 1) c) = (Value.slice (some ⟨b, off, none⟩) (m + 1) c))
                with_reducible refine quietAt_ld 55 (.tmp 64) (Value.pointer (some ⟨p2, 0, none⟩)) (Value.slice (some ⟨b, off, none⟩) (m + 1) c) ?h0_4y2_3 ?h1_4y2_3 ?h2_4y2_3
                case h0_4y2_3 => rfl
                case h1_4y2_3 => exact e64
                case h2_4y2_3 => exact ld55 p2 0 (m + 1) c (some ⟨b, off, none⟩) u ((HS.out.keep hu).cell 0)
              · intro A u hu hpu hsz hout hdeps
                have e13 : A.eval (.tmp 13) = (.int .i64 (i : Nat)) := (hout 13 (by kernel_rfl)).trans rfl
                refine ifw_none rfl ?_
                with_reducible refine shown_q (Value.int .i64 (i : Nat)) ?qq_4y2_4 (fun _ _ => ?qr_4y2_4)
                case qr_4y2_4 => exact (rfl : (Value.int .i64 (i : Nat)) = (Value.int .i64 (i : Nat)))
                with_reducible refine quietAt_mv (.tmp 13) (Value.int .i64 (i : Nat)) ?h0_4y2_4 ?h1_4y2_4
                case h0_4y2_4 => rfl
                case h1_4y2_4 => exact e13
              · intro A u hu hpu hsz hout hdeps
                have e65 : A.eval (.tmp 65) = (.slice (some ⟨b, off, none⟩) (m + 1) c) := by have h := depL hdeps 3 (by kernel_rfl) 65 (by kernel_rfl); exact h
                have e66 : A.eval (.tmp 66) = (.int .i64 (i : Nat)) := by have h := depL hdeps 4 (by kernel_rfl) 66 (by kernel_rfl); exact h
                refine ifw_none rfl ?_
                with_reducible refine shown_q (Value.pointer (some ⟨b, off + i * 34, none⟩)) ?qq_4y2_5 (fun _ _ => ?qr_4y2_5)
                case qr_4y2_5 => exact (rfl : (Value.pointer (some ⟨b, off + i * 34, none⟩)) = (Value.pointer (some ⟨b, off + i * 34, none⟩)))
                with_reducible refine quietAt_idx 55 (.tmp 65) (.tmp 66) (Value.slice (some ⟨b, off, none⟩) (m + 1) c) (Value.int .i64 (i : Nat)) (Value.pointer (some ⟨b, off + i * 34, none⟩)) ?h0_4y2_5 ?h1_4y2_5 ?h2_4y2_5 ?h3_4y2_5
                case h0_4y2_5 => rfl
                case h1_4y2_5 => exact e65
                case h2_4y2_5 => exact e66
                case h3_4y2_5 => exact idx55 b off (m + 1) c i hlt u
              · intro A u hu hpu hsz hout hdeps
                have e67 : A.eval (.tmp 67) = (.pointer (some ⟨b, off + i * 34, none⟩)) := by have h := depL hdeps 5 (by kernel_rfl) 67 (by kernel_rfl); exact h
                refine ifw_none rfl ?_
                with_reducible refine shown_q (Value.agg qq.cells.toArray) ?qq_4y2_6 (fun _ _ => ?qr_4y2_6)
                case qr_4y2_6 => exact (rfl : (Value.agg qq.cells.toArray) = (Value.agg qq.cells.toArray))
                with_reducible refine quietAt_load 107 (.tmp 67) ?h0_4y2_6 b (off + i * 34) qq.cells (.struct (Try.prog.fieldsOf 107)) ?h1_4y2_6 ?h2_4y2_6 ?h3_4y2_6 ?h4_4y2_6 ?h5_4y2_6
                case h0_4y2_6 => rfl
                case h1_4y2_6 => exact e67
                case h2_4y2_6 => exact (HRq.out u (gtrans HG.out hu))
                case h3_4y2_6 => exact Try.under107
                case h4_4y2_6 => rfl
                case h5_4y2_6 => exact (by rw [HQl.out]; exact Try.size107)
              · intro A u hu hpu hsz hout hdeps
                have e68 : A.eval (.tmp 68) = (.agg qq.cells.toArray) := by have h := depL hdeps 6 (by kernel_rfl) 68 (by kernel_rfl); exact h
                refine ifw_none rfl ?_
                exact shown_slice1 (.tmp 68) rfl qq HQo.out.2.1 e68 (fun w' h _ => ⟨u.heap.size, rfl, h⟩)
              · intro A u8 listed hh hall
                have hA := hh.frame
                have HU := hid hh.grown
                obtain ⟨x62, hx62⟩ : ∃ x, A.eval (.tmp 62) = x := ⟨_, rfl⟩
                have f62 : (fun v _ => v = (Value.pointer (some ⟨p5, 0, none⟩))) x62 u8 := by rw [← hx62]; exact hh.got 0 _ 62 rfl rfl (hall 0 (by decide))
                obtain ⟨x63, hx63⟩ : ∃ x, A.eval (.tmp 63) = x := ⟨_, rfl⟩
                have f63 : (fun v _ => v = (Value.slice ax nn cx)) x63 u8 := by rw [← hx63]; exact hh.got 1 _ 63 rfl rfl (hall 1 (by decide))
                obtain ⟨x64, hx64⟩ : ∃ x, A.eval (.tmp 64) = x := ⟨_, rfl⟩
                have f64 : (fun v _ => v = (Value.pointer (some ⟨p2, 0, none⟩))) x64 u8 := by rw [← hx64]; exact hh.got 2 _ 64 rfl rfl (hall 2 (by decide))
                obtain ⟨x65, hx65⟩ : ∃ x, A.eval (.tmp 65) = x := ⟨_, rfl⟩
                have f65 : (fun v _ => v = (Value.slice (some ⟨b, off, none⟩) (m + 1) c)) x65 u8 := by rw [← hx65]; exact hh.got 3 _ 65 rfl rfl (hall 3 (by decide))
                obtain ⟨x66, hx66⟩ : ∃ x, A.eval (.tmp 66) = x := ⟨_, rfl⟩
                have f66 : (fun v _ => v = (Value.int .i64 (i : Nat))) x66 u8 := by rw [← hx66]; exact hh.got 4 _ 66 rfl rfl (hall 4 (by decide))
                obtain ⟨x67, hx67⟩ : ∃ x, A.eval (.tmp 67) = x := ⟨_, rfl⟩
                have f67 : (fun v _ => v = (Value.pointer (some ⟨b, off + i * 34, none⟩))) x67 u8 := by rw [← hx67]; exact hh.got 5 _ 67 rfl rfl (hall 5 (by decide))
                obtain ⟨x68, hx68⟩ : ∃ x, A.eval (.tmp 68) = x := ⟨_, rfl⟩
                have f68 : (fun v _ => v = (Value.agg qq.cells.toArray)) x68 u8 := by rw [← hx68]; exact hh.got 6 _ 68 rfl rfl (hall 6 (by decide))
                obtain ⟨x69, hx69⟩ : ∃ x, A.eval (.tmp 69) = x := ⟨_, rfl⟩
                have f69 : (fun v u => ∃ bb, v = Value.slice (some ⟨bb, 0, none⟩) 1 1 ∧ Blk u bb qq.cells 107) x69 u8 := by rw [← hx69]; exact hh.got 7 _ 69 rfl rfl (hall 7 (by decide))
                obtain ⟨x70, hx70⟩ : ∃ x, A.eval (.tmp 70) = x := ⟨_, rfl⟩
                obtain ⟨x71, hx71⟩ : ∃ x, A.eval (.tmp 71) = x := ⟨_, rfl⟩
                dsimp only [wrote, List.foldl] at hA
                rw [hx62, hx63, hx64, hx65, hx66, hx67, hx68, hx69, hx70, hx71] at hA
                clear hh hall hx62 hx63 hx64 hx65 hx66 hx67 hx68 hx69 hx70 hx71
                replace f62 := (f62 : x62 = (.pointer (some ⟨p5, 0, none⟩)))
                subst f62
                replace f63 := (f63 : x63 = (.slice ax nn cx))
                subst f63
                replace f64 := (f64 : x64 = (.pointer (some ⟨p2, 0, none⟩)))
                subst f64
                replace f65 := (f65 : x65 = (.slice (some ⟨b, off, none⟩) (m + 1) c))
                subst f65
                replace f66 := (f66 : x66 = (.int .i64 (i : Nat)))
                subst f66
                replace f67 := (f67 : x67 = (.pointer (some ⟨b, off + i * 34, none⟩)))
                subst f67
                replace f68 := (f68 : x68 = (.agg qq.cells.toArray))
                subst f68
                obtain ⟨b9, e69, hb9⟩ := f69
                subst e69
                subst hA
                show wpList _ _ _ [_, _, _] _ _
                simp only [Act.put, List.setIfInBounds_toArray, List.set_cons_succ, List.set_cons_zero]
                go_upto_region 13 with (first
                  | (at_builtin; refine wpList_append_keys rfl _ _ rfl w.heap.size (fun _ => True) acc [qq] (HO.out.keep HU.out) (one_rd HQo.out hb9 _ trivial) (by have := HAl.out; show acc.length + 1 ≤ _; omega) (gtrans HG.out HU.out).size ?_; intro v10 w10 hO10 hg10; have HG10 := hid hg10; obtain ⟨a10, c10, hv10⟩ := hO10.slice; rw [len_snoc, HNn.out] at hv10; subst hv10; have HO10 := hid hO10; have HX10 := hid ((HX.out.keep HU.out).on hg10 (fun e => by obtain ⟨cs6, hk6, _⟩ := (HO.out.keep HU.out).blkB e; exact hk6.neT (HX.out.keep HU.out) (by decide) rfl)); have HS10 := hid ((HS.out.keep HU.out).on hg10 (fun e => by obtain ⟨cs6, hk6, _⟩ := (HO.out.keep HU.out).blkB e; exact hk6.neT (HS.out.keep HU.out) (by decide) rfl)); have HA10 := hid ((HA.out.keep HU.out).on hg10 (fun e => by obtain ⟨cs6, hk6, _⟩ := (HO.out.keep HU.out).blkB e; exact hk6.neT (HA.out.keep HU.out) (by decide) rfl)); have HSe10 := hid ((HSe.out.keep HU.out).on hg10 (fun e => by obtain ⟨cs6, hk6, _⟩ := (HO.out.keep HU.out).blkB e; exact hk6.neT (HSe.out.keep HU.out) (by decide) rfl)); have HGw := hid ((gtrans HG.out HU.out).andThen hg10 (fun j hj => .inl (by obtain ⟨cs6, _, hC6⟩ := (HO.out.keep HU.out).blkB hj; omega))); have q0 := HX10.out.cell 0; have qz := HX10.out.frozen 0; clear hO10 hg10))
                obtain ⟨w11, hw11⟩ : ∃ x, w10.setCell ⟨p5, 0, none⟩ (.slice a10 (nn + 1) c10) = x := ⟨_, rfl⟩
                rw [hw11]
                have HX11 : Hid (Blk w11 p5 [.slice a10 (nn + 1) c10, .int .u64 X] 69) := hid (by rw [← hw11]; exact HX10.out.set 0 _)
                have HG11 : Hid (w10.grownBy w11 (some p5)) := hid (by rw [← hw11]; exact gset _ _ _)
                have HO11 := hid (HO10.out.offB HG11.out HX10.out (by decide))
                have HS11 := hid (HS10.out.on HG11.out (by have := HPn.out; simp; omega))
                have HA11 := hid (HA10.out.on HG11.out (by have := HPn.out; simp; omega))
                have HSe11 := hid (HSe10.out.on HG11.out (by have := HPn.out; simp; omega))
                have HGw11 := hid (HGw.out.andThen HG11.out (fun j hj => .inl (by injection hj with hj; have := HPn.out; omega)))
                clear hw11 q0 qz
                go_wp2_with fail
                go_roundw
                case rel => exact ⟨i + 1, acc ++ [qq], a10, nn + 1, c10, by go_num, by omega, hid (by have := HAl.out; rw [len_snoc]; omega), hid (by rw [len_snoc, HNn.out]), HAc, HX11, HS11, HA11, HO11, HSe11, HGw11⟩
                case measure => simp [intOf]; omega
          · as_aux_lemma =>
            have hlt' : ¬ (i : Int) < (m : Int) + 1 := by omega
            have hFL : FL = acc := by rw [HAc.out, List.drop_of_length_le (by rw [HN.out]; omega)]; simp
            subst hFL
            go_wp2_with (first
              | (with_reducible refine wpList_load_part (by with_unfolding_all rfl) 69 _ (by with_unfolding_all rfl) p5 0 [.slice ax nn cx, .int .u64 X] _ (by with_unfolding_all rfl) HX.out.whole Try.underlying69 (by with_unfolding_all rfl) (by with_unfolding_all exact Try.size69) ?_)
              | ((with_reducible refine wpList_store_all (by with_unfolding_all rfl) 69 _ _ (by with_unfolding_all rfl) p4 [.slice none 0 0, .int .u64 0] [.slice ax nn cx, .int .u64 X] 69 (by with_unfolding_all rfl) (by with_unfolding_all rfl) HA.out (by with_unfolding_all rfl) (by with_unfolding_all exact Try.size69) (ring_one _ _ _ _) ?_); intro w13 B13 g13 s13; have HA13 := hid B13; have HO13 := hid (HO.out.offB g13 HA.out (by decide)); have HG13 := hid (HG.out.andThen g13 (fun j hj => .inl (by injection hj with hj; have := HPn.out; omega))); clear B13 g13 s13))
            refine bodyPost_ret (v := .tuple #[.agg #[.slice ax nn cx, .int .u64 X], .int .i64 0]) (results_blk_tmp rfl _ p4 69 [.slice ax nn cx, .int .u64 X] _ (.int .i64 0) rfl rfl HA13.out Try.underlying69 rfl (by with_unfolding_all exact Try.size69)) rfl ?_
            exact ⟨ax, cx, by rw [HNn.out], by rw [HNn.out]; exact HO13.out, HG13.out⟩
end Go.Proofs.Ytmpcpakdocaieaa
