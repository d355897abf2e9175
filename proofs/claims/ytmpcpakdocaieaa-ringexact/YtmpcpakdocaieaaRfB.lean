/- The reference's Current and Find. -/
import Derived.Test.YtmpcpakdocaieaaRfA
import Derived.Deep.Cut
namespace Go.Proofs.Ytmpcpakdocaieaa
open Go Go.RowKit
open Go.RowKit (wrap32 wrap64)

theorem last_at {l : List Ky} {m : Nat} (h : l.length = m + 1) : l[m]? = some (lastK l) := by
  unfold lastK
  rw [List.getLast?_eq_getElem?, h, Nat.add_sub_cancel, List.getElem?_eq_getElem (by omega)]
  rfl
set_option maxRecDepth 100000 in
set_option maxHeartbeats 800000 in
theorem rcur_any (w : World) (v : Value) (F : Nat → Prop) (l : List Ky) (nx : Nat) (hv : RdK w F v l) (hl : l.length ≤ 1099511627776) :
    Calls Try.prog 41 #[.agg #[v, .int .u64 nx]] w fun e w' => e = .returned (.tuple #[.agg (if isRing l nx = true then lastK l else zky).cells.toArray, .bool (isRing l nx)]) ∧ w.grownBy w' none := by
  have HV := hid hv
  obtain ⟨ho, a, b, off, c, rfl, hc, Ha, Hc⟩ := hv.open
  obtain ⟨n, HN⟩ : ∃ n, Hid (l.length = n) := ⟨_, hid rfl⟩
  obtain ⟨g, HGd⟩ : ∃ g, Hid (isRing l nx = g) := ⟨_, hid rfl⟩
  have HO := hid ho
  have HCk : Hid (∀ u, w.grownBy u none → Calls Try.prog 34 #[.agg #[.slice a n c, .int .u64 nx]] u fun e w' => e = .returned (.int .i64 (if g = true then 0 else 50)) ∧ u.grownBy w' none) := fun u hu => by
    have := rchk_any u _ F l nx (HV.out.keep hu) hl
    unfold chk at this
    rw [HGd.out, HN.out] at this
    exact this
  rw [HGd.out, HN.out]
  rw [HN.out] at HV
  clear hv hc ho
  cases g with
  | false =>
    rw [if_neg (by decide)] at HCk ⊢
    go_enter Try.func41, Try.ntmps41
    go_wp2_with (first
      | ((with_reducible refine wpList_box_row (by with_unfolding_all rfl) 69 _ (by with_unfolding_all rfl) [.slice a n c, .int .u64 nx] (by with_unfolding_all rfl) ?_); intro w1 B1 s1 g1; have HB1 := hid B1; have HG1 := hid g1; clear B1 s1 g1)
      | ((with_reducible refine wpList_alloc_row (by with_unfolding_all rfl) 107 (by with_unfolding_all rfl) zky.cells Try.zero107 ?_); intro w2 B2 s2 g2; have HB2 := hid B2; have HR2 := hid (HB1.out.keep g2); have HG2 := hid (gtrans HG1.out g2); clear B2 s2 g2)
      | (with_reducible refine wpList_load_part (by with_unfolding_all rfl) 69 _ (by with_unfolding_all rfl) w.heap.size 0 [.slice a n c, .int .u64 nx] _ (by with_unfolding_all rfl) HR2.out.whole Try.underlying69 (by with_unfolding_all rfl) (by with_unfolding_all exact Try.size69) ?_)
      | (go_at_call 34; (with_reducible refine (HCk.out _ HG2.out).mono ?_); rintro e w3 ⟨rfl, hg3⟩; have HB3 := hid (HB2.out.keep hg3); have HR3 := hid (HR2.out.keep hg3); have HG3 := hid (gtrans HG2.out hg3); have y0 := HR3.out.cell 0; have y1 := HR3.out.cell 1; clear hg3)
      | (with_reducible refine wpList_build_row (by with_unfolding_all rfl) 107 (by with_unfolding_all rfl) zky.cells Try.built107 ?_)
      | ((with_reducible refine wpList_store_all (by with_unfolding_all rfl) 107 _ _ (by with_unfolding_all rfl) _ zky.cells zky.cells 107 (by with_unfolding_all rfl) (by with_unfolding_all rfl) HB3.out (by with_unfolding_all rfl) (by with_unfolding_all exact Try.size107) (Ky.one _) ?_); intro w4 B4 g4 s4; have HB4 := hid B4; have HG4 := hid (HG3.out.andThen g4 (fun j hj => .inl (by injection hj with hj; have := HG1.out.size; omega))); clear B4 g4 s4))
    refine bodyPost_ret (v := .tuple #[.agg zky.cells.toArray, .bool false]) (results_blk_tmp rfl _ w1.heap.size 107 zky.cells _ (.bool false) rfl rfl HB4.out Try.underlying107 rfl Try.size107) rfl ?_
    exact ⟨rfl, HG4.out⟩
  | true =>
    rw [if_pos rfl] at HCk ⊢
    have hp := goodL_pos (isRing_good HGd.out).1
    rw [HN.out] at hp
    obtain ⟨m, rfl⟩ : ∃ m, n = m + 1 := ⟨n - 1, by omega⟩
    obtain ⟨rfl, -⟩ := Ha.out (by rw [HN.out]; omega)
    have hla := last_at HN.out
    obtain ⟨q, hq⟩ : ∃ q, lastK l = q := ⟨_, rfl⟩
    rw [hq] at hla ⊢
    obtain ⟨hml, hme⟩ := List.getElem?_eq_some_iff.1 hla
    have HRq : Hid (∀ u, w.grownBy u none → u.rangeAt b (off + m * 34) q.cells) := hid (fun u hu => by have := (Hc.out u hu m hml).1; rw [hme] at this; exact this)
    have HQl : Hid (q.cells.length = 34) := hid (Ky.cells_length (by have := (HO.out _ (List.getElem_mem hml)).2.1; rw [hme] at this; exact this))
    have hm8 : m ≤ 8 := by omega
    clear hp Ha Hc hla hml hme hq
    go_enter Try.func41, Try.ntmps41
    go_wp2_with (first
      | ((with_reducible refine wpList_box_row (by with_unfolding_all rfl) 69 _ (by with_unfolding_all rfl) [.slice (some ⟨b, off, none⟩) (m + 1) c, .int .u64 nx] (by with_unfolding_all rfl) ?_); intro w1 B1 s1 g1; have HB1 := hid B1; have HG1 := hid g1; clear B1 s1 g1)
      | ((with_reducible refine wpList_alloc_row (by with_unfolding_all rfl) 107 (by with_unfolding_all rfl) zky.cells Try.zero107 ?_); intro w2 B2 s2 g2; have HB2 := hid B2; have HR2 := hid (HB1.out.keep g2); have HG2 := hid (gtrans HG1.out g2); clear B2 s2 g2)
      | (with_reducible refine wpList_load_part (by with_unfolding_all rfl) 69 _ (by with_unfolding_all rfl) w.heap.size 0 [.slice (some ⟨b, off, none⟩) (m + 1) c, .int .u64 nx] _ (by with_unfolding_all rfl) HR2.out.whole Try.underlying69 (by with_unfolding_all rfl) (by with_unfolding_all exact Try.size69) ?_)
      | (go_at_call 34; (with_reducible refine (HCk.out _ HG2.out).mono ?_); rintro e w3 ⟨rfl, hg3⟩; have HB3 := hid (HB2.out.keep hg3); have HR3 := hid (HR2.out.keep hg3); have HG3 := hid (gtrans HG2.out hg3); have y0 := HR3.out.cell 0; have y1 := HR3.out.cell 1; clear hg3)
      | (with_reducible refine wpList_load_part (by with_unfolding_all rfl) 107 _ (by with_unfolding_all rfl) b (off + m * 34) q.cells _ (by with_unfolding_all rfl) (HRq.out _ HG3.out) Try.underlying107 (by with_unfolding_all rfl) (by rw [HQl.out]; exact Try.size107) ?_)
      | ((with_reducible refine wpList_store_all (by with_unfolding_all rfl) 107 _ _ (by with_unfolding_all rfl) _ zky.cells q.cells 107 (by with_unfolding_all rfl) (by with_unfolding_all rfl) HB3.out (by rw [HQl.out]; with_unfolding_all rfl) (by rw [HQl.out]; exact Try.size107) (Ky.one _) ?_); intro w4 B4 g4 s4; have HB4 := hid B4; have HG4 := hid (HG3.out.andThen g4 (fun j hj => .inl (by injection hj with hj; have := HG1.out.size; omega))); clear B4 g4 s4))
    refine bodyPost_ret (v := .tuple #[.agg q.cells.toArray, .bool true]) (results_blk_tmp rfl _ w1.heap.size 107 q.cells _ (.bool true) rfl rfl HB4.out Try.underlying107 rfl (by rw [HQl.out]; exact Try.size107)) rfl ?_
    exact ⟨rfl, HG4.out⟩

set_option maxRecDepth 100000 in
set_option maxHeartbeats 1600000 in
theorem rfnd_any (w : World) (v : Value) (F : Nat → Prop) (l : List Ky) (nx kid : Nat) (hv : RdK w F v l) (hl : l.length ≤ 1099511627776) :
    Calls Try.prog 38 #[.agg #[v, .int .u64 nx], .int .u64 kid] w fun e w' => e = .returned (.tuple #[.agg (keyOr (fnd l nx kid)).cells.toArray, .bool (fnd l nx kid).isSome]) ∧ w.grownBy w' none := by
  have HV := hid hv
  obtain ⟨ho, a, b, off, c, rfl, hc, Ha, Hc⟩ := hv.open
  obtain ⟨n, HN⟩ : ∃ n, Hid (l.length = n) := ⟨_, hid rfl⟩
  obtain ⟨g, HGd⟩ : ∃ g, Hid (isRing l nx = g) := ⟨_, hid rfl⟩
  have HO := hid ho
  have HCk : Hid (∀ u, w.grownBy u none → Calls Try.prog 34 #[.agg #[.slice a n c, .int .u64 nx]] u fun e w' => e = .returned (.int .i64 (if g = true then 0 else 50)) ∧ u.grownBy w' none) := fun u hu => by
    have := rchk_any u _ F l nx (HV.out.keep hu) hl
    unfold chk at this
    rw [HGd.out, HN.out] at this
    exact this
  have HFn : Hid (fnd l nx kid = if g = true then findK l kid else none) := hid (by unfold fnd; rw [HGd.out])
  rw [HFn.out, HN.out]
  rw [HN.out] at HV
  clear hv hc ho
  cases g with
  | false =>
    rw [if_neg (by decide)] at HCk ⊢
    show Calls Try.prog 38 _ w fun e w' => e = .returned (.tuple #[.agg zky.cells.toArray, .bool false]) ∧ w.grownBy w' none
    go_enter Try.func38, Try.ntmps38
    go_wp2_with (first
      | ((with_reducible refine wpList_box_row (by with_unfolding_all rfl) 69 _ (by with_unfolding_all rfl) [.slice a n c, .int .u64 nx] (by with_unfolding_all rfl) ?_); intro w1 B1 s1 g1; have HB1 := hid B1; have HG1 := hid g1; clear B1 s1 g1)
      | ((with_reducible refine wpList_alloc_row (by with_unfolding_all rfl) 107 (by with_unfolding_all rfl) zky.cells Try.zero107 ?_); intro w2 B2 s2 g2; have HB2 := hid B2; have HR2 := hid (HB1.out.keep g2); have HG2 := hid (gtrans HG1.out g2); clear B2 s2 g2)
      | (with_reducible refine wpList_load_part (by with_unfolding_all rfl) 69 _ (by with_unfolding_all rfl) w.heap.size 0 [.slice a n c, .int .u64 nx] _ (by with_unfolding_all rfl) HR2.out.whole Try.underlying69 (by with_unfolding_all rfl) (by with_unfolding_all exact Try.size69) ?_)
      | (go_at_call 34; (with_reducible refine (HCk.out _ HG2.out).mono ?_); rintro e w3 ⟨rfl, hg3⟩; have HB3 := hid (HB2.out.keep hg3); have HR3 := hid (HR2.out.keep hg3); have HG3 := hid (gtrans HG2.out hg3); have y0 := HR3.out.cell 0; have y1 := HR3.out.cell 1; clear hg3)
      | (with_reducible refine wpList_build_row (by with_unfolding_all rfl) 107 (by with_unfolding_all rfl) zky.cells Try.built107 ?_)
      | ((with_reducible refine wpList_store_all (by with_unfolding_all rfl) 107 _ _ (by with_unfolding_all rfl) _ zky.cells zky.cells 107 (by with_unfolding_all rfl) (by with_unfolding_all rfl) HB3.out (by with_unfolding_all rfl) (by with_unfolding_all exact Try.size107) (Ky.one _) ?_); intro w4 B4 g4 s4; have HB4 := hid B4; have HG4 := hid (HG3.out.andThen g4 (fun j hj => .inl (by injection hj with hj; have := HG1.out.size; omega))); clear B4 g4 s4))
    refine bodyPost_ret (v := .tuple #[.agg zky.cells.toArray, .bool false]) (results_blk_tmp rfl _ w1.heap.size 107 zky.cells _ (.bool false) rfl rfl HB4.out Try.underlying107 rfl Try.size107) rfl ?_
    exact ⟨rfl, HG4.out⟩
  | true =>
    rw [if_pos rfl] at HCk ⊢
    have hp := goodL_pos (isRing_good HGd.out).1
    rw [HN.out] at hp
    obtain ⟨rfl, -⟩ := Ha.out (by rw [HN.out]; omega)
    obtain ⟨RK, HRK⟩ : ∃ x, Hid (keyOr (findK l kid) = x) := ⟨_, hid rfl⟩
    obtain ⟨RB, HRB⟩ : ∃ x, Hid ((findK l kid).isSome = x) := ⟨_, hid rfl⟩
    rw [HRK.out, HRB.out]
    have hn8 : n ≤ 8 := by omega
    clear hp Ha
    go_enter Try.func38, Try.ntmps38
    go_upto_region 2 with (first
      | ((with_reducible refine wpList_box_row (by with_unfolding_all rfl) 69 _ (by with_unfolding_all rfl) [.slice (some ⟨b, off, none⟩) n c, .int .u64 nx] (by with_unfolding_all rfl) ?_); intro w1 B1 s1 g1; have HB1 := hid B1; have HG1 := hid g1; clear B1 s1 g1)
      | ((with_reducible refine wpList_alloc_row (by with_unfolding_all rfl) 107 (by with_unfolding_all rfl) zky.cells Try.zero107 ?_); intro w2 B2 s2 g2; have HB2 := hid B2; have HR2 := hid (HB1.out.keep g2); have HG2 := hid (gtrans HG1.out g2); clear B2 s2 g2)
      | (with_reducible refine wpList_load_part (by with_unfolding_all rfl) 69 _ (by with_unfolding_all rfl) w.heap.size 0 [.slice (some ⟨b, off, none⟩) n c, .int .u64 nx] _ (by with_unfolding_all rfl) HR2.out.whole Try.underlying69 (by with_unfolding_all rfl) (by with_unfolding_all exact Try.size69) ?_)
      | (go_at_call 34; (with_reducible refine (HCk.out _ HG2.out).mono ?_); rintro e w3 ⟨rfl, hg3⟩; have HB3 := hid (HB2.out.keep hg3); have HR3 := hid (HR2.out.keep hg3); have HG3 := hid (gtrans HG2.out hg3); have y0 := HR3.out.cell 0; have y1 := HR3.out.cell 1; clear hg3))
    clear y0 y1
    go_wp2_with fail
    go_loopw [6] (fun iv wr => ∃ i : Nat, iv = .int .i64 i ∧ i ≤ n ∧ Hid (findK l kid = findK (l.drop i) kid) ∧ Hid (w3.grownBy wr none)) (fun iv _ => n - (intOf iv).toNat)
    case atStart => exact ⟨0, rfl, Nat.zero_le _, hid rfl, hid (grefl _ _)⟩
    case round =>
      obtain ⟨i, rfl, hi, HFd, HGr⟩ := hrel
      have x0 : wr.cell? ⟨w.heap.size, 0, none⟩ = some (.slice (some ⟨b, off, none⟩) n c) := (HR3.out.keep HGr.out).cell 0
      have HBr := hid (HB3.out.keep HGr.out)
      have HGw := hid (gtrans HG3.out HGr.out)
      by_cases hlt : i < n
      · have hlt' : (i : Int) < (n : Int) := by omega
        have hil : i < l.length := by rw [HN.out]; exact hlt
        have hok := HO.out _ (List.getElem_mem hil)
        have hrg := (Hc.out wr HGw.out i hil).1
        have hfd := HFd.out
        rw [List.drop_eq_getElem_cons hil] at hfd
        obtain ⟨q, hq⟩ : ∃ q, l[i] = q := ⟨_, rfl⟩
        rw [hq] at hok hrg hfd
        obtain ⟨y0, -⟩ := Ky.at_ hok hrg
        have HRq := hid hrg
        have HQl : Hid (q.cells.length = 34) := hid (Ky.cells_length hok.2.1)
        have HFq := hid hfd
        obtain ⟨qk, hqk⟩ : ∃ x, q.kid = x := ⟨_, rfl⟩
        rw [hqk] at y0
        have HQk := hid hqk
        clear hok hrg hfd hq hqk hil
        by_cases hk : qk = kid
        · as_aux_lemma =>
          have HEq : Hid (findK l kid = some q) := hid (by rw [HFq.out]; unfold findK; rw [List.find?_cons_of_pos (by rw [HQk.out]; simpa using hk)])
          obtain rfl : RB = true := by rw [← HRB.out, HEq.out]; rfl
          obtain rfl : RK = q := by rw [← HRK.out, HEq.out]; rfl
          subst hk
          go_wp2_with (first
            | (with_reducible refine wpList_load_part (by with_unfolding_all rfl) 107 _ (by with_unfolding_all rfl) b (off + i * 34) RK.cells _ (by with_unfolding_all rfl) HRq.out Try.underlying107 (by with_unfolding_all rfl) (by rw [HQl.out]; exact Try.size107) ?_)
            | ((with_reducible refine wpList_store_all (by with_unfolding_all rfl) 107 _ _ (by with_unfolding_all rfl) _ zky.cells RK.cells 107 (by with_unfolding_all rfl) (by with_unfolding_all rfl) HBr.out (by rw [HQl.out]; with_unfolding_all rfl) (by rw [HQl.out]; exact Try.size107) (Ky.one _) ?_); intro w4 B4 g4 s4; have HB4 := hid B4; have HG4 := hid (HGw.out.andThen g4 (fun j hj => .inl (by injection hj with hj; have := HG1.out.size; omega))); clear B4 g4 s4))
          refine bodyPost_ret (v := .tuple #[.agg RK.cells.toArray, .bool true]) (results_blk_tmp rfl _ w1.heap.size 107 RK.cells _ (.bool true) rfl rfl HB4.out Try.underlying107 rfl (by rw [HQl.out]; exact Try.size107)) rfl ?_
          exact ⟨rfl, HG4.out⟩
        · as_aux_lemma =>
          have hk1 : ¬ (qk : Int) = (kid : Int) := by omega
          have hk2 : ((qk : Int) == (kid : Int)) = false := beq_eq_false_iff_ne.2 hk1
          have HFn2 : Hid (findK l kid = findK (l.drop (i + 1)) kid) := hid (by rw [HFq.out]; unfold findK; rw [List.find?_cons_of_neg (by rw [HQk.out]; simpa using hk)])
          clear hk
          go_wp2_with fail
          go_roundw
          case rel => exact ⟨i + 1, by go_num, by omega, HFn2, HGr⟩
          case measure => simp [intOf]; omega
      · as_aux_lemma =>
        have hlt' : ¬ (i : Int) < (n : Int) := by omega
        have HEq : Hid (findK l kid = none) := hid (by rw [HFd.out, List.drop_of_length_le (by rw [HN.out]; omega)]; rfl)
        obtain rfl : RB = false := by rw [← HRB.out, HEq.out]; rfl
        obtain rfl : RK = zky := by rw [← HRK.out, HEq.out]; rfl
        go_wp2_with (first
          | (with_reducible refine wpList_build_row (by with_unfolding_all rfl) 107 (by with_unfolding_all rfl) zky.cells Try.built107 ?_)
          | ((with_reducible refine wpList_store_all (by with_unfolding_all rfl) 107 _ _ (by with_unfolding_all rfl) _ zky.cells zky.cells 107 (by with_unfolding_all rfl) (by with_unfolding_all rfl) HBr.out (by with_unfolding_all rfl) (by with_unfolding_all exact Try.size107) (Ky.one _) ?_); intro w4 B4 g4 s4; have HB4 := hid B4; have HG4 := hid (HGw.out.andThen g4 (fun j hj => .inl (by injection hj with hj; have := HG1.out.size; omega))); clear B4 g4 s4))
        refine bodyPost_ret (v := .tuple #[.agg zky.cells.toArray, .bool false]) (results_blk_tmp rfl _ w1.heap.size 107 zky.cells _ (.bool false) rfl rfl HB4.out Try.underlying107 rfl Try.size107) rfl ?_
        exact ⟨rfl, HG4.out⟩
end Go.Proofs.Ytmpcpakdocaieaa
