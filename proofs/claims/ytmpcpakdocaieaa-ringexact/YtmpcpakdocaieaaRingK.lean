/- Distrust. -/
import Derived.Test.YtmpcpakdocaieaaRingJ
namespace Go.Proofs.Ytmpcpakdocaieaa
open Go Go.RowKit
open Go.RowKit (wrap32 wrap64)

/-- What Distrust tells. -/
def disK (l : List Ky) (nx : Nat) (sec : List UInt8) (q : Ky) : List Ky × Nat := if (q == lastK l) = true then (l.filter (fun k => !(k == q)) ++ [⟨nx, sec, 0⟩], nx + 1) else (l.filter (fun k => !(k == q)), nx)
def disE (l : List Ky) (nx kid : Nat) : Int := if isRing l nx = true then (match findK l kid with | none => 53 | some q => if ((q == lastK l) && decide (nx = 9223372036854775807)) = true then 51 else 0) else 50
def disR (l : List Ky) (nx kid : Nat) (sec : List UInt8) : List Ky × Nat := if disE l nx kid = 0 then (match findK l kid with | none => ([], 0) | some q => disK l nx sec q) else ([], 0)
set_option maxRecDepth 100000 in
set_option maxHeartbeats 1600000 in
theorem distrust_any (w : World) (v : Value) (F : Nat → Prop) (l : List Ky) (nx kid : Nat) (sec : List UInt8) (hv : RdK w F v l) (hl : l.length ≤ 1099511627776) (hs : sec.length = 32) :
    Calls Try.prog 16 #[.agg #[v, .int .u64 nx], .int .u64 kid, .agg (Lib.byteCells sec).toArray] w fun e w' => ∃ a c, e = .returned (.tuple #[.agg #[.slice a (disR l nx kid sec).1.length c, .int .u64 (disR l nx kid sec).2], .int .i64 (disE l nx kid)]) ∧ OutK w.heap.size w' (.slice a (disR l nx kid sec).1.length c) (disR l nx kid sec).1 ∧ w.grownBy w' none := by
  have HV := hid hv
  obtain ⟨ho, a, b, off, c, rfl, hc, Ha, Hc⟩ := hv.open
  obtain ⟨n, HN⟩ : ∃ n, Hid (l.length = n) := ⟨_, hid rfl⟩
  have HO := hid ho
  obtain ⟨g, HGd⟩ : ∃ g, Hid (isRing l nx = g) := ⟨_, hid rfl⟩
  have HCk : Hid (∀ u, w.grownBy u none → Calls Try.prog 31 #[.agg #[.slice a n c, .int .u64 nx]] u fun e w' => e = .returned (.int .i64 (if g = true then 0 else 50)) ∧ u.grownBy w' none) := fun u hu => by
    have := check_any u _ F l nx (HV.out.keep hu) hl
    unfold chk at this
    rw [HGd.out, HN.out] at this
    exact this
  rw [HN.out] at HV
  have HRE : Hid (disE l nx kid = if g = true then (match findK l kid with | none => 53 | some q => if ((q == lastK l) && decide (nx = 9223372036854775807)) = true then 51 else 0) else 50) := hid (by unfold disE; rw [HGd.out])
  obtain ⟨cs, HCS⟩ : ∃ cs, Hid (Lib.byteCells sec = cs) := ⟨_, hid rfl⟩
  have HCL : Hid (cs.length = 32) := hid (by rw [← HCS.out, byteCells_length, hs])
  have HWC : Hid (∀ (u : World) (v : Value) (acc : List Ky) (B : Nat), OutK B u v acc → B ≤ u.heap.size → acc.length ≤ 1000000 → nx < 18446744073709551615 → Calls Try.prog 33 #[v, .int .u64 nx, .agg cs.toArray] u fun e w' => ∃ a c, e = .returned (.agg #[.slice a (acc.length + 1) c, .int .u64 (nx + 1 : Nat)]) ∧ OutK B w' (.slice a (acc.length + 1) c) (acc ++ [⟨nx, sec, 0⟩]) ∧ u.grownBy w' v.ownBlock) := fun u v acc B h1 h2 h3 h4 => by
    rw [← HCS.out]
    exact withCurrent_any u B v acc nx sec h1 h2 h3 h4 hs
  rw [HN.out, HCS.out]
  have HLl := hid hl
  clear hv hc ho Ha Hc hl
  obtain ⟨W1, hW1⟩ : ∃ x, w.alloc (.cells #[.slice a n c, .int .u64 nx] 69) = x := ⟨_, rfl⟩
  obtain ⟨b1, hb1⟩ : ∃ x, w.heap.size = x := ⟨_, rfl⟩
  have HB1 : Hid (Blk W1 b1 [.slice a n c, .int .u64 nx] 69) := hid (by rw [← hW1, ← hb1]; exact Blk.new w [.slice a n c, .int .u64 nx] 69)
  have HG1 : Hid (w.grownBy W1 none) := hid (by rw [← hW1]; exact galloc _ _ _)
  have HSz : Hid (W1.heap.size = b1 + 1) := hid (by rw [← hW1, ← hb1]; simp)
  have hs1 := HSz.out
  rw [hb1]
  cases g with
  | false =>
    rw [if_neg (by decide)] at HCk HRE
    have HRR : Hid (disR l nx kid sec = ([], 0)) := hid (by unfold disR; rw [HRE.out, if_neg (by decide)])
    rw [HRR.out, HRE.out]
    show Calls _ _ _ _ (fun e w' => ∃ a c, e = .returned (.tuple #[.agg #[.slice a 0 c, .int .u64 (0 : Nat)], .int .i64 50]) ∧ OutK b1 w' (.slice a 0 c) [] ∧ w.grownBy w' none)
    go_enter Try.func16, Try.ntmps16
    go_wp2_with (first
      | (with_reducible refine wpList_box_row (by with_unfolding_all rfl) 70 _ (by with_unfolding_all rfl) cs (by with_unfolding_all rfl) ?_; intro w2 B2 s2 g2; have HB2 := hid B2; have HG2 := hid g2; have HS2 := hid s2; clear B2 g2 s2; rw [hs1] at HB2)
      | (with_reducible refine wpList_alloc_row (by with_unfolding_all rfl) 69 (by with_unfolding_all rfl) [.slice none 0 0, .int .u64 0] Try.zero69 ?_; intro w3 B3 s3 g3; have HB3 := hid B3; have HG3 := hid g3; have HS3 := hid s3; clear B3 g3 s3; have HR3 := hid ((HB1.out.keep HG2.out).keep HG3.out); have y0 := HR3.out.cell 0; have y1 := HR3.out.cell 1)
      | (with_reducible refine wpList_load_part (by with_unfolding_all rfl) 69 _ (by with_unfolding_all rfl) b1 0 [.slice a n c, .int .u64 nx] _ (by with_unfolding_all rfl) HR3.out.whole Try.underlying69 (by with_unfolding_all rfl) (by with_unfolding_all exact Try.size69) ?_)
      | (go_at_call 31; with_reducible refine (HCk.out _ (gtrans HG1.out (gtrans HG2.out HG3.out))).mono ?_; rintro e w4 ⟨rfl, hg4⟩; have HG4 := hid hg4; clear hg4; have HB4 := hid (HB3.out.keep HG4.out); have HGx := hid (gtrans (gtrans HG1.out (gtrans HG2.out HG3.out)) HG4.out); have HR4 := hid (HR3.out.keep HG4.out); have HC4 := hid ((HB2.out.keep HG3.out).keep HG4.out); have y0 := HR4.out.cell 0; have y1 := HR4.out.cell 1)
      | (with_reducible refine wpList_build_row (by with_unfolding_all rfl) 69 (by with_unfolding_all rfl) [.slice none 0 0, .int .u64 0] Try.built69 ?_)
      | (with_reducible refine wpList_store_all (by with_unfolding_all rfl) 69 _ _ (by with_unfolding_all rfl) _ [.slice none 0 0, .int .u64 0] [.slice none 0 0, .int .u64 0] 69 (by with_unfolding_all rfl) (by with_unfolding_all rfl) HB4.out (by with_unfolding_all rfl) (by with_unfolding_all exact Try.size69) (ring_one _ _ _ _) ?_; intro w5 B5 g5 s5; have HB5 := hid B5; have HG5 := hid g5; have HS5 := hid s5; clear B5 g5 s5))
    refine bodyPost_ret (v := .tuple #[.agg #[.slice none 0 0, .int .u64 0], .int .i64 50]) (results_blk_tmp rfl _ w2.heap.size 69 [.slice none 0 0, .int .u64 0] _ (.int .i64 50) rfl rfl HB5.out Try.underlying69 rfl Try.size69) rfl ?_
    exact ⟨none, 0, rfl, OutK.nil _ _, HGx.out.andThen HG5.out (fun j hj => .inl (by injection hj with hj; have := HG1.out.size; have := HG2.out.size; omega))⟩
  | true =>
    rw [if_pos rfl] at HCk HRE
    have HFd : Hid (fnd l nx kid = findK l kid) := hid (by unfold fnd; rw [HGd.out, if_pos rfl])
    have hfn := fun (u : World) (hu : w.grownBy u none) => rfind_any u _ F l nx kid (HV.out.keep hu) HLl.out
    rw [HFd.out] at hfn
    obtain ⟨hl0, hl8⟩ := goodL_pos (isRing_good HGd.out).1
    have hnxm := (isRing_good HGd.out).2.2
    cases hf : findK l kid with
    | none =>
      rw [hf] at hfn HRE
      have HRR : Hid (disR l nx kid sec = ([], 0)) := hid (by unfold disR; rw [HRE.out]; rfl)
      rw [HRR.out, HRE.out]
      have HFn : Hid (∀ u, w.grownBy u none → Calls Try.prog 30 #[.agg #[.slice a n c, .int .u64 nx], .int .u64 kid] u fun e w' => e = .returned (.tuple #[.agg zky.cells.toArray, .bool false]) ∧ u.grownBy w' none) := hid hfn
      obtain ⟨q, hq⟩ : ∃ q, q = zky := ⟨_, rfl⟩
      have HQL : Hid (q.cells.length = 34) := hid (by rw [hq]; exact Ky.cells_length zky_ok.2.1)
      have HQ1 : Hid (∀ v ∈ q.cells, v.oneCell' = true) := hid (Ky.one _)
      rw [← hq] at HFn
      clear hq hf hfn hl0 hl8 hnxm
      show Calls _ _ _ _ (fun e w' => ∃ a c, e = .returned (.tuple #[.agg #[.slice a 0 c, .int .u64 (0 : Nat)], .int .i64 53]) ∧ OutK b1 w' (.slice a 0 c) [] ∧ w.grownBy w' none)
      go_enter Try.func16, Try.ntmps16
      go_wp2_with (first
        | (with_reducible refine wpList_box_row (by with_unfolding_all rfl) 70 _ (by with_unfolding_all rfl) cs (by with_unfolding_all rfl) ?_; intro w2 B2 s2 g2; have HB2 := hid B2; have HG2 := hid g2; have HS2 := hid s2; clear B2 g2 s2; rw [hs1] at HB2)
        | (with_reducible refine wpList_alloc_row (by with_unfolding_all rfl) 69 (by with_unfolding_all rfl) [.slice none 0 0, .int .u64 0] Try.zero69 ?_; intro w3 B3 s3 g3; have HB3 := hid B3; have HG3 := hid g3; have HS3 := hid s3; clear B3 g3 s3; have HR3 := hid ((HB1.out.keep HG2.out).keep HG3.out); have y0 := HR3.out.cell 0; have y1 := HR3.out.cell 1)
        | (with_reducible refine wpList_load_part (by with_unfolding_all rfl) 69 _ (by with_unfolding_all rfl) b1 0 [.slice a n c, .int .u64 nx] _ (by with_unfolding_all rfl) HR3.out.whole Try.underlying69 (by with_unfolding_all rfl) (by with_unfolding_all exact Try.size69) ?_)
        | (go_at_call 31; with_reducible refine (HCk.out _ (gtrans HG1.out (gtrans HG2.out HG3.out))).mono ?_; rintro e w4 ⟨rfl, hg4⟩; have HG4 := hid hg4; clear hg4; have HB4 := hid (HB3.out.keep HG4.out); have HGx := hid (gtrans (gtrans HG1.out (gtrans HG2.out HG3.out)) HG4.out); have HR4 := hid (HR3.out.keep HG4.out); have HC4 := hid ((HB2.out.keep HG3.out).keep HG4.out); have y0 := HR4.out.cell 0; have y1 := HR4.out.cell 1)
        | (with_reducible refine wpList_load_part (by with_unfolding_all rfl) 69 _ (by with_unfolding_all rfl) b1 0 [.slice a n c, .int .u64 nx] _ (by with_unfolding_all rfl) HR4.out.whole Try.underlying69 (by with_unfolding_all rfl) (by with_unfolding_all exact Try.size69) ?_)
        | (go_at_call 30; (with_reducible refine (HFn.out _ HGx.out).mono ?_); rintro e w5 ⟨rfl, hg5⟩; have HG5 := hid hg5; clear hg5; have HB5 := hid (HB4.out.keep HG5.out); have HR5 := hid (HR4.out.keep HG5.out); have HC5 := hid (HC4.out.keep HG5.out); have HGx5 := hid (gtrans HGx.out HG5.out))
        | (with_reducible refine wpList_alloc_row (by with_unfolding_all rfl) 107 (by with_unfolding_all rfl) zky.cells Try.zero107 ?_; intro w6 B6 s6 g6; have HB6 := hid B6; have HG6 := hid g6; have HS6 := hid s6; clear B6 g6 s6)
        | (with_reducible refine wpList_store_all (by with_unfolding_all rfl) 107 _ _ (by with_unfolding_all rfl) _ zky.cells q.cells 107 (by with_unfolding_all rfl) (by with_unfolding_all rfl) HB6.out (by rw [HQL.out]; with_unfolding_all rfl) (by rw [HQL.out]; exact Try.size107) HQ1.out ?_; intro w7 B7 g7 s7; have HB7 := hid B7; have HG7 := hid g7; have HS7 := hid s7; clear B7 g7 s7; have hb5 := HB5.out.lt; have hr5 := HR5.out.lt; have hc5 := HC5.out.lt; have HB7r := hid ((HB5.out.keep HG6.out).on HG7.out (by simp; omega)); have HR7 := hid ((HR5.out.keep HG6.out).on HG7.out (by simp; omega)); have HC7 := hid ((HC5.out.keep HG6.out).on HG7.out (by simp; omega)); have HG7x := hid ((gtrans HGx5.out HG6.out).andThen HG7.out (fun j hj => .inl (by injection hj with hj; have := HGx5.out.size; omega))); clear hb5 hr5 hc5; have y0 := HR7.out.cell 0; have y1 := HR7.out.cell 1)
        | (with_reducible refine wpList_build_row (by with_unfolding_all rfl) 69 (by with_unfolding_all rfl) [.slice none 0 0, .int .u64 0] Try.built69 ?_)
        | (with_reducible refine wpList_store_all (by with_unfolding_all rfl) 69 _ _ (by with_unfolding_all rfl) _ [.slice none 0 0, .int .u64 0] [.slice none 0 0, .int .u64 0] 69 (by with_unfolding_all rfl) (by with_unfolding_all rfl) HB7r.out (by with_unfolding_all rfl) (by with_unfolding_all exact Try.size69) (ring_one _ _ _ _) ?_; intro w8 B8 g8 s8; have HB8 := hid B8; have HG8 := hid g8; have HS8 := hid s8; clear B8 g8 s8))
      refine bodyPost_ret (v := .tuple #[.agg #[.slice none 0 0, .int .u64 0], .int .i64 53]) (results_blk_tmp rfl _ w2.heap.size 69 [.slice none 0 0, .int .u64 0] _ (.int .i64 53) rfl rfl HB8.out Try.underlying69 rfl Try.size69) rfl ?_
      exact ⟨none, 0, rfl, OutK.nil _ _, HG7x.out.andThen HG8.out (fun j hj => .inl (by injection hj with hj; have := HG1.out.size; have := HG2.out.size; omega))⟩
    | some q =>
      rw [hf] at hfn HRE
      have HFn : Hid (∀ u, w.grownBy u none → Calls Try.prog 30 #[.agg #[.slice a n c, .int .u64 nx], .int .u64 kid] u fun e w' => e = .returned (.tuple #[.agg q.cells.toArray, .bool true]) ∧ u.grownBy w' none) := hid hfn
      have hqm : q ∈ l := List.mem_of_find?_eq_some hf
      have hqo := HO.out q hqm
      have HQL : Hid (q.cells.length = 34) := hid (Ky.cells_length hqo.2.1)
      have HQ1 : Hid (∀ v ∈ q.cells, v.oneCell' = true) := hid (Ky.one _)
      have HDR : Hid (disR l nx kid sec = if disE l nx kid = 0 then disK l nx sec q else ([], 0)) := hid (by unfold disR; rw [hf])
      obtain ⟨K, HK⟩ : ∃ K, Hid (lastK l = K) := ⟨_, hid rfl⟩
      have hlm : lastK l ∈ l := by
        unfold lastK
        rw [List.getLast?_eq_getElem?, List.getElem?_eq_getElem (by omega)]
        exact List.getElem_mem _
      have hKo := HO.out _ hlm
      have HLa : Hid (∀ u, w.grownBy u none → Calls Try.prog 39 #[.slice a n c] u fun e w' => e = .returned (.agg K.cells.toArray) ∧ u.grownBy w' none) := fun u hu => by
        rw [← HK.out]
        exact last_any u _ F l (HV.out.keep hu) hl0 HLl.out
      rw [HK.out] at hKo
      obtain ⟨eq, HEqv⟩ : ∃ eq, Hid ((q == K) = eq) := ⟨_, hid rfl⟩
      have HEq : Hid (∀ (x y : Operand) (u : World), (do eqGuard .eql 107 x y (.agg q.cells.toArray) (.agg K.cells.toArray); binOp .eql 107 (.agg q.cells.toArray) (.agg K.cells.toArray) : Sem Value).run Try.prog u = .ok (.bool eq) u) := fun x y u => by
        rw [← HEqv.out]
        exact eql_key hqo.2.1 hKo.2.1 u
      have HRE2 : Hid (disE l nx kid = if (eq && decide (nx = 9223372036854775807)) = true then 51 else 0) := hid (by rw [HRE.out]; simp only []; rw [HK.out, HEqv.out])
      have HDK : Hid (disK l nx sec q = if eq = true then (l.filter (fun k => !(k == q)) ++ [⟨nx, sec, 0⟩], nx + 1) else (l.filter (fun k => !(k == q)), nx)) := hid (by unfold disK; rw [HK.out, HEqv.out])
      have HWo0 : Hid (∀ (u : World) (p : Nat), Blk u p q.cells 107 → w.grownBy u none → Calls Try.prog 36 #[.slice a n c, .func (.func 40) #[] #[.pointer (some ⟨p, 0, none⟩)]] u fun e w' => ∃ v', e = .returned v' ∧ OutK u.heap.size w' v' (l.filter fun k => !(k == q)) ∧ u.grownBy w' none) := fun u p hp hu => without_bad u _ F l p q hqo hp (HV.out.keep hu) (by omega)
      obtain ⟨L', HL'⟩ : ∃ x, Hid (l.filter (fun k => !(k == q)) = x) := ⟨_, hid rfl⟩
      obtain ⟨m, HLL⟩ : ∃ x, Hid (L'.length = x) := ⟨_, hid rfl⟩
      have HM8 : Hid (m ≤ 8) := hid (by rw [← HLL.out, ← HL'.out]; exact Nat.le_trans (List.length_filter_le _ _) hl8)
      rw [HL'.out] at HWo0 HDK
      have HWo := HWo0
      have HNx := hid hnxm
      have HW7 : Hid (∀ (u : World) (v : Value), OutK b1 u v L' → b1 ≤ u.heap.size → Calls Try.prog 33 #[v, .int .u64 nx, .agg cs.toArray] u fun e w' => ∃ a c, e = .returned (.agg #[.slice a (m + 1) c, .int .u64 (nx + 1 : Nat)]) ∧ OutK b1 w' (.slice a (m + 1) c) (L' ++ [Ky.mk nx sec 0]) ∧ u.grownBy w' v.ownBlock) := fun u v h1 h2 => by
        have := HWC.out u v L' b1 h1 h2 (by rw [HLL.out]; have := HM8.out; omega) (by have := HNx.out; omega)
        rw [HLL.out] at this
        exact this
      clear hf hfn hl0 hl8 hqm hqo hlm hKo HK HRE HWo0 hnxm
      cases eq with
      | true =>
        by_cases hmx : nx = 9223372036854775807
        · rw [decide_eq_true hmx, Bool.true_and, if_pos rfl] at HRE2
          have HRR : Hid (disR l nx kid sec = ([], 0)) := hid (by rw [HDR.out, HRE2.out, if_neg (by decide)])
          rw [HRR.out, HRE2.out]
          have hmx' : ((nx : Int) == 9223372036854775807) = true := by rw [beq_iff_eq]; omega
          clear hmx
          show Calls _ _ _ _ (fun e w' => ∃ a c, e = .returned (.tuple #[.agg #[.slice a 0 c, .int .u64 (0 : Nat)], .int .i64 51]) ∧ OutK b1 w' (.slice a 0 c) [] ∧ w.grownBy w' none)
          go_enter Try.func16, Try.ntmps16
          go_wp2_with (first
            | (with_reducible refine wpList_box_row (by with_unfolding_all rfl) 70 _ (by with_unfolding_all rfl) cs (by with_unfolding_all rfl) ?_; intro w2 B2 s2 g2; have HB2 := hid B2; have HG2 := hid g2; have HS2 := hid s2; clear B2 g2 s2; rw [hs1] at HB2)
            | (with_reducible refine wpList_alloc_row (by with_unfolding_all rfl) 69 (by with_unfolding_all rfl) [.slice none 0 0, .int .u64 0] Try.zero69 ?_; intro w3 B3 s3 g3; have HB3 := hid B3; have HG3 := hid g3; have HS3 := hid s3; clear B3 g3 s3; have HR3 := hid ((HB1.out.keep HG2.out).keep HG3.out); have y0 := HR3.out.cell 0; have y1 := HR3.out.cell 1)
            | (with_reducible refine wpList_load_part (by with_unfolding_all rfl) 69 _ (by with_unfolding_all rfl) b1 0 [.slice a n c, .int .u64 nx] _ (by with_unfolding_all rfl) HR3.out.whole Try.underlying69 (by with_unfolding_all rfl) (by with_unfolding_all exact Try.size69) ?_)
            | (go_at_call 31; with_reducible refine (HCk.out _ (gtrans HG1.out (gtrans HG2.out HG3.out))).mono ?_; rintro e w4 ⟨rfl, hg4⟩; have HG4 := hid hg4; clear hg4; have HB4 := hid (HB3.out.keep HG4.out); have HGx := hid (gtrans (gtrans HG1.out (gtrans HG2.out HG3.out)) HG4.out); have HR4 := hid (HR3.out.keep HG4.out); have HC4 := hid ((HB2.out.keep HG3.out).keep HG4.out); have y0 := HR4.out.cell 0; have y1 := HR4.out.cell 1)
            | (with_reducible refine wpList_load_part (by with_unfolding_all rfl) 69 _ (by with_unfolding_all rfl) b1 0 [.slice a n c, .int .u64 nx] _ (by with_unfolding_all rfl) HR4.out.whole Try.underlying69 (by with_unfolding_all rfl) (by with_unfolding_all exact Try.size69) ?_)
            | (go_at_call 30; (with_reducible refine (HFn.out _ HGx.out).mono ?_); rintro e w5 ⟨rfl, hg5⟩; have HG5 := hid hg5; clear hg5; have HB5 := hid (HB4.out.keep HG5.out); have HR5 := hid (HR4.out.keep HG5.out); have HC5 := hid (HC4.out.keep HG5.out); have HGx5 := hid (gtrans HGx.out HG5.out))
            | (with_reducible refine wpList_alloc_row (by with_unfolding_all rfl) 107 (by with_unfolding_all rfl) zky.cells Try.zero107 ?_; intro w6 B6 s6 g6; have HB6 := hid B6; have HG6 := hid g6; have HS6 := hid s6; clear B6 g6 s6)
            | (with_reducible refine wpList_store_all (by with_unfolding_all rfl) 107 _ _ (by with_unfolding_all rfl) _ zky.cells q.cells 107 (by with_unfolding_all rfl) (by with_unfolding_all rfl) HB6.out (by rw [HQL.out]; with_unfolding_all rfl) (by rw [HQL.out]; exact Try.size107) HQ1.out ?_; intro w7 B7 g7 s7; have HB7 := hid B7; have HG7 := hid g7; have HS7 := hid s7; clear B7 g7 s7; have hb5 := HB5.out.lt; have hr5 := HR5.out.lt; have hc5 := HC5.out.lt; have HB7r := hid ((HB5.out.keep HG6.out).on HG7.out (by simp; omega)); have HR7 := hid ((HR5.out.keep HG6.out).on HG7.out (by simp; omega)); have HC7 := hid ((HC5.out.keep HG6.out).on HG7.out (by simp; omega)); have HG7x := hid ((gtrans HGx5.out HG6.out).andThen HG7.out (fun j hj => .inl (by injection hj with hj; have := HGx5.out.size; omega))); clear hb5 hr5 hc5; have y0 := HR7.out.cell 0; have y1 := HR7.out.cell 1))
          obtain ⟨bq, hbq⟩ : ∃ x, w5.heap.size = x := ⟨_, rfl⟩
          rw [hbq] at HB7 ⊢
          clear hbq HB6
          refine wp_region_quietA (by kernel_rfl) (by kernel_rfl) (fun u => w7.grownBy u none) (gdrew1 w7 none) _ rfl ?_
          intro A hA
          have hA3 : A.eval (.tmp 3) = (.pointer (some ⟨b1, 0, none⟩)) := by rw [hA]; rfl
          have hA9 : A.eval (.tmp 9) = (.pointer (some ⟨bq, 0, none⟩)) := by rw [hA]; rfl
          have hsz : A.tmps.size = 54 := by rw [hA]; rfl
          have HAx := hid hA
          clear hA
          with_reducible refine wpQuiet_one ?gd (.agg q.cells.toArray) ?q ?_
          case gd => rfl
          case q =>
            intro u hu
            with_reducible refine quietAt_load 107 (.tmp 9) ?h0 bq 0 q.cells (.struct (Try.prog.fieldsOf 107)) ?h1 ?h2 ?h3 ?h4 ?h5
            case h0 => rfl
            case h1 => (repeat with_reducible refine (ev_ne _ _ _ _ (by decide)).trans ?_); with_reducible first | exact hA3 | exact hA9 | exact ev_same _ _ _ (by (repeat with_reducible refine lt_put ?_); rw [hsz]; decide)
            case h2 => exact (HB7.out.keep hu).whole
            case h3 => exact Try.under107
            case h4 => rfl
            case h5 => rw [HQL.out]; exact Try.size107
          dsimp only
          with_reducible refine wpQuiet_one ?gd (.pointer (some ⟨b1, 0, none⟩)) ?q ?_
          case gd => rfl
          case q =>
            intro u hu
            with_reducible refine quietAt_field 69 (.tmp 3) 0 ?h0 ⟨b1, 0, none⟩ ⟨b1, 0, none⟩ ?h1 ?h2
            case h0 => rfl
            case h1 => (repeat with_reducible refine (ev_ne _ _ _ _ (by decide)).trans ?_); with_reducible first | exact hA3 | exact hA9 | exact ev_same _ _ _ (by (repeat with_reducible refine lt_put ?_); rw [hsz]; decide)
            case h2 => kernel_rfl
          dsimp only
          with_reducible refine wpQuiet_one ?gd (.slice a n c) ?q ?_
          case gd => rfl
          case q =>
            intro u hu
            with_reducible refine quietAt_ld 55 (.tmp 29) (.pointer (some ⟨b1, 0, none⟩)) (.slice a n c) ?h0 ?h1 ?h2
            case h0 => rfl
            case h1 => (repeat with_reducible refine (ev_ne _ _ _ _ (by decide)).trans ?_); with_reducible first | exact hA3 | exact hA9 | exact ev_same _ _ _ (by (repeat with_reducible refine lt_put ?_); rw [hsz]; decide)
            case h2 => exact ld55 b1 0 n c a u ((HR7.out.keep hu).cell 0)
          dsimp only
          with_reducible refine wpQuiet_one ?gd (.agg K.cells.toArray) ?q ?_
          case gd => rfl
          case q =>
            intro u hu
            with_reducible refine quietAt_call 39 Try.f39 ?h0 ?h1 ?h2 #[.tmp 30] #[55] ?h3 (.agg K.cells.toArray) #[(.slice a n c)] ?h4 ?h5
            case h0 => exact Try.func39
            case h1 => kernel_rfl
            case h2 => kernel_rfl
            case h3 => rfl
            case h4 => exact map1 _ _ _ (by (repeat with_reducible refine (ev_ne _ _ _ _ (by decide)).trans ?_); with_reducible first | exact hA3 | exact hA9 | exact ev_same _ _ _ (by (repeat with_reducible refine lt_put ?_); rw [hsz]; decide))
            case h5 => exact (HLa.out u (gtrans HG7x.out hu)).mono fun e w' h => ⟨h.1, gtrans hu h.2⟩
          dsimp only
          with_reducible refine wpQuiet_one ?gd (.bool true) ?q ?_
          case gd => rfl
          case q =>
            intro u hu
            with_reducible refine quietAt_bin .eql 107 (.tmp 28) (.tmp 31) 107 (.agg q.cells.toArray) (.agg K.cells.toArray) (.bool true) ?h0 ?h1 ?h2 ?h3
            case h0 => rfl
            case h1 => (repeat with_reducible refine (ev_ne _ _ _ _ (by decide)).trans ?_); with_reducible first | exact hA3 | exact hA9 | exact ev_same _ _ _ (by (repeat with_reducible refine lt_put ?_); rw [hsz]; decide)
            case h2 => (repeat with_reducible refine (ev_ne _ _ _ _ (by decide)).trans ?_); with_reducible first | exact hA3 | exact hA9 | exact ev_same _ _ _ (by (repeat with_reducible refine lt_put ?_); rw [hsz]; decide)
            case h3 => exact HEq.out _ _ u
          dsimp only
          with_reducible refine wpQuiet_one ?gd (.bool true) ?q ?_
          case gd => rfl
          case q =>
            intro u hu
            with_reducible refine quietAt_as (.tmp 32) (.bool true) ?h0 ?h1
            case h0 => rfl
            case h1 => (repeat with_reducible refine (ev_ne _ _ _ _ (by decide)).trans ?_); with_reducible first | exact hA3 | exact hA9 | exact ev_same _ _ _ (by (repeat with_reducible refine lt_put ?_); rw [hsz]; decide)
          dsimp only
          with_reducible refine wpQuiet_nil ?_
          intro u8 hu8
          rw [HAx.out]
          simp only [Act.put, List.setIfInBounds_toArray, List.set_cons_succ, List.set_cons_zero]
          clear HAx hA3 hA9 hsz y0 y1
          have HB8 := hid (HB7r.out.keep hu8)
          have HR8 := hid (HR7.out.keep hu8)
          have HC8 := hid (HC7.out.keep hu8)
          have HQ8 := hid (HB7.out.keep hu8)
          have HG8 := hid (gtrans HG7x.out hu8)
          have y0 := HR8.out.cell 0
          have y1 := HR8.out.cell 1
          clear hu8 HB7r HR7 HC7 HB7 HG7x
          go_wp2_with (first
            | (with_reducible refine wpList_build_row (by with_unfolding_all rfl) 69 (by with_unfolding_all rfl) [.slice none 0 0, .int .u64 0] Try.built69 ?_)
            | (with_reducible refine wpList_store_all (by with_unfolding_all rfl) 69 _ _ (by with_unfolding_all rfl) _ [.slice none 0 0, .int .u64 0] [.slice none 0 0, .int .u64 0] 69 (by with_unfolding_all rfl) (by with_unfolding_all rfl) HB8.out (by with_unfolding_all rfl) (by with_unfolding_all exact Try.size69) (ring_one _ _ _ _) ?_; intro w9 B9 g9 s9; have HB9 := hid B9; have HG9 := hid g9; have HS9 := hid s9; clear B9 g9 s9))
          refine bodyPost_ret (v := .tuple #[.agg #[.slice none 0 0, .int .u64 0], .int .i64 51]) (results_blk_tmp rfl _ w2.heap.size 69 [.slice none 0 0, .int .u64 0] _ (.int .i64 51) rfl rfl HB9.out Try.underlying69 rfl Try.size69) rfl ?_
          exact ⟨none, 0, rfl, OutK.nil _ _, HG8.out.andThen HG9.out (fun j hj => .inl (by injection hj with hj; have := HG1.out.size; have := HG2.out.size; omega))⟩
        · rw [decide_eq_false hmx, Bool.and_false, if_neg (by decide)] at HRE2
          rw [if_pos rfl] at HDK
          have HRR : Hid (disR l nx kid sec = (L' ++ [⟨nx, sec, 0⟩], nx + 1)) := hid (by rw [HDR.out, HRE2.out, if_pos rfl, HDK.out])
          rw [HRR.out, HRE2.out]
          have hmx' : ((nx : Int) == 9223372036854775807) = false := beq_eq_false_iff_ne.2 (by omega)
          clear hmx
          show Calls _ _ _ _ (fun e w' => ∃ a c, e = .returned (.tuple #[.agg #[.slice a (L' ++ [Ky.mk nx sec 0]).length c, .int .u64 (nx + 1 : Nat)], .int .i64 0]) ∧ OutK b1 w' (.slice a (L' ++ [Ky.mk nx sec 0]).length c) (L' ++ [Ky.mk nx sec 0]) ∧ w.grownBy w' none)
          rw [len_snoc, HLL.out]
          go_enter Try.func16, Try.ntmps16
          go_wp2_with (first
            | (with_reducible refine wpList_box_row (by with_unfolding_all rfl) 70 _ (by with_unfolding_all rfl) cs (by with_unfolding_all rfl) ?_; intro w2 B2 s2 g2; have HB2 := hid B2; have HG2 := hid g2; have HS2 := hid s2; clear B2 g2 s2; rw [hs1] at HB2)
            | (with_reducible refine wpList_alloc_row (by with_unfolding_all rfl) 69 (by with_unfolding_all rfl) [.slice none 0 0, .int .u64 0] Try.zero69 ?_; intro w3 B3 s3 g3; have HB3 := hid B3; have HG3 := hid g3; have HS3 := hid s3; clear B3 g3 s3; have HR3 := hid ((HB1.out.keep HG2.out).keep HG3.out); have y0 := HR3.out.cell 0; have y1 := HR3.out.cell 1)
            | (with_reducible refine wpList_load_part (by with_unfolding_all rfl) 69 _ (by with_unfolding_all rfl) b1 0 [.slice a n c, .int .u64 nx] _ (by with_unfolding_all rfl) HR3.out.whole Try.underlying69 (by with_unfolding_all rfl) (by with_unfolding_all exact Try.size69) ?_)
            | (go_at_call 31; with_reducible refine (HCk.out _ (gtrans HG1.out (gtrans HG2.out HG3.out))).mono ?_; rintro e w4 ⟨rfl, hg4⟩; have HG4 := hid hg4; clear hg4; have HB4 := hid (HB3.out.keep HG4.out); have HGx := hid (gtrans (gtrans HG1.out (gtrans HG2.out HG3.out)) HG4.out); have HR4 := hid (HR3.out.keep HG4.out); have HC4 := hid ((HB2.out.keep HG3.out).keep HG4.out); have y0 := HR4.out.cell 0; have y1 := HR4.out.cell 1)
            | (with_reducible refine wpList_load_part (by with_unfolding_all rfl) 69 _ (by with_unfolding_all rfl) b1 0 [.slice a n c, .int .u64 nx] _ (by with_unfolding_all rfl) HR4.out.whole Try.underlying69 (by with_unfolding_all rfl) (by with_unfolding_all exact Try.size69) ?_)
            | (go_at_call 30; (with_reducible refine (HFn.out _ HGx.out).mono ?_); rintro e w5 ⟨rfl, hg5⟩; have HG5 := hid hg5; clear hg5; have HB5 := hid (HB4.out.keep HG5.out); have HR5 := hid (HR4.out.keep HG5.out); have HC5 := hid (HC4.out.keep HG5.out); have HGx5 := hid (gtrans HGx.out HG5.out))
            | (with_reducible refine wpList_alloc_row (by with_unfolding_all rfl) 107 (by with_unfolding_all rfl) zky.cells Try.zero107 ?_; intro w6 B6 s6 g6; have HB6 := hid B6; have HG6 := hid g6; have HS6 := hid s6; clear B6 g6 s6)
            | (with_reducible refine wpList_store_all (by with_unfolding_all rfl) 107 _ _ (by with_unfolding_all rfl) _ zky.cells q.cells 107 (by with_unfolding_all rfl) (by with_unfolding_all rfl) HB6.out (by rw [HQL.out]; with_unfolding_all rfl) (by rw [HQL.out]; exact Try.size107) HQ1.out ?_; intro w7 B7 g7 s7; have HB7 := hid B7; have HG7 := hid g7; have HS7 := hid s7; clear B7 g7 s7; have hb5 := HB5.out.lt; have hr5 := HR5.out.lt; have hc5 := HC5.out.lt; have HB7r := hid ((HB5.out.keep HG6.out).on HG7.out (by simp; omega)); have HR7 := hid ((HR5.out.keep HG6.out).on HG7.out (by simp; omega)); have HC7 := hid ((HC5.out.keep HG6.out).on HG7.out (by simp; omega)); have HG7x := hid ((gtrans HGx5.out HG6.out).andThen HG7.out (fun j hj => .inl (by injection hj with hj; have := HGx5.out.size; omega))); clear hb5 hr5 hc5; have y0 := HR7.out.cell 0; have y1 := HR7.out.cell 1))
          obtain ⟨bq, hbq⟩ : ∃ x, w5.heap.size = x := ⟨_, rfl⟩
          rw [hbq] at HB7 ⊢
          clear hbq HB6
          refine wp_region_quietA (by kernel_rfl) (by kernel_rfl) (fun u => w7.grownBy u none) (gdrew1 w7 none) _ rfl ?_
          intro A hA
          have hA3 : A.eval (.tmp 3) = (.pointer (some ⟨b1, 0, none⟩)) := by rw [hA]; rfl
          have hA9 : A.eval (.tmp 9) = (.pointer (some ⟨bq, 0, none⟩)) := by rw [hA]; rfl
          have hsz : A.tmps.size = 54 := by rw [hA]; rfl
          have HAx := hid hA
          clear hA
          with_reducible refine wpQuiet_one ?gd (.agg q.cells.toArray) ?q ?_
          case gd => rfl
          case q =>
            intro u hu
            with_reducible refine quietAt_load 107 (.tmp 9) ?h0 bq 0 q.cells (.struct (Try.prog.fieldsOf 107)) ?h1 ?h2 ?h3 ?h4 ?h5
            case h0 => rfl
            case h1 => (repeat with_reducible refine (ev_ne _ _ _ _ (by decide)).trans ?_); with_reducible first | exact hA3 | exact hA9 | exact ev_same _ _ _ (by (repeat with_reducible refine lt_put ?_); rw [hsz]; decide)
            case h2 => exact (HB7.out.keep hu).whole
            case h3 => exact Try.under107
            case h4 => rfl
            case h5 => rw [HQL.out]; exact Try.size107
          dsimp only
          with_reducible refine wpQuiet_one ?gd (.pointer (some ⟨b1, 0, none⟩)) ?q ?_
          case gd => rfl
          case q =>
            intro u hu
            with_reducible refine quietAt_field 69 (.tmp 3) 0 ?h0 ⟨b1, 0, none⟩ ⟨b1, 0, none⟩ ?h1 ?h2
            case h0 => rfl
            case h1 => (repeat with_reducible refine (ev_ne _ _ _ _ (by decide)).trans ?_); with_reducible first | exact hA3 | exact hA9 | exact ev_same _ _ _ (by (repeat with_reducible refine lt_put ?_); rw [hsz]; decide)
            case h2 => kernel_rfl
          dsimp only
          with_reducible refine wpQuiet_one ?gd (.slice a n c) ?q ?_
          case gd => rfl
          case q =>
            intro u hu
            with_reducible refine quietAt_ld 55 (.tmp 29) (.pointer (some ⟨b1, 0, none⟩)) (.slice a n c) ?h0 ?h1 ?h2
            case h0 => rfl
            case h1 => (repeat with_reducible refine (ev_ne _ _ _ _ (by decide)).trans ?_); with_reducible first | exact hA3 | exact hA9 | exact ev_same _ _ _ (by (repeat with_reducible refine lt_put ?_); rw [hsz]; decide)
            case h2 => exact ld55 b1 0 n c a u ((HR7.out.keep hu).cell 0)
          dsimp only
          with_reducible refine wpQuiet_one ?gd (.agg K.cells.toArray) ?q ?_
          case gd => rfl
          case q =>
            intro u hu
            with_reducible refine quietAt_call 39 Try.f39 ?h0 ?h1 ?h2 #[.tmp 30] #[55] ?h3 (.agg K.cells.toArray) #[(.slice a n c)] ?h4 ?h5
            case h0 => exact Try.func39
            case h1 => kernel_rfl
            case h2 => kernel_rfl
            case h3 => rfl
            case h4 => exact map1 _ _ _ (by (repeat with_reducible refine (ev_ne _ _ _ _ (by decide)).trans ?_); with_reducible first | exact hA3 | exact hA9 | exact ev_same _ _ _ (by (repeat with_reducible refine lt_put ?_); rw [hsz]; decide))
            case h5 => exact (HLa.out u (gtrans HG7x.out hu)).mono fun e w' h => ⟨h.1, gtrans hu h.2⟩
          dsimp only
          with_reducible refine wpQuiet_one ?gd (.bool true) ?q ?_
          case gd => rfl
          case q =>
            intro u hu
            with_reducible refine quietAt_bin .eql 107 (.tmp 28) (.tmp 31) 107 (.agg q.cells.toArray) (.agg K.cells.toArray) (.bool true) ?h0 ?h1 ?h2 ?h3
            case h0 => rfl
            case h1 => (repeat with_reducible refine (ev_ne _ _ _ _ (by decide)).trans ?_); with_reducible first | exact hA3 | exact hA9 | exact ev_same _ _ _ (by (repeat with_reducible refine lt_put ?_); rw [hsz]; decide)
            case h2 => (repeat with_reducible refine (ev_ne _ _ _ _ (by decide)).trans ?_); with_reducible first | exact hA3 | exact hA9 | exact ev_same _ _ _ (by (repeat with_reducible refine lt_put ?_); rw [hsz]; decide)
            case h3 => exact HEq.out _ _ u
          dsimp only
          with_reducible refine wpQuiet_one ?gd (.bool true) ?q ?_
          case gd => rfl
          case q =>
            intro u hu
            with_reducible refine quietAt_as (.tmp 32) (.bool true) ?h0 ?h1
            case h0 => rfl
            case h1 => (repeat with_reducible refine (ev_ne _ _ _ _ (by decide)).trans ?_); with_reducible first | exact hA3 | exact hA9 | exact ev_same _ _ _ (by (repeat with_reducible refine lt_put ?_); rw [hsz]; decide)
          dsimp only
          with_reducible refine wpQuiet_nil ?_
          intro u8 hu8
          rw [HAx.out]
          simp only [Act.put, List.setIfInBounds_toArray, List.set_cons_succ, List.set_cons_zero]
          clear HAx hA3 hA9 hsz y0 y1
          have HB8 := hid (HB7r.out.keep hu8)
          have HR8 := hid (HR7.out.keep hu8)
          have HC8 := hid (HC7.out.keep hu8)
          have HQ8 := hid (HB7.out.keep hu8)
          have HG8 := hid (gtrans HG7x.out hu8)
          have y0 := HR8.out.cell 0
          have y1 := HR8.out.cell 1
          clear hu8 HB7r HR7 HC7 HB7 HG7x
          go_wp2_with (first
            | (go_at_call 36; (with_reducible refine (HWo.out _ _ HQ8.out HG8.out).mono ?_); rintro e w9 ⟨v9, rfl, hO9, hg9⟩; have HO9 := hid (hO9.below (show b1 ≤ u8.heap.size by have := HG8.out.size; omega)); have HG9 := hid hg9; clear hO9 hg9; obtain ⟨a9, c9, hv9⟩ := HO9.out.slice; rw [HLL.out] at hv9; subst hv9; have HB9 := hid (HB8.out.keep HG9.out); have HR9 := hid (HR8.out.keep HG9.out); have HC9 := hid (HC8.out.keep HG9.out); have HG9x := hid (gtrans HG8.out HG9.out); have y0 := HR9.out.cell 0; have y1 := HR9.out.cell 1)
            | (with_reducible refine wpList_load_part (by with_unfolding_all rfl) 70 _ (by with_unfolding_all rfl) (b1 + 1) 0 cs _ (by with_unfolding_all rfl) HC9.out.whole Try.underlying70 (by with_unfolding_all rfl) (by rw [HCL.out]; exact Try.size70) ?_)
            | (go_at_call 33; (with_reducible refine (HW7.out _ _ HO9.out (by have := HG9x.out.size; omega)).mono ?_); rintro e w10 ⟨a10, c10, rfl, hO10, hg10⟩; have HO10 := hid hO10; have HG10 := hid hg10; clear hO10 hg10; have HB10 := hid (HB9.out.on HG10.out (fun e => HO9.out.ne_blk HB9.out (by decide) _ e rfl)); have HG10x := hid (HG9x.out.andThen HG10.out (fun j hj => .inl (by have := HO9.out.block _ hj; omega))))
            | (with_reducible refine wpList_store_all (by with_unfolding_all rfl) 69 _ _ (by with_unfolding_all rfl) _ [.slice none 0 0, .int .u64 0] [.slice a10 (m + 1) c10, .int .u64 (nx + 1 : Nat)] 69 (by with_unfolding_all rfl) (by with_unfolding_all rfl) HB10.out (by with_unfolding_all rfl) (by with_unfolding_all exact Try.size69) (ring_one _ _ _ _) ?_; intro w11 B11 g11 s11; have HB11 := hid B11; have HG11 := hid g11; have HS11 := hid s11; clear B11 g11 s11))
          refine bodyPost_ret (v := .tuple #[.agg #[.slice a10 (m + 1) c10, .int .u64 (nx + 1 : Nat)], .int .i64 0]) (results_blk_tmp rfl _ w2.heap.size 69 [.slice a10 (m + 1) c10, .int .u64 (nx + 1 : Nat)] _ (.int .i64 0) rfl rfl HB11.out Try.underlying69 rfl Try.size69) rfl ?_
          refine ⟨a10, c10, rfl, HO10.out.on HG11.out (fun j hj e => ?_), HG10x.out.andThen HG11.out (fun j hj => .inl (by injection hj with hj; have := HG1.out.size; have := HG2.out.size; omega))⟩
          injection hj with hj
          exact HO10.out.ne_blk HB10.out (by decide) _ e hj.symm
      | false =>
        rw [Bool.false_and, if_neg (by decide)] at HRE2
        rw [if_neg (by decide)] at HDK
        have HRR : Hid (disR l nx kid sec = (L', nx)) := hid (by rw [HDR.out, HRE2.out, if_pos rfl, HDK.out])
        rw [HRR.out, HRE2.out]
        show Calls _ _ _ _ (fun e w' => ∃ a c, e = .returned (.tuple #[.agg #[.slice a L'.length c, .int .u64 nx], .int .i64 0]) ∧ OutK b1 w' (.slice a L'.length c) L' ∧ w.grownBy w' none)
        rw [HLL.out]
        go_enter Try.func16, Try.ntmps16
        go_wp2_with (first
          | (with_reducible refine wpList_box_row (by with_unfolding_all rfl) 70 _ (by with_unfolding_all rfl) cs (by with_unfolding_all rfl) ?_; intro w2 B2 s2 g2; have HB2 := hid B2; have HG2 := hid g2; have HS2 := hid s2; clear B2 g2 s2; rw [hs1] at HB2)
          | (with_reducible refine wpList_alloc_row (by with_unfolding_all rfl) 69 (by with_unfolding_all rfl) [.slice none 0 0, .int .u64 0] Try.zero69 ?_; intro w3 B3 s3 g3; have HB3 := hid B3; have HG3 := hid g3; have HS3 := hid s3; clear B3 g3 s3; have HR3 := hid ((HB1.out.keep HG2.out).keep HG3.out); have y0 := HR3.out.cell 0; have y1 := HR3.out.cell 1)
          | (with_reducible refine wpList_load_part (by with_unfolding_all rfl) 69 _ (by with_unfolding_all rfl) b1 0 [.slice a n c, .int .u64 nx] _ (by with_unfolding_all rfl) HR3.out.whole Try.underlying69 (by with_unfolding_all rfl) (by with_unfolding_all exact Try.size69) ?_)
          | (go_at_call 31; with_reducible refine (HCk.out _ (gtrans HG1.out (gtrans HG2.out HG3.out))).mono ?_; rintro e w4 ⟨rfl, hg4⟩; have HG4 := hid hg4; clear hg4; have HB4 := hid (HB3.out.keep HG4.out); have HGx := hid (gtrans (gtrans HG1.out (gtrans HG2.out HG3.out)) HG4.out); have HR4 := hid (HR3.out.keep HG4.out); have HC4 := hid ((HB2.out.keep HG3.out).keep HG4.out); have y0 := HR4.out.cell 0; have y1 := HR4.out.cell 1)
          | (with_reducible refine wpList_load_part (by with_unfolding_all rfl) 69 _ (by with_unfolding_all rfl) b1 0 [.slice a n c, .int .u64 nx] _ (by with_unfolding_all rfl) HR4.out.whole Try.underlying69 (by with_unfolding_all rfl) (by with_unfolding_all exact Try.size69) ?_)
          | (go_at_call 30; (with_reducible refine (HFn.out _ HGx.out).mono ?_); rintro e w5 ⟨rfl, hg5⟩; have HG5 := hid hg5; clear hg5; have HB5 := hid (HB4.out.keep HG5.out); have HR5 := hid (HR4.out.keep HG5.out); have HC5 := hid (HC4.out.keep HG5.out); have HGx5 := hid (gtrans HGx.out HG5.out))
          | (with_reducible refine wpList_alloc_row (by with_unfolding_all rfl) 107 (by with_unfolding_all rfl) zky.cells Try.zero107 ?_; intro w6 B6 s6 g6; have HB6 := hid B6; have HG6 := hid g6; have HS6 := hid s6; clear B6 g6 s6)
          | (with_reducible refine wpList_store_all (by with_unfolding_all rfl) 107 _ _ (by with_unfolding_all rfl) _ zky.cells q.cells 107 (by with_unfolding_all rfl) (by with_unfolding_all rfl) HB6.out (by rw [HQL.out]; with_unfolding_all rfl) (by rw [HQL.out]; exact Try.size107) HQ1.out ?_; intro w7 B7 g7 s7; have HB7 := hid B7; have HG7 := hid g7; have HS7 := hid s7; clear B7 g7 s7; have hb5 := HB5.out.lt; have hr5 := HR5.out.lt; have hc5 := HC5.out.lt; have HB7r := hid ((HB5.out.keep HG6.out).on HG7.out (by simp; omega)); have HR7 := hid ((HR5.out.keep HG6.out).on HG7.out (by simp; omega)); have HC7 := hid ((HC5.out.keep HG6.out).on HG7.out (by simp; omega)); have HG7x := hid ((gtrans HGx5.out HG6.out).andThen HG7.out (fun j hj => .inl (by injection hj with hj; have := HGx5.out.size; omega))); clear hb5 hr5 hc5; have y0 := HR7.out.cell 0; have y1 := HR7.out.cell 1))
        obtain ⟨bq, hbq⟩ : ∃ x, w5.heap.size = x := ⟨_, rfl⟩
        rw [hbq] at HB7 ⊢
        clear hbq HB6
        refine wp_region_quietA (by kernel_rfl) (by kernel_rfl) (fun u => w7.grownBy u none) (gdrew1 w7 none) _ rfl ?_
        intro A hA
        have hA3 : A.eval (.tmp 3) = (.pointer (some ⟨b1, 0, none⟩)) := by rw [hA]; rfl
        have hA9 : A.eval (.tmp 9) = (.pointer (some ⟨bq, 0, none⟩)) := by rw [hA]; rfl
        have hsz : A.tmps.size = 54 := by rw [hA]; rfl
        have HAx := hid hA
        clear hA
        with_reducible refine wpQuiet_one ?gd (.agg q.cells.toArray) ?q ?_
        case gd => rfl
        case q =>
          intro u hu
          with_reducible refine quietAt_load 107 (.tmp 9) ?h0 bq 0 q.cells (.struct (Try.prog.fieldsOf 107)) ?h1 ?h2 ?h3 ?h4 ?h5
          case h0 => rfl
          case h1 => (repeat with_reducible refine (ev_ne _ _ _ _ (by decide)).trans ?_); with_reducible first | exact hA3 | exact hA9 | exact ev_same _ _ _ (by (repeat with_reducible refine lt_put ?_); rw [hsz]; decide)
          case h2 => exact (HB7.out.keep hu).whole
          case h3 => exact Try.under107
          case h4 => rfl
          case h5 => rw [HQL.out]; exact Try.size107
        dsimp only
        with_reducible refine wpQuiet_one ?gd (.pointer (some ⟨b1, 0, none⟩)) ?q ?_
        case gd => rfl
        case q =>
          intro u hu
          with_reducible refine quietAt_field 69 (.tmp 3) 0 ?h0 ⟨b1, 0, none⟩ ⟨b1, 0, none⟩ ?h1 ?h2
          case h0 => rfl
          case h1 => (repeat with_reducible refine (ev_ne _ _ _ _ (by decide)).trans ?_); with_reducible first | exact hA3 | exact hA9 | exact ev_same _ _ _ (by (repeat with_reducible refine lt_put ?_); rw [hsz]; decide)
          case h2 => kernel_rfl
        dsimp only
        with_reducible refine wpQuiet_one ?gd (.slice a n c) ?q ?_
        case gd => rfl
        case q =>
          intro u hu
          with_reducible refine quietAt_ld 55 (.tmp 29) (.pointer (some ⟨b1, 0, none⟩)) (.slice a n c) ?h0 ?h1 ?h2
          case h0 => rfl
          case h1 => (repeat with_reducible refine (ev_ne _ _ _ _ (by decide)).trans ?_); with_reducible first | exact hA3 | exact hA9 | exact ev_same _ _ _ (by (repeat with_reducible refine lt_put ?_); rw [hsz]; decide)
          case h2 => exact ld55 b1 0 n c a u ((HR7.out.keep hu).cell 0)
        dsimp only
        with_reducible refine wpQuiet_one ?gd (.agg K.cells.toArray) ?q ?_
        case gd => rfl
        case q =>
          intro u hu
          with_reducible refine quietAt_call 39 Try.f39 ?h0 ?h1 ?h2 #[.tmp 30] #[55] ?h3 (.agg K.cells.toArray) #[(.slice a n c)] ?h4 ?h5
          case h0 => exact Try.func39
          case h1 => kernel_rfl
          case h2 => kernel_rfl
          case h3 => rfl
          case h4 => exact map1 _ _ _ (by (repeat with_reducible refine (ev_ne _ _ _ _ (by decide)).trans ?_); with_reducible first | exact hA3 | exact hA9 | exact ev_same _ _ _ (by (repeat with_reducible refine lt_put ?_); rw [hsz]; decide))
          case h5 => exact (HLa.out u (gtrans HG7x.out hu)).mono fun e w' h => ⟨h.1, gtrans hu h.2⟩
        dsimp only
        with_reducible refine wpQuiet_one ?gd (.bool false) ?q ?_
        case gd => rfl
        case q =>
          intro u hu
          with_reducible refine quietAt_bin .eql 107 (.tmp 28) (.tmp 31) 107 (.agg q.cells.toArray) (.agg K.cells.toArray) (.bool false) ?h0 ?h1 ?h2 ?h3
          case h0 => rfl
          case h1 => (repeat with_reducible refine (ev_ne _ _ _ _ (by decide)).trans ?_); with_reducible first | exact hA3 | exact hA9 | exact ev_same _ _ _ (by (repeat with_reducible refine lt_put ?_); rw [hsz]; decide)
          case h2 => (repeat with_reducible refine (ev_ne _ _ _ _ (by decide)).trans ?_); with_reducible first | exact hA3 | exact hA9 | exact ev_same _ _ _ (by (repeat with_reducible refine lt_put ?_); rw [hsz]; decide)
          case h3 => exact HEq.out _ _ u
        dsimp only
        with_reducible refine wpQuiet_one ?gd (.bool false) ?q ?_
        case gd => rfl
        case q =>
          intro u hu
          with_reducible refine quietAt_as (.tmp 32) (.bool false) ?h0 ?h1
          case h0 => rfl
          case h1 => (repeat with_reducible refine (ev_ne _ _ _ _ (by decide)).trans ?_); with_reducible first | exact hA3 | exact hA9 | exact ev_same _ _ _ (by (repeat with_reducible refine lt_put ?_); rw [hsz]; decide)
        dsimp only
        with_reducible refine wpQuiet_nil ?_
        intro u8 hu8
        rw [HAx.out]
        simp only [Act.put, List.setIfInBounds_toArray, List.set_cons_succ, List.set_cons_zero]
        clear HAx hA3 hA9 hsz y0 y1
        have HB8 := hid (HB7r.out.keep hu8)
        have HR8 := hid (HR7.out.keep hu8)
        have HC8 := hid (HC7.out.keep hu8)
        have HQ8 := hid (HB7.out.keep hu8)
        have HG8 := hid (gtrans HG7x.out hu8)
        have y0 := HR8.out.cell 0
        have y1 := HR8.out.cell 1
        clear hu8 HB7r HR7 HC7 HB7 HG7x
        go_wp2_with (first
          | (go_at_call 36; (with_reducible refine (HWo.out _ _ HQ8.out HG8.out).mono ?_); rintro e w9 ⟨v9, rfl, hO9, hg9⟩; have HO9 := hid (hO9.below (show b1 ≤ u8.heap.size by have := HG8.out.size; omega)); have HG9 := hid hg9; clear hO9 hg9; obtain ⟨a9, c9, hv9⟩ := HO9.out.slice; rw [HLL.out] at hv9; subst hv9; have HB9 := hid (HB8.out.keep HG9.out); have HR9 := hid (HR8.out.keep HG9.out); have HC9 := hid (HC8.out.keep HG9.out); have HG9x := hid (gtrans HG8.out HG9.out); have y0 := HR9.out.cell 0; have y1 := HR9.out.cell 1)
          | (with_reducible refine wpList_build_of (by with_unfolding_all rfl) 69 _ (by with_unfolding_all rfl) [(0, .slice a9 m c9), (1, .int .u64 nx)] (by with_unfolding_all rfl) [.slice a9 m c9, .int .u64 nx] (built_ring _ _ _ _) ?_)
          | (with_reducible refine wpList_store_all (by with_unfolding_all rfl) 69 _ _ (by with_unfolding_all rfl) _ [.slice none 0 0, .int .u64 0] [.slice a9 m c9, .int .u64 nx] 69 (by with_unfolding_all rfl) (by with_unfolding_all rfl) HB9.out (by with_unfolding_all rfl) (by with_unfolding_all exact Try.size69) (ring_one _ _ _ _) ?_; intro w10 B10 g10 s10; have HB10 := hid B10; have HG10 := hid g10; have HS10 := hid s10; clear B10 g10 s10))
        refine bodyPost_ret (v := .tuple #[.agg #[.slice a9 m c9, .int .u64 nx], .int .i64 0]) (results_blk_tmp rfl _ w2.heap.size 69 [.slice a9 m c9, .int .u64 nx] _ (.int .i64 0) rfl rfl HB10.out Try.underlying69 rfl Try.size69) rfl ?_
        refine ⟨a9, c9, rfl, HO9.out.on HG10.out (fun j hj e => ?_), HG9x.out.andThen HG10.out (fun j hj => .inl (by injection hj with hj; have := HG1.out.size; have := HG2.out.size; omega))⟩
        injection hj with hj
        exact HO9.out.ne_blk HB9.out (by decide) _ e hj.symm
end Go.Proofs.Ytmpcpakdocaieaa
