/- The walk of RingTimes. -/
import Derived.Test.YtmpcpakdocaieaaGr
namespace Go.Proofs.Ytmpcpakdocaieaa
open Go Go.RowKit
open Go.RowKit (wrap32 wrap64)

theorem ld2 (b i : Nat) (n : Int) (u : World) (h : u.cell? ⟨b, i, none⟩ = some (.int .i64 n)) : (Instr.loadAt 2 (.pointer (some ⟨b, i, none⟩))).run Try.prog u = .ok (.int .i64 n) u := by
  go_simp
theorem Try.size103 : (Try.prog.info? 103).map (·.size) = some 35 := by kernel_rfl
theorem geq_no (k m : Nat) (h : k < m) {x y : Operand} (u : World) : (do eqGuard .geq 3 x y (.int .i64 (k : Nat)) (.int .i64 (m : Nat)); binOp .geq 3 (.int .i64 (k : Nat)) (.int .i64 (m : Nat)) : Sem Value).run Try.prog u = .ok (.bool false) u := by
  have h' : ¬ (m : Int) ≤ (k : Int) := by omega
  go_simp
theorem goes_two (A B : Int) (k : Ky) : ((!goesP B k) && (!goesP A k)) = !goesP (max A B) k := by
  unfold goesP
  rw [Bool.eq_iff_iff]
  simp only [Bool.and_eq_true, Bool.not_eq_true', Bool.and_eq_false_iff, decide_eq_false_iff_not]
  omega
theorem filter_two (A B : Int) (l : List Ky) : (l.filter (fun k => !goesP A k)).filter (fun k => !goesP B k) = l.filter (fun k => !goesP (max A B) k) := by
  rw [List.filter_filter]
  congr 1
  funext k
  exact goes_two A B k
theorem filter_zero (l : List Ky) : l.filter (fun k => !goesP 0 k) = l := by
  refine List.filter_eq_self.2 (fun k _ => ?_)
  unfold goesP
  simp only [Bool.not_eq_true', Bool.and_eq_false_iff, decide_eq_false_iff_not]
  omega
theorem filter_at {α : Type} (p : α → Bool) (l : List α) (i : Nat) (hi : i < l.length) (hp : p l[i] = true) : (l.filter p)[((l.take i).filter p).length]? = some l[i] := by
  have h : l.filter p = (l.take i).filter p ++ (l[i] :: (l.drop (i + 1)).filter p) := by
    have := congrArg (List.filter p) (List.take_append_drop i l)
    rw [List.filter_append, List.drop_eq_getElem_cons hi, List.filter_cons, if_pos hp] at this
    exact this.symm
  rw [h, List.getElem?_append_right (Nat.le_refl _), Nat.sub_self]
  rfl
theorem filter_take_succ {α : Type} (p : α → Bool) (l : List α) (i : Nat) (hi : i < l.length) : ((l.take (i + 1)).filter p).length = ((l.take i).filter p).length + (if p l[i] = true then 1 else 0) := by
  rw [List.take_succ_eq_append_getElem hi, List.filter_append, List.length_append]
  by_cases h : p l[i] = true
  · rw [List.filter_cons, if_pos h, if_pos h]; rfl
  · rw [List.filter_cons, if_neg h, if_neg h]; rfl
set_option maxRecDepth 100000 in
set_option maxHeartbeats 3200000 in
theorem times_walk (w : World) (sec : List UInt8) (ta : Option Addr) (tb to tn tc : Nat) (T : Nat → Tn) (At Bt : Int) (hs : sec.length = 32) (htn : tn ≤ 140737488355328) (hT : RowsT w ta tb to tn T) :
    Calls Try.prog 6 #[.agg (lifeC sec ta tn tc ++ [Value.int .i64 At, Value.int .i64 Bt]).toArray] w fun e w' => e = .returned (.bool true) ∧ w.grownBy w' none := by
  have HWk : Hid (∀ u : World, Calls Try.prog 26 #[] u fun e w' => e = .returned (.bool true) ∧ u.grownBy w' none) := fun u => wakes_any u
  have HGr : Hid (∀ u, w.grownBy u none → Calls Try.prog 28 #[.agg (lifeC sec ta tn tc).toArray] u fun e w' => ∃ (l : List Ky) (nx : Nat) (a : Option Addr) (c : Nat), e = .returned (.tuple #[.agg #[.slice a l.length c, .int .u64 nx], .bool true]) ∧ isRing l nx = true ∧ OutK u.heap.size w' (.slice a l.length c) l ∧ u.grownBy w' none) := fun u hu => grown_any u sec ta tb to tn tc T hs htn (hT.on hu)
  have HPL : Hid (∀ (u : World) (B : Nat), Blk u B (lifeC sec ta tn tc ++ [Value.int .i64 At, Value.int .i64 Bt]) 103 → u.rangeAt B 0 (lifeC sec ta tn tc)) := fun u B h => h.range [] (lifeC sec ta tn tc) [Value.int .i64 At, Value.int .i64 Bt] 0 rfl rfl
  have HPA : Hid (∀ (u : World) (B : Nat), Blk u B (lifeC sec ta tn tc ++ [Value.int .i64 At, Value.int .i64 Bt]) 103 → u.cell? ⟨B, 33, none⟩ = some (.int .i64 At) ∧ u.cell? ⟨B, 34, none⟩ = some (.int .i64 Bt)) := fun u B h => by
    rw [h.cell, h.cell, List.getElem?_append_right (by rw [life_len hs]; exact Nat.le_refl _), List.getElem?_append_right (by rw [life_len hs]; decide), life_len hs]
    exact ⟨rfl, rfl⟩
  have HLL : Hid ((lifeC sec ta tn tc).length = 33) := hid (life_len hs ta tn tc)
  obtain ⟨C, HC⟩ : ∃ x, Hid (lifeC sec ta tn tc = x) := ⟨_, hid rfl⟩
  obtain ⟨P, HP⟩ : ∃ x, Hid (lifeC sec ta tn tc ++ [Value.int .i64 At, Value.int .i64 Bt] = x) := ⟨_, hid rfl⟩
  rw [HP.out] at HPL HPA ⊢
  rw [HC.out] at HGr HPL HLL
  obtain ⟨B0, HB0⟩ : ∃ x, Hid (w.heap.size = x) := ⟨_, hid rfl⟩
  clear hT hs htn HP HC
  by_cases hAB : At < Bt
  · have hmx : max At Bt = Bt := by omega
    go_enter Try.func6, Try.ntmps6
    go_wp2_with (first
      | ((with_reducible refine wpList_box_row (by with_unfolding_all rfl) 103 _ (by with_unfolding_all rfl) P (by with_unfolding_all rfl) ?_); intro w1 B1 s1 g1; have HB1 := hid B1; have HG1 := hid g1; have HS1 := hid s1; clear B1 g1 s1)
      | ((with_reducible refine wpList_alloc_row (by with_unfolding_all rfl) 69 (by with_unfolding_all rfl) [.slice none 0 0, .int .u64 0] Try.zero69 ?_); intro w3 B3 s3 g3; have HB3 := hid B3; have HG3 := hid g3; have HS3 := hid s3; clear B3 g3 s3)
      | (with_reducible refine wpList_load_part (by with_unfolding_all rfl) 94 _ (by with_unfolding_all rfl) w.heap.size 0 C _ (by with_unfolding_all rfl) (HPL.out _ _ HB1.out) Try.underlying94 (by with_unfolding_all rfl) (by rw [HLL.out]; exact Try.size94) ?_)
      | (go_at_call 28; (with_reducible refine (HGr.out _ HG1.out).mono ?_); rintro e w2 ⟨l, nx, a, c, rfl, hri, hO2, hg2⟩; have HRi := hid hri; have HO2 := hid (hO2.below (show B0 ≤ w1.heap.size by have := HG1.out.size; have := HB0.out; omega)); have HG2 := hid (gtrans HG1.out hg2); have HP2 := hid (HB1.out.keep hg2); clear hO2 hg2 hri)
      | ((with_reducible refine wpList_store_all (by with_unfolding_all rfl) 69 _ _ (by with_unfolding_all rfl) _ [.slice none 0 0, .int .u64 0] [.slice a l.length c, .int .u64 nx] 69 (by with_unfolding_all rfl) (by with_unfolding_all rfl) HB3.out (by with_unfolding_all rfl) (by with_unfolding_all exact Try.size69) (ring_one _ _ _ _) ?_); intro w4 B4 g4 s4; have HB4 := hid B4; have HG4 := hid g4; have HS4 := hid s4; clear B4 g4 s4; have hl1 := HP2.out.lt; have HG4x := hid ((gtrans HG2.out HG3.out).andThen HG4.out (fun j hj => .inl (by injection hj with hj; have := HG2.out.size; omega))); have HP4 := hid ((HP2.out.keep HG3.out).on HG4.out (by simp; omega)); have HO4 := hid ((HO2.out.keep HG3.out).on HG4.out (fun j hj e => by injection hj with hj; exact (HO2.out.keep HG3.out).ne_blk HB3.out (by decide) _ e hj.symm)); clear hl1; obtain ⟨pA, pB⟩ := HPA.out _ _ HP4.out))
    obtain ⟨b1, hb1⟩ : ∃ x, w.heap.size = x := ⟨_, rfl⟩
    obtain ⟨b3, hb3⟩ : ∃ x, w2.heap.size = x := ⟨_, rfl⟩
    rw [hb1] at HP4
    rw [hb3] at HB4
    rw [hb1, hb3]
    have HB13 : Hid (B0 ≤ b1 ∧ b1 < b3) := hid (by have := HP2.out.lt; have := HB0.out; have := HG1.out.size; omega)
    obtain ⟨n, HN⟩ : ∃ x, Hid (l.length = x) := ⟨_, hid rfl⟩
    rw [HN.out] at HB4 HO4 ⊢
    have HL8 : Hid (l.length ≤ 8) := hid (goodL_pos (isRing_good HRi.out).1).2
    obtain ⟨LA, HLAe⟩ : ∃ x, Hid (l.filter (fun k => !goesP At k) = x) := ⟨_, hid rfl⟩
    obtain ⟨LB, HLBe⟩ : ∃ x, Hid (l.filter (fun k => !goesP Bt k) = x) := ⟨_, hid rfl⟩
    obtain ⟨LW, HLWe⟩ : ∃ x, Hid (l.filter (fun k => !goesP Bt k) = x) := ⟨_, hid rfl⟩
    have hA8 : LA.length ≤ 8 := by rw [← HLAe.out]; exact Nat.le_trans (List.length_filter_le _ _) HL8.out
    have hB8 : LB.length ≤ 8 := by rw [← HLBe.out]; exact Nat.le_trans (List.length_filter_le _ _) HL8.out
    have hpA : prn l nx At = (LA, nx) := by rw [← HLAe.out]; exact (prn_ring At HRi.out).1
    have hpB : prn l nx Bt = (LB, nx) := by rw [← HLBe.out]; exact (prn_ring Bt HRi.out).1
    have hpL : prn l nx Bt = (LW, nx) := by rw [← HLWe.out]; exact (prn_ring Bt HRi.out).1
    have hpAB : prn LA nx Bt = (LW, nx) := by rw [← HLAe.out, ← HLWe.out, (prn_ring Bt (prn_ring At HRi.out).2).1, filter_two, hmx]
    have hpBA : prn LB nx At = (LW, nx) := by rw [← HLBe.out, ← HLWe.out, (prn_ring At (prn_ring Bt HRi.out).2).1, filter_two, show max Bt At = Bt by omega]
    have hp0 : prn l nx 0 = (l, nx) := by rw [(prn_ring 0 HRi.out).1, filter_zero]
    obtain ⟨nA, HNA⟩ : ∃ x, Hid (LA.length = x) := ⟨_, hid rfl⟩
    obtain ⟨nB, HNB⟩ : ∃ x, Hid (LB.length = x) := ⟨_, hid rfl⟩
    obtain ⟨m, HNW⟩ : ∃ x, Hid (LW.length = x) := ⟨_, hid rfl⟩
    have HCp0 : Hid (∀ (u : World), OutK B0 u (.slice a n c) l → B0 ≤ u.heap.size → Calls Try.prog 18 #[.agg [.slice a n c, .int .u64 nx].toArray] u fun e w' => ∃ v, e = .returned v ∧ u.grownBy w' none ∧ ∃ x y, v = Value.agg [Value.slice x n y, Value.int .u64 nx].toArray ∧ OutK B0 w' (.slice x n y) l) := fun u h hb => by
      have := copyRing_any u _ _ l nx h.rd (by have := HL8.out; omega)
      rw [HN.out] at this
      refine this.mono ?_
      rintro e w' ⟨x, y, he, ho, hg⟩
      exact ⟨_, he, hg, x, y, rfl, ho.below hb⟩
    have HPa : Hid (∀ (u : World) (aa : Option Addr) (cc : Nat), OutK B0 u (.slice aa n cc) l → B0 ≤ u.heap.size → Calls Try.prog 14 #[.agg [.slice aa n cc, .int .u64 nx].toArray, .int .i64 At] u fun e w' => ∃ v, e = .returned v ∧ u.grownBy w' none ∧ ∃ x y, v = Value.agg [Value.slice x nA y, Value.int .u64 nx].toArray ∧ OutK B0 w' (.slice x nA y) LA) := fun u aa cc h hb => by
      have := prune_any u _ _ l nx At h.rd (by have := HL8.out; omega)
      rw [hpA, HNA.out] at this
      refine this.mono ?_
      rintro e w' ⟨x, y, he, ho, hg⟩
      exact ⟨_, he, hg, x, y, rfl, ho.below hb⟩
    have HPb : Hid (∀ (u : World) (aa : Option Addr) (cc : Nat), OutK B0 u (.slice aa n cc) l → B0 ≤ u.heap.size → Calls Try.prog 14 #[.agg [.slice aa n cc, .int .u64 nx].toArray, .int .i64 Bt] u fun e w' => ∃ v, e = .returned v ∧ u.grownBy w' none ∧ ∃ x y, v = Value.agg [Value.slice x nB y, Value.int .u64 nx].toArray ∧ OutK B0 w' (.slice x nB y) LB) := fun u aa cc h hb => by
      have := prune_any u _ _ l nx Bt h.rd (by have := HL8.out; omega)
      rw [hpB, HNB.out] at this
      refine this.mono ?_
      rintro e w' ⟨x, y, he, ho, hg⟩
      exact ⟨_, he, hg, x, y, rfl, ho.below hb⟩
    have HPl : Hid (∀ (u : World) (aa : Option Addr) (cc : Nat), OutK B0 u (.slice aa n cc) l → B0 ≤ u.heap.size → Calls Try.prog 14 #[.agg [.slice aa n cc, .int .u64 nx].toArray, .int .i64 Bt] u fun e w' => ∃ v, e = .returned v ∧ u.grownBy w' none ∧ ∃ x y, v = Value.agg [Value.slice x m y, Value.int .u64 nx].toArray ∧ OutK B0 w' (.slice x m y) LW) := fun u aa cc h hb => by
      have := prune_any u _ _ l nx Bt h.rd (by have := HL8.out; omega)
      rw [hpL, HNW.out] at this
      refine this.mono ?_
      rintro e w' ⟨x, y, he, ho, hg⟩
      exact ⟨_, he, hg, x, y, rfl, ho.below hb⟩
    have HP0 : Hid (∀ (u : World) (aa : Option Addr) (cc : Nat), OutK B0 u (.slice aa n cc) l → B0 ≤ u.heap.size → Calls Try.prog 14 #[.agg [.slice aa n cc, .int .u64 nx].toArray, .int .i64 0] u fun e w' => ∃ v, e = .returned v ∧ u.grownBy w' none ∧ ∃ x y, v = Value.agg [Value.slice x n y, Value.int .u64 nx].toArray ∧ OutK B0 w' (.slice x n y) l) := fun u aa cc h hb => by
      have := prune_any u _ _ l nx 0 h.rd (by have := HL8.out; omega)
      rw [hp0, HN.out] at this
      refine this.mono ?_
      rintro e w' ⟨x, y, he, ho, hg⟩
      exact ⟨_, he, hg, x, y, rfl, ho.below hb⟩
    have HPab : Hid (∀ (u : World) (aa : Option Addr) (cc : Nat), OutK B0 u (.slice aa nA cc) LA → B0 ≤ u.heap.size → Calls Try.prog 14 #[.agg [.slice aa nA cc, .int .u64 nx].toArray, .int .i64 Bt] u fun e w' => ∃ v, e = .returned v ∧ u.grownBy w' none ∧ ∃ x y, v = Value.agg [Value.slice x m y, Value.int .u64 nx].toArray ∧ OutK B0 w' (.slice x m y) LW) := fun u aa cc h hb => by
      have := prune_any u _ _ LA nx Bt h.rd (by have := HL8.out; omega)
      rw [hpAB, HNW.out] at this
      refine this.mono ?_
      rintro e w' ⟨x, y, he, ho, hg⟩
      exact ⟨_, he, hg, x, y, rfl, ho.below hb⟩
    have HPba : Hid (∀ (u : World) (aa : Option Addr) (cc : Nat), OutK B0 u (.slice aa nB cc) LB → B0 ≤ u.heap.size → Calls Try.prog 14 #[.agg [.slice aa nB cc, .int .u64 nx].toArray, .int .i64 At] u fun e w' => ∃ v, e = .returned v ∧ u.grownBy w' none ∧ ∃ x y, v = Value.agg [Value.slice x m y, Value.int .u64 nx].toArray ∧ OutK B0 w' (.slice x m y) LW) := fun u aa cc h hb => by
      have := prune_any u _ _ LB nx At h.rd (by have := HL8.out; omega)
      rw [hpBA, HNW.out] at this
      refine this.mono ?_
      rintro e w' ⟨x, y, he, ho, hg⟩
      exact ⟨_, he, hg, x, y, rfl, ho.below hb⟩
    clear hpA hpB hpL hpAB hpBA hp0
    have HBp := HP4
    have HB3' := HB4
    obtain ⟨HH, HHs⟩ : ∃ x, Hid (w4.heap.size = x) := ⟨_, hid rfl⟩
    have HCp : Hid (∀ u, w4.grownBy u none → Calls Try.prog 18 #[.agg [.slice a n c, .int .u64 nx].toArray] u fun e w' => ∃ v, e = .returned v ∧ u.grownBy w' none ∧ ∃ x y, v = Value.agg [Value.slice x n y, Value.int .u64 nx].toArray ∧ OutK B0 w' (.slice x n y) l) := fun u hu => HCp0.out u (HO4.out.keep hu) (by have := (gtrans HG4x.out hu).size; have := HB0.out; omega)
    refine wp_region_list (by kernel_rfl) [fun v _ => v = (Value.agg [Value.slice a n c, Value.int .u64 nx].toArray), fun v u => ∃ aa cc, v = Value.agg [Value.slice aa n cc, Value.int .u64 nx].toArray ∧ OutK B0 u (.slice aa n cc) l, fun v _ => v = (Value.pointer (some ⟨b1, 33, none⟩)), fun v _ => v = (Value.int .i64 At), fun v u => ∃ aa cc, v = Value.agg [Value.slice aa nA cc, Value.int .u64 nx].toArray ∧ OutK B0 u (.slice aa nA cc) LA, fun v _ => v = (Value.pointer (some ⟨b1, 34, none⟩)), fun v _ => v = (Value.int .i64 Bt), fun v u => ∃ aa cc, v = Value.agg [Value.slice aa m cc, Value.int .u64 nx].toArray ∧ OutK B0 u (.slice aa m cc) LW, fun v u => ∃ bb, v = Value.pointer (some ⟨bb, 0, none⟩) ∧ Blk u bb [.slice none 0 0, .int .u64 0] 69 ∧ HH ≤ bb] (none) (fun _ => none) 9 (by kernel_rfl) (by kernel_rfl) (by kernel_rfl) (by kernel_rfl) (by decide) noRow_one (fun _ => .inl rfl) ⟨fun i v u u' hki h hg => h, fun i v u u' hki h hg => (by obtain ⟨aa, cc, e, ho⟩ := h; exact ⟨aa, cc, e, ho.keep hg⟩), fun i v u u' hki h hg => h, fun i v u u' hki h hg => h, fun i v u u' hki h hg => (by obtain ⟨aa, cc, e, ho⟩ := h; exact ⟨aa, cc, e, ho.keep hg⟩), fun i v u u' hki h hg => h, fun i v u u' hki h hg => h, fun i v u u' hki h hg => (by obtain ⟨aa, cc, e, ho⟩ := h; exact ⟨aa, cc, e, ho.keep hg⟩), fun i v u u' hki h hg => (by obtain ⟨bb, e, hb, hl⟩ := h; exact ⟨bb, e, hb.keep hg, hl⟩), trivial⟩ ⟨?_, ?_, ?_, ?_, ?_, ?_, ?_, ?_, ?_, trivial⟩ ?_
    · intro A u hu hpu hsz hout hdeps
      have e3 : A.eval (.tmp 3) = (.pointer (some ⟨b3, 0, none⟩)) := (hout 3 (by kernel_rfl)).trans rfl
      refine ifw_none rfl ?_
      with_reducible refine shown_q (Value.agg [Value.slice a n c, Value.int .u64 nx].toArray) ?qq_1_0 (fun _ _ => ?qr_1_0)
      case qr_1_0 => exact (rfl : (Value.agg [Value.slice a n c, Value.int .u64 nx].toArray) = (Value.agg [Value.slice a n c, Value.int .u64 nx].toArray))
      with_reducible refine quietAt_load 69 (.tmp 3) ?h0_1_0 b3 0 [Value.slice a n c, Value.int .u64 nx] (.struct (Try.prog.fieldsOf 69)) ?h1_1_0 ?h2_1_0 ?h3_1_0 ?h4_1_0 ?h5_1_0
      case h0_1_0 => rfl
      case h1_1_0 => exact e3
      case h2_1_0 => exact (HB3'.out.keep hu).whole
      case h3_1_0 => exact Try.under69
      case h4_1_0 => rfl
      case h5_1_0 => exact Try.size69
    · intro A u hu hpu hsz hout hdeps
      have e27 : A.eval (.tmp 27) = (.agg [.slice a n c, .int .u64 nx].toArray) := by have h := depL hdeps 0 (by kernel_rfl) 27 (by kernel_rfl); exact h
      refine ifw_none rfl ?_
      with_reducible refine shown_call 18 Try.f18 ?h0_1_1 ?h1_1_1 ?h2_1_1 #[.tmp 27] #[69] ?h3_1_1 #[(Value.agg [Value.slice a n c, Value.int .u64 nx].toArray)] ?h4_1_1 ?h5_1_1
      case h0_1_1 => exact Try.func18
      case h1_1_1 => kernel_rfl
      case h2_1_1 => kernel_rfl
      case h3_1_1 => rfl
      case h4_1_1 => exact map1 _ _ _ e27
      case h5_1_1 => exact HCp.out u hu
    · intro A u hu hpu hsz hout hdeps
      have e1 : A.eval (.tmp 1) = (.pointer (some ⟨b1, 0, none⟩)) := (hout 1 (by kernel_rfl)).trans rfl
      refine ifw_none rfl ?_
      with_reducible refine shown_q (Value.pointer (some ⟨b1, 33, none⟩)) ?qq_1_2 (fun _ _ => ?qr_1_2)
      case qr_1_2 => exact (rfl : (Value.pointer (some ⟨b1, 33, none⟩)) = (Value.pointer (some ⟨b1, 33, none⟩)))
      with_reducible refine quietAt_field 103 (.tmp 1) 1 ?h0_1_2 ⟨b1, 0, none⟩ ⟨b1, 33, none⟩ ?h1_1_2 ?h2_1_2
      case h0_1_2 => rfl
      case h1_1_2 => exact e1
      case h2_1_2 => kernel_rfl
    · intro A u hu hpu hsz hout hdeps
      have e29 : A.eval (.tmp 29) = (.pointer (some ⟨b1, 33, none⟩)) := by have h := depL hdeps 2 (by kernel_rfl) 29 (by kernel_rfl); exact h
      refine ifw_none rfl ?_
      with_reducible refine shown_q (Value.int .i64 At) ?qq_1_3 (fun _ _ => ?qr_1_3)
      case qr_1_3 => exact (rfl : (Value.int .i64 At) = (Value.int .i64 At))
      with_reducible refine quietAt_ld 2 (.tmp 29) (Value.pointer (some ⟨b1, 33, none⟩)) (Value.int .i64 At) ?h0_1_3 ?h1_1_3 ?h2_1_3
      case h0_1_3 => rfl
      case h1_1_3 => exact e29
      case h2_1_3 => exact ld2 b1 33 At u (HPA.out u _ (HBp.out.keep hu)).1
    · intro A u hu hpu hsz hout hdeps
      have f28 : (fun v u => ∃ aa cc, v = Value.agg [Value.slice aa n cc, Value.int .u64 nx].toArray ∧ OutK B0 u (.slice aa n cc) l) (A.eval (.tmp 28)) u := by have h := depL hdeps 1 (by kernel_rfl) 28 (by kernel_rfl); exact h
      obtain ⟨a28, c28, e28, o28⟩ := f28
      have e30 : A.eval (.tmp 30) = (.int .i64 At) := by have h := depL hdeps 3 (by kernel_rfl) 30 (by kernel_rfl); exact h
      refine ifw_none rfl ?_
      with_reducible refine shown_call 14 Try.f14 ?h0_1_4 ?h1_1_4 ?h2_1_4 #[.tmp 28, .tmp 30] #[69, 2] ?h3_1_4 #[(Value.agg [Value.slice a28 n c28, Value.int .u64 nx].toArray), (Value.int .i64 At)] ?h4_1_4 ?h5_1_4
      case h0_1_4 => exact Try.func14
      case h1_1_4 => kernel_rfl
      case h2_1_4 => kernel_rfl
      case h3_1_4 => rfl
      case h4_1_4 => exact map2 _ _ _ _ _ e28 e30
      case h5_1_4 => exact HPa.out u _ _ o28 (by have := (gtrans HG4x.out hu).size; have := HB0.out; omega)
    · intro A u hu hpu hsz hout hdeps
      have e1 : A.eval (.tmp 1) = (.pointer (some ⟨b1, 0, none⟩)) := (hout 1 (by kernel_rfl)).trans rfl
      refine ifw_none rfl ?_
      with_reducible refine shown_q (Value.pointer (some ⟨b1, 34, none⟩)) ?qq_1_5 (fun _ _ => ?qr_1_5)
      case qr_1_5 => exact (rfl : (Value.pointer (some ⟨b1, 34, none⟩)) = (Value.pointer (some ⟨b1, 34, none⟩)))
      with_reducible refine quietAt_field 103 (.tmp 1) 2 ?h0_1_5 ⟨b1, 0, none⟩ ⟨b1, 34, none⟩ ?h1_1_5 ?h2_1_5
      case h0_1_5 => rfl
      case h1_1_5 => exact e1
      case h2_1_5 => kernel_rfl
    · intro A u hu hpu hsz hout hdeps
      have e32 : A.eval (.tmp 32) = (.pointer (some ⟨b1, 34, none⟩)) := by have h := depL hdeps 5 (by kernel_rfl) 32 (by kernel_rfl); exact h
      refine ifw_none rfl ?_
      with_reducible refine shown_q (Value.int .i64 Bt) ?qq_1_6 (fun _ _ => ?qr_1_6)
      case qr_1_6 => exact (rfl : (Value.int .i64 Bt) = (Value.int .i64 Bt))
      with_reducible refine quietAt_ld 2 (.tmp 32) (Value.pointer (some ⟨b1, 34, none⟩)) (Value.int .i64 Bt) ?h0_1_6 ?h1_1_6 ?h2_1_6
      case h0_1_6 => rfl
      case h1_1_6 => exact e32
      case h2_1_6 => exact ld2 b1 34 Bt u (HPA.out u _ (HBp.out.keep hu)).2
    · intro A u hu hpu hsz hout hdeps
      have f31 : (fun v u => ∃ aa cc, v = Value.agg [Value.slice aa nA cc, Value.int .u64 nx].toArray ∧ OutK B0 u (.slice aa nA cc) LA) (A.eval (.tmp 31)) u := by have h := depL hdeps 4 (by kernel_rfl) 31 (by kernel_rfl); exact h
      obtain ⟨a31, c31, e31, o31⟩ := f31
      have e33 : A.eval (.tmp 33) = (.int .i64 Bt) := by have h := depL hdeps 6 (by kernel_rfl) 33 (by kernel_rfl); exact h
      refine ifw_none rfl ?_
      with_reducible refine shown_call 14 Try.f14 ?h0_1_7 ?h1_1_7 ?h2_1_7 #[.tmp 31, .tmp 33] #[69, 2] ?h3_1_7 #[(Value.agg [Value.slice a31 nA c31, Value.int .u64 nx].toArray), (Value.int .i64 Bt)] ?h4_1_7 ?h5_1_7
      case h0_1_7 => exact Try.func14
      case h1_1_7 => kernel_rfl
      case h2_1_7 => kernel_rfl
      case h3_1_7 => rfl
      case h4_1_7 => exact map2 _ _ _ _ _ e31 e33
      case h5_1_7 => exact HPab.out u _ _ o31 (by have := (gtrans HG4x.out hu).size; have := HB0.out; omega)
    · intro A u hu hpu hsz hout hdeps
      refine ifw_none rfl ?_
      exact shown_alloc 69 rfl [.slice none 0 0, .int .u64 0] Try.zero69 (fun w' h _ => ⟨u.heap.size, rfl, h, by have := hu.size; have := HHs.out; omega⟩)
    · intro A u5 listed hh hall
      have hA := hh.frame
      have HU := hid hh.grown
      obtain ⟨x27, hx27⟩ : ∃ x, A.eval (.tmp 27) = x := ⟨_, rfl⟩
      have f27 : (fun v _ => v = (Value.agg [Value.slice a n c, Value.int .u64 nx].toArray)) x27 u5 := by rw [← hx27]; exact hh.got 0 _ 27 rfl rfl (hall 0 (by decide))
      obtain ⟨x28, hx28⟩ : ∃ x, A.eval (.tmp 28) = x := ⟨_, rfl⟩
      have f28 : (fun v u => ∃ aa cc, v = Value.agg [Value.slice aa n cc, Value.int .u64 nx].toArray ∧ OutK B0 u (.slice aa n cc) l) x28 u5 := by rw [← hx28]; exact hh.got 1 _ 28 rfl rfl (hall 1 (by decide))
      obtain ⟨x29, hx29⟩ : ∃ x, A.eval (.tmp 29) = x := ⟨_, rfl⟩
      have f29 : (fun v _ => v = (Value.pointer (some ⟨b1, 33, none⟩))) x29 u5 := by rw [← hx29]; exact hh.got 2 _ 29 rfl rfl (hall 2 (by decide))
      obtain ⟨x30, hx30⟩ : ∃ x, A.eval (.tmp 30) = x := ⟨_, rfl⟩
      have f30 : (fun v _ => v = (Value.int .i64 At)) x30 u5 := by rw [← hx30]; exact hh.got 3 _ 30 rfl rfl (hall 3 (by decide))
      obtain ⟨x31, hx31⟩ : ∃ x, A.eval (.tmp 31) = x := ⟨_, rfl⟩
      have f31 : (fun v u => ∃ aa cc, v = Value.agg [Value.slice aa nA cc, Value.int .u64 nx].toArray ∧ OutK B0 u (.slice aa nA cc) LA) x31 u5 := by rw [← hx31]; exact hh.got 4 _ 31 rfl rfl (hall 4 (by decide))
      obtain ⟨x32, hx32⟩ : ∃ x, A.eval (.tmp 32) = x := ⟨_, rfl⟩
      have f32 : (fun v _ => v = (Value.pointer (some ⟨b1, 34, none⟩))) x32 u5 := by rw [← hx32]; exact hh.got 5 _ 32 rfl rfl (hall 5 (by decide))
      obtain ⟨x33, hx33⟩ : ∃ x, A.eval (.tmp 33) = x := ⟨_, rfl⟩
      have f33 : (fun v _ => v = (Value.int .i64 Bt)) x33 u5 := by rw [← hx33]; exact hh.got 6 _ 33 rfl rfl (hall 6 (by decide))
      obtain ⟨x34, hx34⟩ : ∃ x, A.eval (.tmp 34) = x := ⟨_, rfl⟩
      have f34 : (fun v u => ∃ aa cc, v = Value.agg [Value.slice aa m cc, Value.int .u64 nx].toArray ∧ OutK B0 u (.slice aa m cc) LW) x34 u5 := by rw [← hx34]; exact hh.got 7 _ 34 rfl rfl (hall 7 (by decide))
      obtain ⟨x6, hx6⟩ : ∃ x, A.eval (.tmp 6) = x := ⟨_, rfl⟩
      have f6 : (fun v u => ∃ bb, v = Value.pointer (some ⟨bb, 0, none⟩) ∧ Blk u bb [.slice none 0 0, .int .u64 0] 69 ∧ HH ≤ bb) x6 u5 := by rw [← hx6]; exact hh.got 8 _ 6 rfl rfl (hall 8 (by decide))
      dsimp only [wrote, List.foldl] at hA
      rw [hx27, hx28, hx29, hx30, hx31, hx32, hx33, hx34, hx6] at hA
      clear hh hall hx27 hx28 hx29 hx30 hx31 hx32 hx33 hx34 hx6
      replace f27 := (f27 : x27 = (.agg [.slice a n c, .int .u64 nx].toArray))
      subst f27
      obtain ⟨a28, c28, e28, o28⟩ := f28
      subst e28
      replace f29 := (f29 : x29 = (.pointer (some ⟨b1, 33, none⟩)))
      subst f29
      replace f30 := (f30 : x30 = (.int .i64 At))
      subst f30
      obtain ⟨a31, c31, e31, o31⟩ := f31
      subst e31
      replace f32 := (f32 : x32 = (.pointer (some ⟨b1, 34, none⟩)))
      subst f32
      replace f33 := (f33 : x33 = (.int .i64 Bt))
      subst f33
      obtain ⟨a34, c34, e34, o34⟩ := f34
      subst e34
      obtain ⟨b6, e6, hb6b, hb6l⟩ := f6
      subst e6
      subst hA
      show wpList _ _ _ [_] _ _
      simp only [Act.put, List.setIfInBounds_toArray, List.set_cons_succ, List.set_cons_zero]
      go_wp2_with ((with_reducible refine wpList_store_all (by with_unfolding_all rfl) 69 _ _ (by with_unfolding_all rfl) _ [.slice none 0 0, .int .u64 0] [.slice a34 m c34, .int .u64 nx] 69 (by with_unfolding_all rfl) (by with_unfolding_all rfl) hb6b (by with_unfolding_all rfl) (by with_unfolding_all exact Try.size69) (ring_one _ _ _ _) ?_); intro w6 B6 g6 s6; have HB6 := hid B6; have HG6 := hid g6; have HS6 := hid s6; clear B6 g6 s6)
      have HB36 : Hid (b3 ≠ b6 ∧ b1 ≠ b6 ∧ B0 < b6) := hid (by have := HB13.out; have := HB4.out.lt; have := HHs.out; omega)
      have HB3b := hid ((HB4.out.keep HU.out).on HG6.out (by simp; have := HB36.out; omega))
      have HBpb := hid ((HP4.out.keep HU.out).on HG6.out (by simp; have := HB36.out; omega))
      have HOrb := hid ((HO4.out.keep HU.out).on HG6.out (fun j hj e => by injection hj with hj; exact (HO4.out.keep HU.out).ne_blk hb6b (by decide) _ e hj.symm))
      have HOxb := hid (o34.on HG6.out (fun j hj e => by injection hj with hj; exact o34.ne_blk hb6b (by decide) _ e hj.symm))
      have HG6x := hid ((gtrans HG4x.out HU.out).andThen HG6.out (fun j hj => .inl (by injection hj with hj; have := HB36.out; have := HB0.out; omega)))
      clear HB4 HP4 HO4 HBp HB3' HCp o28 o31 o34 hb6b hb6l HU HHs HG4x pA pB
      obtain ⟨HHb, HHsb⟩ : ∃ x, Hid (w6.heap.size = x) := ⟨_, hid rfl⟩
      have HCpb : Hid (∀ u, w6.grownBy u none → Calls Try.prog 18 #[.agg [.slice a n c, .int .u64 nx].toArray] u fun e w' => ∃ v, e = .returned v ∧ u.grownBy w' none ∧ ∃ x y, v = Value.agg [Value.slice x n y, Value.int .u64 nx].toArray ∧ OutK B0 w' (.slice x n y) l) := fun u hu => HCp0.out u (HOrb.out.keep hu) (by have := (gtrans HG6x.out hu).size; have := HB0.out; omega)
      refine wp_region_list (by kernel_rfl) [fun v _ => v = (Value.agg [Value.slice a n c, Value.int .u64 nx].toArray), fun v u => ∃ aa cc, v = Value.agg [Value.slice aa n cc, Value.int .u64 nx].toArray ∧ OutK B0 u (.slice aa n cc) l, fun v _ => v = (Value.pointer (some ⟨b1, 34, none⟩)), fun v _ => v = (Value.int .i64 Bt), fun v u => ∃ aa cc, v = Value.agg [Value.slice aa nB cc, Value.int .u64 nx].toArray ∧ OutK B0 u (.slice aa nB cc) LB, fun v _ => v = (Value.pointer (some ⟨b1, 33, none⟩)), fun v _ => v = (Value.int .i64 At), fun v u => ∃ aa cc, v = Value.agg [Value.slice aa m cc, Value.int .u64 nx].toArray ∧ OutK B0 u (.slice aa m cc) LW, fun v u => ∃ bb, v = Value.pointer (some ⟨bb, 0, none⟩) ∧ Blk u bb [.slice none 0 0, .int .u64 0] 69 ∧ HHb ≤ bb] (none) (fun _ => none) 9 (by kernel_rfl) (by kernel_rfl) (by kernel_rfl) (by kernel_rfl) (by decide) noRow_one (fun _ => .inl rfl) ⟨fun i v u u' hki h hg => h, fun i v u u' hki h hg => (by obtain ⟨aa, cc, e, ho⟩ := h; exact ⟨aa, cc, e, ho.keep hg⟩), fun i v u u' hki h hg => h, fun i v u u' hki h hg => h, fun i v u u' hki h hg => (by obtain ⟨aa, cc, e, ho⟩ := h; exact ⟨aa, cc, e, ho.keep hg⟩), fun i v u u' hki h hg => h, fun i v u u' hki h hg => h, fun i v u u' hki h hg => (by obtain ⟨aa, cc, e, ho⟩ := h; exact ⟨aa, cc, e, ho.keep hg⟩), fun i v u u' hki h hg => (by obtain ⟨bb, e, hb, hl⟩ := h; exact ⟨bb, e, hb.keep hg, hl⟩), trivial⟩ ⟨?_, ?_, ?_, ?_, ?_, ?_, ?_, ?_, ?_, trivial⟩ ?_
      · intro A u hu hpu hsz hout hdeps
        have e3 : A.eval (.tmp 3) = (.pointer (some ⟨b3, 0, none⟩)) := (hout 3 (by kernel_rfl)).trans rfl
        refine ifw_none rfl ?_
        with_reducible refine shown_q (Value.agg [Value.slice a n c, Value.int .u64 nx].toArray) ?qq_2_0 (fun _ _ => ?qr_2_0)
        case qr_2_0 => exact (rfl : (Value.agg [Value.slice a n c, Value.int .u64 nx].toArray) = (Value.agg [Value.slice a n c, Value.int .u64 nx].toArray))
        with_reducible refine quietAt_load 69 (.tmp 3) ?h0_2_0 b3 0 [Value.slice a n c, Value.int .u64 nx] (.struct (Try.prog.fieldsOf 69)) ?h1_2_0 ?h2_2_0 ?h3_2_0 ?h4_2_0 ?h5_2_0
        case h0_2_0 => rfl
        case h1_2_0 => exact e3
        case h2_2_0 => exact (HB3b.out.keep hu).whole
        case h3_2_0 => exact Try.under69
        case h4_2_0 => rfl
        case h5_2_0 => exact Try.size69
      · intro A u hu hpu hsz hout hdeps
        have e35 : A.eval (.tmp 35) = (.agg [.slice a n c, .int .u64 nx].toArray) := by have h := depL hdeps 0 (by kernel_rfl) 35 (by kernel_rfl); exact h
        refine ifw_none rfl ?_
        with_reducible refine shown_call 18 Try.f18 ?h0_2_1 ?h1_2_1 ?h2_2_1 #[.tmp 35] #[69] ?h3_2_1 #[(Value.agg [Value.slice a n c, Value.int .u64 nx].toArray)] ?h4_2_1 ?h5_2_1
        case h0_2_1 => exact Try.func18
        case h1_2_1 => kernel_rfl
        case h2_2_1 => kernel_rfl
        case h3_2_1 => rfl
        case h4_2_1 => exact map1 _ _ _ e35
        case h5_2_1 => exact HCpb.out u hu
      · intro A u hu hpu hsz hout hdeps
        have e1 : A.eval (.tmp 1) = (.pointer (some ⟨b1, 0, none⟩)) := (hout 1 (by kernel_rfl)).trans rfl
        refine ifw_none rfl ?_
        with_reducible refine shown_q (Value.pointer (some ⟨b1, 34, none⟩)) ?qq_2_2 (fun _ _ => ?qr_2_2)
        case qr_2_2 => exact (rfl : (Value.pointer (some ⟨b1, 34, none⟩)) = (Value.pointer (some ⟨b1, 34, none⟩)))
        with_reducible refine quietAt_field 103 (.tmp 1) 2 ?h0_2_2 ⟨b1, 0, none⟩ ⟨b1, 34, none⟩ ?h1_2_2 ?h2_2_2
        case h0_2_2 => rfl
        case h1_2_2 => exact e1
        case h2_2_2 => kernel_rfl
      · intro A u hu hpu hsz hout hdeps
        have e37 : A.eval (.tmp 37) = (.pointer (some ⟨b1, 34, none⟩)) := by have h := depL hdeps 2 (by kernel_rfl) 37 (by kernel_rfl); exact h
        refine ifw_none rfl ?_
        with_reducible refine shown_q (Value.int .i64 Bt) ?qq_2_3 (fun _ _ => ?qr_2_3)
        case qr_2_3 => exact (rfl : (Value.int .i64 Bt) = (Value.int .i64 Bt))
        with_reducible refine quietAt_ld 2 (.tmp 37) (Value.pointer (some ⟨b1, 34, none⟩)) (Value.int .i64 Bt) ?h0_2_3 ?h1_2_3 ?h2_2_3
        case h0_2_3 => rfl
        case h1_2_3 => exact e37
        case h2_2_3 => exact ld2 b1 34 Bt u (HPA.out u _ (HBpb.out.keep hu)).2
      · intro A u hu hpu hsz hout hdeps
        have f36 : (fun v u => ∃ aa cc, v = Value.agg [Value.slice aa n cc, Value.int .u64 nx].toArray ∧ OutK B0 u (.slice aa n cc) l) (A.eval (.tmp 36)) u := by have h := depL hdeps 1 (by kernel_rfl) 36 (by kernel_rfl); exact h
        obtain ⟨a36, c36, e36, o36⟩ := f36
        have e38 : A.eval (.tmp 38) = (.int .i64 Bt) := by have h := depL hdeps 3 (by kernel_rfl) 38 (by kernel_rfl); exact h
        refine ifw_none rfl ?_
        with_reducible refine shown_call 14 Try.f14 ?h0_2_4 ?h1_2_4 ?h2_2_4 #[.tmp 36, .tmp 38] #[69, 2] ?h3_2_4 #[(Value.agg [Value.slice a36 n c36, Value.int .u64 nx].toArray), (Value.int .i64 Bt)] ?h4_2_4 ?h5_2_4
        case h0_2_4 => exact Try.func14
        case h1_2_4 => kernel_rfl
        case h2_2_4 => kernel_rfl
        case h3_2_4 => rfl
        case h4_2_4 => exact map2 _ _ _ _ _ e36 e38
        case h5_2_4 => exact HPb.out u _ _ o36 (by have := (gtrans HG6x.out hu).size; have := HB0.out; omega)
      · intro A u hu hpu hsz hout hdeps
        have e1 : A.eval (.tmp 1) = (.pointer (some ⟨b1, 0, none⟩)) := (hout 1 (by kernel_rfl)).trans rfl
        refine ifw_none rfl ?_
        with_reducible refine shown_q (Value.pointer (some ⟨b1, 33, none⟩)) ?qq_2_5 (fun _ _ => ?qr_2_5)
        case qr_2_5 => exact (rfl : (Value.pointer (some ⟨b1, 33, none⟩)) = (Value.pointer (some ⟨b1, 33, none⟩)))
        with_reducible refine quietAt_field 103 (.tmp 1) 1 ?h0_2_5 ⟨b1, 0, none⟩ ⟨b1, 33, none⟩ ?h1_2_5 ?h2_2_5
        case h0_2_5 => rfl
        case h1_2_5 => exact e1
        case h2_2_5 => kernel_rfl
      · intro A u hu hpu hsz hout hdeps
        have e40 : A.eval (.tmp 40) = (.pointer (some ⟨b1, 33, none⟩)) := by have h := depL hdeps 5 (by kernel_rfl) 40 (by kernel_rfl); exact h
        refine ifw_none rfl ?_
        with_reducible refine shown_q (Value.int .i64 At) ?qq_2_6 (fun _ _ => ?qr_2_6)
        case qr_2_6 => exact (rfl : (Value.int .i64 At) = (Value.int .i64 At))
        with_reducible refine quietAt_ld 2 (.tmp 40) (Value.pointer (some ⟨b1, 33, none⟩)) (Value.int .i64 At) ?h0_2_6 ?h1_2_6 ?h2_2_6
        case h0_2_6 => rfl
        case h1_2_6 => exact e40
        case h2_2_6 => exact ld2 b1 33 At u (HPA.out u _ (HBpb.out.keep hu)).1
      · intro A u hu hpu hsz hout hdeps
        have f39 : (fun v u => ∃ aa cc, v = Value.agg [Value.slice aa nB cc, Value.int .u64 nx].toArray ∧ OutK B0 u (.slice aa nB cc) LB) (A.eval (.tmp 39)) u := by have h := depL hdeps 4 (by kernel_rfl) 39 (by kernel_rfl); exact h
        obtain ⟨a39, c39, e39, o39⟩ := f39
        have e41 : A.eval (.tmp 41) = (.int .i64 At) := by have h := depL hdeps 6 (by kernel_rfl) 41 (by kernel_rfl); exact h
        refine ifw_none rfl ?_
        with_reducible refine shown_call 14 Try.f14 ?h0_2_7 ?h1_2_7 ?h2_2_7 #[.tmp 39, .tmp 41] #[69, 2] ?h3_2_7 #[(Value.agg [Value.slice a39 nB c39, Value.int .u64 nx].toArray), (Value.int .i64 At)] ?h4_2_7 ?h5_2_7
        case h0_2_7 => exact Try.func14
        case h1_2_7 => kernel_rfl
        case h2_2_7 => kernel_rfl
        case h3_2_7 => rfl
        case h4_2_7 => exact map2 _ _ _ _ _ e39 e41
        case h5_2_7 => exact HPba.out u _ _ o39 (by have := (gtrans HG6x.out hu).size; have := HB0.out; omega)
      · intro A u hu hpu hsz hout hdeps
        refine ifw_none rfl ?_
        exact shown_alloc 69 rfl [.slice none 0 0, .int .u64 0] Try.zero69 (fun w' h _ => ⟨u.heap.size, rfl, h, by have := hu.size; have := HHsb.out; omega⟩)
      · intro A u7 listed hh hall
        have hA := hh.frame
        have HU := hid hh.grown
        obtain ⟨x35, hx35⟩ : ∃ x, A.eval (.tmp 35) = x := ⟨_, rfl⟩
        have f35 : (fun v _ => v = (Value.agg [Value.slice a n c, Value.int .u64 nx].toArray)) x35 u7 := by rw [← hx35]; exact hh.got 0 _ 35 rfl rfl (hall 0 (by decide))
        obtain ⟨x36, hx36⟩ : ∃ x, A.eval (.tmp 36) = x := ⟨_, rfl⟩
        have f36 : (fun v u => ∃ aa cc, v = Value.agg [Value.slice aa n cc, Value.int .u64 nx].toArray ∧ OutK B0 u (.slice aa n cc) l) x36 u7 := by rw [← hx36]; exact hh.got 1 _ 36 rfl rfl (hall 1 (by decide))
        obtain ⟨x37, hx37⟩ : ∃ x, A.eval (.tmp 37) = x := ⟨_, rfl⟩
        have f37 : (fun v _ => v = (Value.pointer (some ⟨b1, 34, none⟩))) x37 u7 := by rw [← hx37]; exact hh.got 2 _ 37 rfl rfl (hall 2 (by decide))
        obtain ⟨x38, hx38⟩ : ∃ x, A.eval (.tmp 38) = x := ⟨_, rfl⟩
        have f38 : (fun v _ => v = (Value.int .i64 Bt)) x38 u7 := by rw [← hx38]; exact hh.got 3 _ 38 rfl rfl (hall 3 (by decide))
        obtain ⟨x39, hx39⟩ : ∃ x, A.eval (.tmp 39) = x := ⟨_, rfl⟩
        have f39 : (fun v u => ∃ aa cc, v = Value.agg [Value.slice aa nB cc, Value.int .u64 nx].toArray ∧ OutK B0 u (.slice aa nB cc) LB) x39 u7 := by rw [← hx39]; exact hh.got 4 _ 39 rfl rfl (hall 4 (by decide))
        obtain ⟨x40, hx40⟩ : ∃ x, A.eval (.tmp 40) = x := ⟨_, rfl⟩
        have f40 : (fun v _ => v = (Value.pointer (some ⟨b1, 33, none⟩))) x40 u7 := by rw [← hx40]; exact hh.got 5 _ 40 rfl rfl (hall 5 (by decide))
        obtain ⟨x41, hx41⟩ : ∃ x, A.eval (.tmp 41) = x := ⟨_, rfl⟩
        have f41 : (fun v _ => v = (Value.int .i64 At)) x41 u7 := by rw [← hx41]; exact hh.got 6 _ 41 rfl rfl (hall 6 (by decide))
        obtain ⟨x42, hx42⟩ : ∃ x, A.eval (.tmp 42) = x := ⟨_, rfl⟩
        have f42 : (fun v u => ∃ aa cc, v = Value.agg [Value.slice aa m cc, Value.int .u64 nx].toArray ∧ OutK B0 u (.slice aa m cc) LW) x42 u7 := by rw [← hx42]; exact hh.got 7 _ 42 rfl rfl (hall 7 (by decide))
        obtain ⟨x7, hx7⟩ : ∃ x, A.eval (.tmp 7) = x := ⟨_, rfl⟩
        have f7 : (fun v u => ∃ bb, v = Value.pointer (some ⟨bb, 0, none⟩) ∧ Blk u bb [.slice none 0 0, .int .u64 0] 69 ∧ HHb ≤ bb) x7 u7 := by rw [← hx7]; exact hh.got 8 _ 7 rfl rfl (hall 8 (by decide))
        dsimp only [wrote, List.foldl] at hA
        rw [hx35, hx36, hx37, hx38, hx39, hx40, hx41, hx42, hx7] at hA
        clear hh hall hx35 hx36 hx37 hx38 hx39 hx40 hx41 hx42 hx7
        replace f35 := (f35 : x35 = (.agg [.slice a n c, .int .u64 nx].toArray))
        subst f35
        obtain ⟨a36, c36, e36, o36⟩ := f36
        subst e36
        replace f37 := (f37 : x37 = (.pointer (some ⟨b1, 34, none⟩)))
        subst f37
        replace f38 := (f38 : x38 = (.int .i64 Bt))
        subst f38
        obtain ⟨a39, c39, e39, o39⟩ := f39
        subst e39
        replace f40 := (f40 : x40 = (.pointer (some ⟨b1, 33, none⟩)))
        subst f40
        replace f41 := (f41 : x41 = (.int .i64 At))
        subst f41
        obtain ⟨a42, c42, e42, o42⟩ := f42
        subst e42
        obtain ⟨b7, e7, hb7b, hb7l⟩ := f7
        subst e7
        subst hA
        show wpList _ _ _ [_] _ _
        simp only [Act.put, List.setIfInBounds_toArray, List.set_cons_succ, List.set_cons_zero]
        go_wp2_with (first
          | (have := HB10; clear this; (with_reducible refine wpList_store_all (by with_unfolding_all rfl) 69 _ _ (by with_unfolding_all rfl) _ [.slice none 0 0, .int .u64 0] [.slice aw m cw, .int .u64 nx] 69 (by with_unfolding_all rfl) (by with_unfolding_all rfl) HB10.out (by with_unfolding_all rfl) (by with_unfolding_all exact Try.size69) (ring_one _ _ _ _) ?_); intro w11 B11 g11 s11; have HB11 := hid B11; have HG11 := hid g11; have HS11 := hid s11; clear B11 g11 s11)
          | ((with_reducible refine wpList_store_all (by with_unfolding_all rfl) 69 _ _ (by with_unfolding_all rfl) _ [.slice none 0 0, .int .u64 0] [.slice a42 m c42, .int .u64 nx] 69 (by with_unfolding_all rfl) (by with_unfolding_all rfl) hb7b (by with_unfolding_all rfl) (by with_unfolding_all exact Try.size69) (ring_one _ _ _ _) ?_); intro w7 B7 g7 s7; have HB7 := hid B7; have HG7 := hid g7; have HS7 := hid s7; clear B7 g7 s7; have HB37 : Hid (b3 ≠ b7 ∧ b1 ≠ b7 ∧ B0 < b7 ∧ b6 ≠ b7) := hid (by have := HB36.out; have := HB3b.out.lt; have := HBpb.out.lt; have := HB6.out.lt; have := HHsb.out; have := HB13.out; omega); have HB3c := hid ((HB3b.out.keep HU.out).on HG7.out (by simp; have := HB37.out; omega)); have HBpc := hid ((HBpb.out.keep HU.out).on HG7.out (by simp; have := HB37.out; omega)); have HB6c := hid ((HB6.out.keep HU.out).on HG7.out (by simp; have := HB37.out; omega)); have HOrc := hid ((HOrb.out.keep HU.out).on HG7.out (fun j hj e => by injection hj with hj; exact (HOrb.out.keep HU.out).ne_blk hb7b (by decide) _ e hj.symm)); have HOxc := hid ((HOxb.out.keep HU.out).on HG7.out (fun j hj e => by injection hj with hj; exact (HOxb.out.keep HU.out).ne_blk hb7b (by decide) _ e hj.symm)); have HOyc := hid (o42.on HG7.out (fun j hj e => by injection hj with hj; exact o42.ne_blk hb7b (by decide) _ e hj.symm)); have HG7x := hid ((gtrans HG6x.out HU.out).andThen HG7.out (fun j hj => .inl (by injection hj with hj; have := HB37.out; have := HB0.out; omega))); clear HB3b HBpb HB6 HOrb HOxb HCpb o36 o39 o42 hb7b hb7l HU HHsb HG6x; have HCpc : Hid (∀ u, w7.grownBy u none → Calls Try.prog 18 #[.agg [.slice a n c, .int .u64 nx].toArray] u fun e w' => ∃ v, e = .returned v ∧ u.grownBy w' none ∧ ∃ x y, v = Value.agg [Value.slice x n y, Value.int .u64 nx].toArray ∧ OutK B0 w' (.slice x n y) l) := fun u hu => HCp0.out u (HOrc.out.keep hu) (by have := (gtrans HG7x.out hu).size; have := HB0.out; omega))
          | (with_reducible refine wpList_load_part (by with_unfolding_all rfl) 69 _ (by with_unfolding_all rfl) b3 0 [.slice a n c, .int .u64 nx] _ (by with_unfolding_all rfl) HB3c.out.whole Try.underlying69 (by with_unfolding_all rfl) (by with_unfolding_all exact Try.size69) ?_)
          | (go_at_call 18; (with_reducible refine (HCpc.out _ (grefl _ _)).mono ?_); rintro e w8 ⟨v8, rfl, hg8, ax8, cx8, hv8, ho8⟩; subst hv8; have HG8 := hid hg8; have HO8 := hid ho8; clear hg8 ho8)
          | (go_at_call 14; (with_reducible refine (HPl.out _ _ _ HO8.out (by have := (gtrans HG7x.out HG8.out).size; have := HB0.out; omega)).mono ?_); rintro e w9 ⟨v9, rfl, hg9, aw, cw, hv9, ho9⟩; subst hv9; have HG9 := hid (gtrans HG8.out hg9); have HO9 := hid ho9; clear hg9 ho9)
          | ((with_reducible refine wpList_alloc_row (by with_unfolding_all rfl) 69 (by with_unfolding_all rfl) [.slice none 0 0, .int .u64 0] Try.zero69 ?_); intro w10 B10 s10 g10; have HB10 := hid B10; have HG10 := hid g10; have HS10 := hid s10; clear B10 g10 s10)
          | (have := HB10; clear this; (with_reducible refine wpList_store_all (by with_unfolding_all rfl) 69 _ _ (by with_unfolding_all rfl) _ [.slice none 0 0, .int .u64 0] [.slice aw m cw, .int .u64 nx] 69 (by with_unfolding_all rfl) (by with_unfolding_all rfl) HB10.out (by with_unfolding_all rfl) (by with_unfolding_all exact Try.size69) (ring_one _ _ _ _) ?_); intro w11 B11 g11 s11; have HB11 := hid B11; have HG11 := hid g11; have HS11 := hid s11; clear B11 g11 s11))
        obtain ⟨b8, hb8⟩ : ∃ x, w9.heap.size = x := ⟨_, rfl⟩
        rw [hb8] at HB11 HG11 HB10 ⊢
        have HS := hid ((gtrans HG9.out HG10.out).andThen HG11.out (fun j hj => .inl (by injection hj with hj; have := HG9.out.size; omega)))
        have HB3d := hid (HB3c.out.keep HS.out)
        have HB6d := hid (HB6c.out.keep HS.out)
        have HB7d := hid (HB7.out.keep HS.out)
        have HB8d := HB11
        have HOrd := hid (HOrc.out.keep HS.out)
        have HOxd := hid (HOxc.out.keep HS.out)
        have HOyd := hid (HOyc.out.keep HS.out)
        have HOwd := hid ((HO9.out.keep HG10.out).on HG11.out (fun j hj e => by injection hj with hj; exact (HO9.out.keep HG10.out).ne_blk HB10.out (by decide) _ e hj.symm))
        have HG11x := hid (gtrans HG7x.out HS.out)
        have HCpd : Hid (∀ u, w11.grownBy u none → Calls Try.prog 18 #[.agg [.slice a n c, .int .u64 nx].toArray] u fun e w' => ∃ v, e = .returned v ∧ u.grownBy w' none ∧ ∃ x y, v = Value.agg [Value.slice x n y, Value.int .u64 nx].toArray ∧ OutK B0 w' (.slice x n y) l) := fun u hu => HCp0.out u (HOrd.out.keep hu) (by have := (gtrans HG11x.out hu).size; have := HB0.out; omega)
        have hW8 : LW.length ≤ 8 := by rw [← HLWe.out]; exact Nat.le_trans (List.length_filter_le _ _) HL8.out
        have HEq : Hid (∀ (u : World) (p q : Value), OutK B0 u p LW → OutK B0 u q LW → Calls Try.prog 21 #[.agg [p, .int .u64 nx].toArray, .agg [q, .int .u64 nx].toArray] u fun e w' => e = .returned (.bool true) ∧ u.grownBy w' none) := fun u p q h1 h2 => by
          have := eqRing_any u p q _ _ LW LW nx nx h1.rd h2.rd (by omega)
          rw [decide_eq_true rfl, decide_eq_true rfl] at this
          exact this
        have HEr : Hid (∀ (u : World) (p q : Value), OutK B0 u p l → OutK B0 u q l → Calls Try.prog 21 #[.agg [p, .int .u64 nx].toArray, .agg [q, .int .u64 nx].toArray] u fun e w' => e = .returned (.bool true) ∧ u.grownBy w' none) := fun u p q h1 h2 => by
          have := eqRing_any u p q _ _ l l nx nx h1.rd h2.rd (by have := HL8.out; omega)
          rw [decide_eq_true rfl, decide_eq_true rfl] at this
          exact this
        clear HB3c HB6c HB7 HB11 HOrc HOxc HOyc HO9 HCpc HG7x HS HG8 HG9 HG10 HG11 HB10 hb8
        refine wp_region_list (by kernel_rfl) [fun v _ => v = (Value.agg [Value.slice a34 m c34, Value.int .u64 nx].toArray), fun v _ => v = (Value.agg [Value.slice a42 m c42, Value.int .u64 nx].toArray), fun v _ => v = (Value.bool true), fun v _ => v = (Value.bool false), fun v _ => v = (Value.bool false), fun v _ => v = (Value.agg [Value.slice a34 m c34, Value.int .u64 nx].toArray), fun v _ => v = (Value.agg [Value.slice aw m cw, Value.int .u64 nx].toArray), fun v _ => v = (Value.bool true), fun v _ => v = (Value.bool false), fun v _ => v = (Value.bool false), fun v _ => v = (Value.bool false), fun v _ => v = (Value.agg [Value.slice a n c, Value.int .u64 nx].toArray), fun v u => ∃ aa cc, v = Value.agg [Value.slice aa n cc, Value.int .u64 nx].toArray ∧ OutK B0 u (.slice aa n cc) l, fun v u => ∃ aa cc, v = Value.agg [Value.slice aa n cc, Value.int .u64 nx].toArray ∧ OutK B0 u (.slice aa n cc) l, fun v _ => v = (Value.agg [Value.slice a n c, Value.int .u64 nx].toArray), fun v _ => v = (Value.bool true), fun v _ => v = (Value.bool false), fun v _ => v = (Value.bool false)] (none) (fun _ => none) 18 (by kernel_rfl) (by kernel_rfl) (by kernel_rfl) (by kernel_rfl) (by decide) noRow_one (fun _ => .inl rfl) ⟨fun i v u u' hki h hg => h, fun i v u u' hki h hg => h, fun i v u u' hki h hg => h, fun i v u u' hki h hg => h, fun i v u u' hki h hg => h, fun i v u u' hki h hg => h, fun i v u u' hki h hg => h, fun i v u u' hki h hg => h, fun i v u u' hki h hg => h, fun i v u u' hki h hg => h, fun i v u u' hki h hg => h, fun i v u u' hki h hg => h, fun i v u u' hki h hg => (by obtain ⟨aa, cc, e, ho⟩ := h; exact ⟨aa, cc, e, ho.keep hg⟩), fun i v u u' hki h hg => (by obtain ⟨aa, cc, e, ho⟩ := h; exact ⟨aa, cc, e, ho.keep hg⟩), fun i v u u' hki h hg => h, fun i v u u' hki h hg => h, fun i v u u' hki h hg => h, fun i v u u' hki h hg => h, trivial⟩ ⟨?_, ?_, ?_, ?_, ?_, ?_, ?_, ?_, ?_, ?_, ?_, ?_, ?_, ?_, ?_, ?_, ?_, ?_, trivial⟩ ?_
        · intro A u hu hpu hsz hout hdeps
          have e6 : A.eval (.tmp 6) = (.pointer (some ⟨b6, 0, none⟩)) := (hout 6 (by kernel_rfl)).trans rfl
          refine ifw_none rfl ?_
          with_reducible refine shown_q (Value.agg [Value.slice a34 m c34, Value.int .u64 nx].toArray) ?qq_3_0 (fun _ _ => ?qr_3_0)
          case qr_3_0 => exact (rfl : (Value.agg [Value.slice a34 m c34, Value.int .u64 nx].toArray) = (Value.agg [Value.slice a34 m c34, Value.int .u64 nx].toArray))
          with_reducible refine quietAt_load 69 (.tmp 6) ?h0_3_0 b6 0 [Value.slice a34 m c34, Value.int .u64 nx] (.struct (Try.prog.fieldsOf 69)) ?h1_3_0 ?h2_3_0 ?h3_3_0 ?h4_3_0 ?h5_3_0
          case h0_3_0 => rfl
          case h1_3_0 => exact e6
          case h2_3_0 => exact (HB6d.out.keep hu).whole
          case h3_3_0 => exact Try.under69
          case h4_3_0 => rfl
          case h5_3_0 => exact Try.size69
        · intro A u hu hpu hsz hout hdeps
          have e7 : A.eval (.tmp 7) = (.pointer (some ⟨b7, 0, none⟩)) := (hout 7 (by kernel_rfl)).trans rfl
          refine ifw_none rfl ?_
          with_reducible refine shown_q (Value.agg [Value.slice a42 m c42, Value.int .u64 nx].toArray) ?qq_3_1 (fun _ _ => ?qr_3_1)
          case qr_3_1 => exact (rfl : (Value.agg [Value.slice a42 m c42, Value.int .u64 nx].toArray) = (Value.agg [Value.slice a42 m c42, Value.int .u64 nx].toArray))
          with_reducible refine quietAt_load 69 (.tmp 7) ?h0_3_1 b7 0 [Value.slice a42 m c42, Value.int .u64 nx] (.struct (Try.prog.fieldsOf 69)) ?h1_3_1 ?h2_3_1 ?h3_3_1 ?h4_3_1 ?h5_3_1
          case h0_3_1 => rfl
          case h1_3_1 => exact e7
          case h2_3_1 => exact (HB7d.out.keep hu).whole
          case h3_3_1 => exact Try.under69
          case h4_3_1 => rfl
          case h5_3_1 => exact Try.size69
        · intro A u hu hpu hsz hout hdeps
          have e47 : A.eval (.tmp 47) = (.agg [.slice a34 m c34, .int .u64 nx].toArray) := by have h := depL hdeps 0 (by kernel_rfl) 47 (by kernel_rfl); exact h
          have e48 : A.eval (.tmp 48) = (.agg [.slice a42 m c42, .int .u64 nx].toArray) := by have h := depL hdeps 1 (by kernel_rfl) 48 (by kernel_rfl); exact h
          refine ifw_none rfl ?_
          with_reducible refine shown_q (Value.bool true) ?qq_3_2 (fun _ _ => ?qr_3_2)
          case qr_3_2 => exact (rfl : (Value.bool true) = (Value.bool true))
          with_reducible refine quietAt_call 21 Try.f21 ?h0_3_2 ?h1_3_2 ?h2_3_2 #[.tmp 47, .tmp 48] #[69, 69] ?h3_3_2 (Value.bool true) #[(Value.agg [Value.slice a34 m c34, Value.int .u64 nx].toArray), (Value.agg [Value.slice a42 m c42, Value.int .u64 nx].toArray)] ?h4_3_2 ?h5_3_2
          case h0_3_2 => exact Try.func21
          case h1_3_2 => kernel_rfl
          case h2_3_2 => kernel_rfl
          case h3_3_2 => rfl
          case h4_3_2 => exact map2 _ _ _ _ _ e47 e48
          case h5_3_2 => exact HEq.out u _ _ (HOxd.out.keep hu) (HOyd.out.keep hu)
        · intro A u hu hpu hsz hout hdeps
          have e49 : A.eval (.tmp 49) = (.bool true) := by have h := depL hdeps 2 (by kernel_rfl) 49 (by kernel_rfl); exact h
          refine ifw_none rfl ?_
          with_reducible refine shown_q (Value.bool false) ?qq_3_3 (fun _ _ => ?qr_3_3)
          case qr_3_3 => exact (rfl : (Value.bool false) = (Value.bool false))
          with_reducible refine quietAt_un .not 4 (.tmp 49) (Value.bool true) (Value.bool false) ?h0_3_3 ?h1_3_3 ?h2_3_3
          case h0_3_3 => rfl
          case h1_3_3 => exact e49
          case h2_3_3 => rfl
        · intro A u hu hpu hsz hout hdeps
          have e50 : A.eval (.tmp 50) = (.bool false) := by have h := depL hdeps 3 (by kernel_rfl) 50 (by kernel_rfl); exact h
          refine ifw_none rfl ?_
          with_reducible refine shown_q (Value.bool false) ?qq_3_4 (fun _ _ => ?qr_3_4)
          case qr_3_4 => exact (rfl : (Value.bool false) = (Value.bool false))
          with_reducible refine quietAt_mv (.tmp 50) (Value.bool false) ?h0_3_4 ?h1_3_4
          case h0_3_4 => rfl
          case h1_3_4 => exact e50
        · intro A u hu hpu hsz hout hdeps
          have e51 : A.eval (.tmp 51) = (.bool false) := by have h := depL hdeps 4 (by kernel_rfl) 51 (by kernel_rfl); exact h
          have e6 : A.eval (.tmp 6) = (.pointer (some ⟨b6, 0, none⟩)) := (hout 6 (by kernel_rfl)).trans rfl
          refine ifw_want 4 false 51 rfl rfl e51 ?_
          with_reducible refine shown_q (Value.agg [Value.slice a34 m c34, Value.int .u64 nx].toArray) ?qq_3_5 (fun _ _ => ?qr_3_5)
          case qr_3_5 => exact (rfl : (Value.agg [Value.slice a34 m c34, Value.int .u64 nx].toArray) = (Value.agg [Value.slice a34 m c34, Value.int .u64 nx].toArray))
          with_reducible refine quietAt_load 69 (.tmp 6) ?h0_3_5 b6 0 [Value.slice a34 m c34, Value.int .u64 nx] (.struct (Try.prog.fieldsOf 69)) ?h1_3_5 ?h2_3_5 ?h3_3_5 ?h4_3_5 ?h5_3_5
          case h0_3_5 => rfl
          case h1_3_5 => exact e6
          case h2_3_5 => exact (HB6d.out.keep hu).whole
          case h3_3_5 => exact Try.under69
          case h4_3_5 => rfl
          case h5_3_5 => exact Try.size69
        · intro A u hu hpu hsz hout hdeps
          have e51 : A.eval (.tmp 51) = (.bool false) := by have h := depL hdeps 4 (by kernel_rfl) 51 (by kernel_rfl); exact h
          have e8 : A.eval (.tmp 8) = (.pointer (some ⟨b8, 0, none⟩)) := (hout 8 (by kernel_rfl)).trans rfl
          refine ifw_want 4 false 51 rfl rfl e51 ?_
          with_reducible refine shown_q (Value.agg [Value.slice aw m cw, Value.int .u64 nx].toArray) ?qq_3_6 (fun _ _ => ?qr_3_6)
          case qr_3_6 => exact (rfl : (Value.agg [Value.slice aw m cw, Value.int .u64 nx].toArray) = (Value.agg [Value.slice aw m cw, Value.int .u64 nx].toArray))
          with_reducible refine quietAt_load 69 (.tmp 8) ?h0_3_6 b8 0 [Value.slice aw m cw, Value.int .u64 nx] (.struct (Try.prog.fieldsOf 69)) ?h1_3_6 ?h2_3_6 ?h3_3_6 ?h4_3_6 ?h5_3_6
          case h0_3_6 => rfl
          case h1_3_6 => exact e8
          case h2_3_6 => exact (HB8d.out.keep hu).whole
          case h3_3_6 => exact Try.under69
          case h4_3_6 => rfl
          case h5_3_6 => exact Try.size69
        · intro A u hu hpu hsz hout hdeps
          have e51 : A.eval (.tmp 51) = (.bool false) := by have h := depL hdeps 4 (by kernel_rfl) 51 (by kernel_rfl); exact h
          have e52 : A.eval (.tmp 52) = (.agg [.slice a34 m c34, .int .u64 nx].toArray) := by have h := depL hdeps 5 (by kernel_rfl) 52 (by kernel_rfl); exact h
          have e53 : A.eval (.tmp 53) = (.agg [.slice aw m cw, .int .u64 nx].toArray) := by have h := depL hdeps 6 (by kernel_rfl) 53 (by kernel_rfl); exact h
          refine ifw_want 4 false 51 rfl rfl e51 ?_
          with_reducible refine shown_q (Value.bool true) ?qq_3_7 (fun _ _ => ?qr_3_7)
          case qr_3_7 => exact (rfl : (Value.bool true) = (Value.bool true))
          with_reducible refine quietAt_call 21 Try.f21 ?h0_3_7 ?h1_3_7 ?h2_3_7 #[.tmp 52, .tmp 53] #[69, 69] ?h3_3_7 (Value.bool true) #[(Value.agg [Value.slice a34 m c34, Value.int .u64 nx].toArray), (Value.agg [Value.slice aw m cw, Value.int .u64 nx].toArray)] ?h4_3_7 ?h5_3_7
          case h0_3_7 => exact Try.func21
          case h1_3_7 => kernel_rfl
          case h2_3_7 => kernel_rfl
          case h3_3_7 => rfl
          case h4_3_7 => exact map2 _ _ _ _ _ e52 e53
          case h5_3_7 => exact HEq.out u _ _ (HOxd.out.keep hu) (HOwd.out.keep hu)
        · intro A u hu hpu hsz hout hdeps
          have e51 : A.eval (.tmp 51) = (.bool false) := by have h := depL hdeps 4 (by kernel_rfl) 51 (by kernel_rfl); exact h
          have e54 : A.eval (.tmp 54) = (.bool true) := by have h := depL hdeps 7 (by kernel_rfl) 54 (by kernel_rfl); exact h
          refine ifw_want 4 false 51 rfl rfl e51 ?_
          with_reducible refine shown_q (Value.bool false) ?qq_3_8 (fun _ _ => ?qr_3_8)
          case qr_3_8 => exact (rfl : (Value.bool false) = (Value.bool false))
          with_reducible refine quietAt_un .not 4 (.tmp 54) (Value.bool true) (Value.bool false) ?h0_3_8 ?h1_3_8 ?h2_3_8
          case h0_3_8 => rfl
          case h1_3_8 => exact e54
          case h2_3_8 => rfl
        · intro A u hu hpu hsz hout hdeps
          have e51 : A.eval (.tmp 51) = (.bool false) := by have h := depL hdeps 4 (by kernel_rfl) 51 (by kernel_rfl); exact h
          have e55 : A.eval (.tmp 55) = (.bool false) := by have h := depL hdeps 8 (by kernel_rfl) 55 (by kernel_rfl); exact h
          refine ifw_none rfl ?_
          with_reducible refine shown_q (Value.bool false) ?qq_3_9 (fun _ _ => ?qr_3_9)
          case qr_3_9 => exact (rfl : (Value.bool false) = (Value.bool false))
          with_reducible refine quietAt_pick (.tmp 51) (.const (.bool true)) (.tmp 55) false (Value.bool false) ?h0_3_9 ?h1_3_9 ?h2_3_9
          case h0_3_9 => rfl
          case h1_3_9 => exact e51
          case h2_3_9 => rw [if_neg (by decide)]; exact e55
        · intro A u hu hpu hsz hout hdeps
          have e56 : A.eval (.tmp 56) = (.bool false) := by have h := depL hdeps 9 (by kernel_rfl) 56 (by kernel_rfl); exact h
          refine ifw_none rfl ?_
          with_reducible refine shown_q (Value.bool false) ?qq_3_10 (fun _ _ => ?qr_3_10)
          case qr_3_10 => exact (rfl : (Value.bool false) = (Value.bool false))
          with_reducible refine quietAt_mv (.tmp 56) (Value.bool false) ?h0_3_10 ?h1_3_10
          case h0_3_10 => rfl
          case h1_3_10 => exact e56
        · intro A u hu hpu hsz hout hdeps
          have e57 : A.eval (.tmp 57) = (.bool false) := by have h := depL hdeps 10 (by kernel_rfl) 57 (by kernel_rfl); exact h
          have e3 : A.eval (.tmp 3) = (.pointer (some ⟨b3, 0, none⟩)) := (hout 3 (by kernel_rfl)).trans rfl
          refine ifw_want 10 false 57 rfl rfl e57 ?_
          with_reducible refine shown_q (Value.agg [Value.slice a n c, Value.int .u64 nx].toArray) ?qq_3_11 (fun _ _ => ?qr_3_11)
          case qr_3_11 => exact (rfl : (Value.agg [Value.slice a n c, Value.int .u64 nx].toArray) = (Value.agg [Value.slice a n c, Value.int .u64 nx].toArray))
          with_reducible refine quietAt_load 69 (.tmp 3) ?h0_3_11 b3 0 [Value.slice a n c, Value.int .u64 nx] (.struct (Try.prog.fieldsOf 69)) ?h1_3_11 ?h2_3_11 ?h3_3_11 ?h4_3_11 ?h5_3_11
          case h0_3_11 => rfl
          case h1_3_11 => exact e3
          case h2_3_11 => exact (HB3d.out.keep hu).whole
          case h3_3_11 => exact Try.under69
          case h4_3_11 => rfl
          case h5_3_11 => exact Try.size69
        · intro A u hu hpu hsz hout hdeps
          have e57 : A.eval (.tmp 57) = (.bool false) := by have h := depL hdeps 10 (by kernel_rfl) 57 (by kernel_rfl); exact h
          have e58 : A.eval (.tmp 58) = (.agg [.slice a n c, .int .u64 nx].toArray) := by have h := depL hdeps 11 (by kernel_rfl) 58 (by kernel_rfl); exact h
          refine ifw_want 10 false 57 rfl rfl e57 ?_
          with_reducible refine shown_call 18 Try.f18 ?h0_3_12 ?h1_3_12 ?h2_3_12 #[.tmp 58] #[69] ?h3_3_12 #[(Value.agg [Value.slice a n c, Value.int .u64 nx].toArray)] ?h4_3_12 ?h5_3_12
          case h0_3_12 => exact Try.func18
          case h1_3_12 => kernel_rfl
          case h2_3_12 => kernel_rfl
          case h3_3_12 => rfl
          case h4_3_12 => exact map1 _ _ _ e58
          case h5_3_12 => exact HCpd.out u hu
        · intro A u hu hpu hsz hout hdeps
          have e57 : A.eval (.tmp 57) = (.bool false) := by have h := depL hdeps 10 (by kernel_rfl) 57 (by kernel_rfl); exact h
          have f59 : (fun v u => ∃ aa cc, v = Value.agg [Value.slice aa n cc, Value.int .u64 nx].toArray ∧ OutK B0 u (.slice aa n cc) l) (A.eval (.tmp 59)) u := by have h := depL hdeps 12 (by kernel_rfl) 59 (by kernel_rfl); exact h
          obtain ⟨a59, c59, e59, o59⟩ := f59
          refine ifw_want 10 false 57 rfl rfl e57 ?_
          with_reducible refine shown_call 14 Try.f14 ?h0_3_13 ?h1_3_13 ?h2_3_13 #[.tmp 59, .const (.int .i64 0)] #[69, 2] ?h3_3_13 #[(Value.agg [Value.slice a59 n c59, Value.int .u64 nx].toArray), (Value.int .i64 0)] ?h4_3_13 ?h5_3_13
          case h0_3_13 => exact Try.func14
          case h1_3_13 => kernel_rfl
          case h2_3_13 => kernel_rfl
          case h3_3_13 => rfl
          case h4_3_13 => exact map2 _ _ _ _ _ e59 rfl
          case h5_3_13 => exact HP0.out u _ _ o59 (by have := (gtrans HG11x.out hu).size; have := HB0.out; omega)
        · intro A u hu hpu hsz hout hdeps
          have e57 : A.eval (.tmp 57) = (.bool false) := by have h := depL hdeps 10 (by kernel_rfl) 57 (by kernel_rfl); exact h
          have e3 : A.eval (.tmp 3) = (.pointer (some ⟨b3, 0, none⟩)) := (hout 3 (by kernel_rfl)).trans rfl
          refine ifw_want 10 false 57 rfl rfl e57 ?_
          with_reducible refine shown_q (Value.agg [Value.slice a n c, Value.int .u64 nx].toArray) ?qq_3_14 (fun _ _ => ?qr_3_14)
          case qr_3_14 => exact (rfl : (Value.agg [Value.slice a n c, Value.int .u64 nx].toArray) = (Value.agg [Value.slice a n c, Value.int .u64 nx].toArray))
          with_reducible refine quietAt_load 69 (.tmp 3) ?h0_3_14 b3 0 [Value.slice a n c, Value.int .u64 nx] (.struct (Try.prog.fieldsOf 69)) ?h1_3_14 ?h2_3_14 ?h3_3_14 ?h4_3_14 ?h5_3_14
          case h0_3_14 => rfl
          case h1_3_14 => exact e3
          case h2_3_14 => exact (HB3d.out.keep hu).whole
          case h3_3_14 => exact Try.under69
          case h4_3_14 => rfl
          case h5_3_14 => exact Try.size69
        · intro A u hu hpu hsz hout hdeps
          have e57 : A.eval (.tmp 57) = (.bool false) := by have h := depL hdeps 10 (by kernel_rfl) 57 (by kernel_rfl); exact h
          have f60 : (fun v u => ∃ aa cc, v = Value.agg [Value.slice aa n cc, Value.int .u64 nx].toArray ∧ OutK B0 u (.slice aa n cc) l) (A.eval (.tmp 60)) u := by have h := depL hdeps 13 (by kernel_rfl) 60 (by kernel_rfl); exact h
          obtain ⟨a60, c60, e60, o60⟩ := f60
          have e61 : A.eval (.tmp 61) = (.agg [.slice a n c, .int .u64 nx].toArray) := by have h := depL hdeps 14 (by kernel_rfl) 61 (by kernel_rfl); exact h
          refine ifw_want 10 false 57 rfl rfl e57 ?_
          with_reducible refine shown_q (Value.bool true) ?qq_3_15 (fun _ _ => ?qr_3_15)
          case qr_3_15 => exact (rfl : (Value.bool true) = (Value.bool true))
          with_reducible refine quietAt_call 21 Try.f21 ?h0_3_15 ?h1_3_15 ?h2_3_15 #[.tmp 60, .tmp 61] #[69, 69] ?h3_3_15 (Value.bool true) #[(Value.agg [Value.slice a60 n c60, Value.int .u64 nx].toArray), (Value.agg [Value.slice a n c, Value.int .u64 nx].toArray)] ?h4_3_15 ?h5_3_15
          case h0_3_15 => exact Try.func21
          case h1_3_15 => kernel_rfl
          case h2_3_15 => kernel_rfl
          case h3_3_15 => rfl
          case h4_3_15 => exact map2 _ _ _ _ _ e60 e61
          case h5_3_15 => exact HEr.out u _ _ o60 (HOrd.out.keep hu)
        · intro A u hu hpu hsz hout hdeps
          have e57 : A.eval (.tmp 57) = (.bool false) := by have h := depL hdeps 10 (by kernel_rfl) 57 (by kernel_rfl); exact h
          have e62 : A.eval (.tmp 62) = (.bool true) := by have h := depL hdeps 15 (by kernel_rfl) 62 (by kernel_rfl); exact h
          refine ifw_want 10 false 57 rfl rfl e57 ?_
          with_reducible refine shown_q (Value.bool false) ?qq_3_16 (fun _ _ => ?qr_3_16)
          case qr_3_16 => exact (rfl : (Value.bool false) = (Value.bool false))
          with_reducible refine quietAt_un .not 4 (.tmp 62) (Value.bool true) (Value.bool false) ?h0_3_16 ?h1_3_16 ?h2_3_16
          case h0_3_16 => rfl
          case h1_3_16 => exact e62
          case h2_3_16 => rfl
        · intro A u hu hpu hsz hout hdeps
          have e57 : A.eval (.tmp 57) = (.bool false) := by have h := depL hdeps 10 (by kernel_rfl) 57 (by kernel_rfl); exact h
          have e63 : A.eval (.tmp 63) = (.bool false) := by have h := depL hdeps 16 (by kernel_rfl) 63 (by kernel_rfl); exact h
          refine ifw_none rfl ?_
          with_reducible refine shown_q (Value.bool false) ?qq_3_17 (fun _ _ => ?qr_3_17)
          case qr_3_17 => exact (rfl : (Value.bool false) = (Value.bool false))
          with_reducible refine quietAt_pick (.tmp 57) (.const (.bool true)) (.tmp 63) false (Value.bool false) ?h0_3_17 ?h1_3_17 ?h2_3_17
          case h0_3_17 => rfl
          case h1_3_17 => exact e57
          case h2_3_17 => rw [if_neg (by decide)]; exact e63
        · intro A u12 listed hh hall
          have hA := hh.frame
          have HU := hid hh.grown
          obtain ⟨x47, hx47⟩ : ∃ x, A.eval (.tmp 47) = x := ⟨_, rfl⟩
          have f47 : (fun v _ => v = (Value.agg [Value.slice a34 m c34, Value.int .u64 nx].toArray)) x47 u12 := by rw [← hx47]; exact hh.got 0 _ 47 rfl rfl (hall 0 (by decide))
          obtain ⟨x48, hx48⟩ : ∃ x, A.eval (.tmp 48) = x := ⟨_, rfl⟩
          have f48 : (fun v _ => v = (Value.agg [Value.slice a42 m c42, Value.int .u64 nx].toArray)) x48 u12 := by rw [← hx48]; exact hh.got 1 _ 48 rfl rfl (hall 1 (by decide))
          obtain ⟨x49, hx49⟩ : ∃ x, A.eval (.tmp 49) = x := ⟨_, rfl⟩
          have f49 : (fun v _ => v = (Value.bool true)) x49 u12 := by rw [← hx49]; exact hh.got 2 _ 49 rfl rfl (hall 2 (by decide))
          obtain ⟨x50, hx50⟩ : ∃ x, A.eval (.tmp 50) = x := ⟨_, rfl⟩
          have f50 : (fun v _ => v = (Value.bool false)) x50 u12 := by rw [← hx50]; exact hh.got 3 _ 50 rfl rfl (hall 3 (by decide))
          obtain ⟨x51, hx51⟩ : ∃ x, A.eval (.tmp 51) = x := ⟨_, rfl⟩
          have f51 : (fun v _ => v = (Value.bool false)) x51 u12 := by rw [← hx51]; exact hh.got 4 _ 51 rfl rfl (hall 4 (by decide))
          obtain ⟨x52, hx52⟩ : ∃ x, A.eval (.tmp 52) = x := ⟨_, rfl⟩
          have f52 : (fun v _ => v = (Value.agg [Value.slice a34 m c34, Value.int .u64 nx].toArray)) x52 u12 := by rw [← hx52]; exact hh.got 5 _ 52 rfl rfl (hall 5 (by decide))
          obtain ⟨x53, hx53⟩ : ∃ x, A.eval (.tmp 53) = x := ⟨_, rfl⟩
          have f53 : (fun v _ => v = (Value.agg [Value.slice aw m cw, Value.int .u64 nx].toArray)) x53 u12 := by rw [← hx53]; exact hh.got 6 _ 53 rfl rfl (hall 6 (by decide))
          obtain ⟨x54, hx54⟩ : ∃ x, A.eval (.tmp 54) = x := ⟨_, rfl⟩
          have f54 : (fun v _ => v = (Value.bool true)) x54 u12 := by rw [← hx54]; exact hh.got 7 _ 54 rfl rfl (hall 7 (by decide))
          obtain ⟨x55, hx55⟩ : ∃ x, A.eval (.tmp 55) = x := ⟨_, rfl⟩
          have f55 : (fun v _ => v = (Value.bool false)) x55 u12 := by rw [← hx55]; exact hh.got 8 _ 55 rfl rfl (hall 8 (by decide))
          obtain ⟨x56, hx56⟩ : ∃ x, A.eval (.tmp 56) = x := ⟨_, rfl⟩
          have f56 : (fun v _ => v = (Value.bool false)) x56 u12 := by rw [← hx56]; exact hh.got 9 _ 56 rfl rfl (hall 9 (by decide))
          obtain ⟨x57, hx57⟩ : ∃ x, A.eval (.tmp 57) = x := ⟨_, rfl⟩
          have f57 : (fun v _ => v = (Value.bool false)) x57 u12 := by rw [← hx57]; exact hh.got 10 _ 57 rfl rfl (hall 10 (by decide))
          obtain ⟨x58, hx58⟩ : ∃ x, A.eval (.tmp 58) = x := ⟨_, rfl⟩
          have f58 : (fun v _ => v = (Value.agg [Value.slice a n c, Value.int .u64 nx].toArray)) x58 u12 := by rw [← hx58]; exact hh.got 11 _ 58 rfl rfl (hall 11 (by decide))
          obtain ⟨x59, hx59⟩ : ∃ x, A.eval (.tmp 59) = x := ⟨_, rfl⟩
          have f59 : (fun v u => ∃ aa cc, v = Value.agg [Value.slice aa n cc, Value.int .u64 nx].toArray ∧ OutK B0 u (.slice aa n cc) l) x59 u12 := by rw [← hx59]; exact hh.got 12 _ 59 rfl rfl (hall 12 (by decide))
          obtain ⟨x60, hx60⟩ : ∃ x, A.eval (.tmp 60) = x := ⟨_, rfl⟩
          have f60 : (fun v u => ∃ aa cc, v = Value.agg [Value.slice aa n cc, Value.int .u64 nx].toArray ∧ OutK B0 u (.slice aa n cc) l) x60 u12 := by rw [← hx60]; exact hh.got 13 _ 60 rfl rfl (hall 13 (by decide))
          obtain ⟨x61, hx61⟩ : ∃ x, A.eval (.tmp 61) = x := ⟨_, rfl⟩
          have f61 : (fun v _ => v = (Value.agg [Value.slice a n c, Value.int .u64 nx].toArray)) x61 u12 := by rw [← hx61]; exact hh.got 14 _ 61 rfl rfl (hall 14 (by decide))
          obtain ⟨x62, hx62⟩ : ∃ x, A.eval (.tmp 62) = x := ⟨_, rfl⟩
          have f62 : (fun v _ => v = (Value.bool true)) x62 u12 := by rw [← hx62]; exact hh.got 15 _ 62 rfl rfl (hall 15 (by decide))
          obtain ⟨x63, hx63⟩ : ∃ x, A.eval (.tmp 63) = x := ⟨_, rfl⟩
          have f63 : (fun v _ => v = (Value.bool false)) x63 u12 := by rw [← hx63]; exact hh.got 16 _ 63 rfl rfl (hall 16 (by decide))
          obtain ⟨x64, hx64⟩ : ∃ x, A.eval (.tmp 64) = x := ⟨_, rfl⟩
          have f64 : (fun v _ => v = (Value.bool false)) x64 u12 := by rw [← hx64]; exact hh.got 17 _ 64 rfl rfl (hall 17 (by decide))
          dsimp only [wrote, List.foldl] at hA
          rw [hx47, hx48, hx49, hx50, hx51, hx52, hx53, hx54, hx55, hx56, hx57, hx58, hx59, hx60, hx61, hx62, hx63, hx64] at hA
          clear hh hall hx47 hx48 hx49 hx50 hx51 hx52 hx53 hx54 hx55 hx56 hx57 hx58 hx59 hx60 hx61 hx62 hx63 hx64
          replace f47 := (f47 : x47 = (.agg [.slice a34 m c34, .int .u64 nx].toArray))
          subst f47
          replace f48 := (f48 : x48 = (.agg [.slice a42 m c42, .int .u64 nx].toArray))
          subst f48
          replace f49 := (f49 : x49 = (.bool true))
          subst f49
          replace f50 := (f50 : x50 = (.bool false))
          subst f50
          replace f51 := (f51 : x51 = (.bool false))
          subst f51
          replace f52 := (f52 : x52 = (.agg [.slice a34 m c34, .int .u64 nx].toArray))
          subst f52
          replace f53 := (f53 : x53 = (.agg [.slice aw m cw, .int .u64 nx].toArray))
          subst f53
          replace f54 := (f54 : x54 = (.bool true))
          subst f54
          replace f55 := (f55 : x55 = (.bool false))
          subst f55
          replace f56 := (f56 : x56 = (.bool false))
          subst f56
          replace f57 := (f57 : x57 = (.bool false))
          subst f57
          replace f58 := (f58 : x58 = (.agg [.slice a n c, .int .u64 nx].toArray))
          subst f58
          obtain ⟨a59, c59, e59, o59⟩ := f59
          subst e59
          obtain ⟨a60, c60, e60, o60⟩ := f60
          subst e60
          replace f61 := (f61 : x61 = (.agg [.slice a n c, .int .u64 nx].toArray))
          subst f61
          replace f62 := (f62 : x62 = (.bool true))
          subst f62
          replace f63 := (f63 : x63 = (.bool false))
          subst f63
          replace f64 := (f64 : x64 = (.bool false))
          subst f64
          subst hA
          show wpList _ _ _ [] _ _
          unfold wpList
          simp only [Act.put, List.setIfInBounds_toArray, List.set_cons_succ, List.set_cons_zero]
          have HG12 := hid (gtrans HG11x.out HU.out)
          have HB3e0 := hid (HB3d.out.keep HU.out)
          have HB8e0 := hid (HB8d.out.keep HU.out)
          have HOre := hid (HOrd.out.keep HU.out)
          have HOwe := hid (HOwd.out.keep HU.out)
          clear HB3d HB6d HB7d HB8d HOrd HOxd HOyd HOwd HCpd HU o59 o60 HCp0 HPa HPb HPl HP0 HPab HPba HEq HEr
          obtain ⟨hok, ar, gr, orr, cr, her, -, Har, Hcr⟩ := HOre.out.rd.open
          obtain ⟨hokw, aw', gw, ow, cw', hew, -, Haw, Hcw⟩ := HOwe.out.rd.open
          injection her with er1 er2 er3
          injection hew with ew1 ew2 ew3
          subst er1 er3 ew1 ew3
          obtain ⟨ri, hrg⟩ := isRing_rg HRi.out
          have hlpos : 0 < l.length := (goodL_pos (isRing_good HRi.out).1).1
          have hwpos : 0 < LW.length := by
            rw [← HLWe.out]
            exact (goodL_pos (isRing_good (prn_ring Bt HRi.out).2).1).1
          obtain ⟨rfl, -⟩ := Har.out hlpos
          obtain ⟨rfl, -⟩ := Haw.out hwpos
          have HTil : Hid (∀ x ∈ l, 0 ≤ x.til) := hid (fun x hx => by
            rw [hrg.eq] at hx
            rcases List.mem_append.1 hx with h | h
            · have := hrg.tils x h; omega
            · rw [List.mem_singleton.1 h, hrg.til0]; exact Int.le_refl _)
          have HKp : Hid (∀ (i : Nat) (hi : i < l.length), (!goesP Bt l[i]) = true → LW[((l.take i).filter (fun k => !goesP Bt k)).length]? = some l[i]) := hid (fun i hi h => by rw [← HLWe.out]; exact filter_at _ l i hi h)
          have HSu : Hid (∀ (i : Nat) (hi : i < l.length), ((l.take (i + 1)).filter (fun k => !goesP Bt k)).length = ((l.take i).filter (fun k => !goesP Bt k)).length + (if (!goesP Bt l[i]) = true then 1 else 0)) := hid (fun i hi => filter_take_succ _ l i hi)
          have HEnd : Hid (((l.take n).filter (fun k => !goesP Bt k)).length = m) := hid (by rw [← HNW.out, ← HLWe.out, List.take_of_length_le (by rw [HN.out]; exact Nat.le_refl _)])
          have HN8 : Hid (n ≤ 8) := hid (by have := HL8.out; have := HN.out; omega)
          obtain ⟨kk, HKK⟩ : ∃ f : Nat → Nat, Hid (∀ i, ((l.take i).filter (fun k => !goesP Bt k)).length = f i) := ⟨_, hid (fun _ => rfl)⟩
          have HKp2 : Hid (∀ (i : Nat) (hi : i < l.length), (!goesP Bt l[i]) = true → LW[kk i]? = some l[i]) := hid (fun i hi h => by rw [← HKK.out i]; exact HKp.out i hi h)
          have HSu2 : Hid (∀ (i : Nat) (hi : i < l.length), kk (i + 1) = kk i + (if (!goesP Bt l[i]) = true then 1 else 0)) := hid (fun i hi => by rw [← HKK.out i, ← HKK.out (i + 1)]; exact HSu.out i hi)
          have HEnd2 : Hid (kk n = m) := hid (by rw [← HKK.out n]; exact HEnd.out)
          have HKK0 : Hid (kk 0 = 0) := hid (by rw [← HKK.out 0]; rfl)
          have HKle : Hid (∀ i, kk i ≤ 8) := hid (fun i => by
            rw [← HKK.out i]
            refine Nat.le_trans (List.length_filter_le _ _) ?_
            rw [List.length_take]
            have := HL8.out
            omega)
          clear HKp HSu HEnd HKK hrg Har Haw
          go_wp2_with fail
          go_loopw [9, 10] (fun kv iv wr => ∃ i : Nat, iv = .int .i64 i ∧ kv = .int .i64 (kk i : Nat) ∧ i ≤ n ∧ Hid (u12.grownBy wr none)) (fun _ iv _ => n - (intOf iv).toNat)
          case atStart => exact ⟨0, rfl, by rw [HKK0.out]; rfl, Nat.zero_le _, hid (grefl _ _)⟩
          case round =>
            obtain ⟨i, rfl, rfl, hin, HG⟩ := hrel
            have HB3e := hid (HB3e0.out.keep HG.out)
            have HB8e := hid (HB8e0.out.keep HG.out)
            have y0 := HB3e.out.cell 0
            have y1 := HB3e.out.cell 1
            have z0 := HB8e.out.cell 0
            have z1 := HB8e.out.cell 1
            by_cases hlt : i < n
            · have hil : i < l.length := by rw [HN.out]; exact hlt
              have hlt' : (i : Int) < (n : Int) := by omega
              have hi := hlt
              have hi8 : i < 8 := by have := HN8.out; omega
              obtain ⟨hr, hgb⟩ := Hcr.out wr HG.out i hil
              have hko := hok _ (List.getElem_mem hil)
              have htil := HTil.out _ (List.getElem_mem hil)
              have q33 : wr.cell? ⟨gr, orr + i * 34 + 33, none⟩ = some (.int .i64 l[i].til) := hr 33 _ (Ky.c33 hko.2.1)
              have HRr : Hid (∀ u, wr.grownBy u none → u.rangeAt gr (orr + i * 34) l[i].cells) := hid (fun u hu => (Hcr.out u (gtrans HG.out hu) i hil).1)
              have hsu := HSu2.out i hil
              have hkp := HKp2.out i hil
              have HKL : Hid (l[i].cells.length = 34) := hid (Ky.cells_length hko.2.1)
              have HNe : Hid (∀ (x y : Operand) (u : World), (do eqGuard .neq 107 x y (.agg l[i].cells.toArray) (.agg l[i].cells.toArray); binOp .neq 107 (.agg l[i].cells.toArray) (.agg l[i].cells.toArray) : Sem Value).run Try.prog u = .ok (.bool false) u) := fun x y u => by rw [neq_key hko.2.1 hko.2.1]; simp
              have hgk : (!goesP Bt l[i]) = !(decide (0 < l[i].til) && decide (l[i].til ≤ Bt)) := rfl
              obtain ⟨K, HK⟩ : ∃ x, Hid (l[i] = x) := ⟨_, hid rfl⟩
              rw [HK.out] at hr htil q33 HRr hsu hkp HKL HNe hgk hko
              obtain ⟨k, HKi⟩ : ∃ x, Hid (kk i = x) := ⟨_, hid rfl⟩
              rw [HKi.out] at hsu hkp ⊢
              have HK8 : Hid (k ≤ 8) := hid (by rw [← HKi.out]; exact HKle.out i)
              have hk8 := HK8.out
              obtain ⟨til, HTl⟩ : ∃ x, Hid (K.til = x) := ⟨_, hid rfl⟩
              rw [HTl.out] at htil q33 hgk
              have HSu3 := hid hsu
              have HKp3 := hid hkp
              have HGk := hid hgk
              clear hr hsu hkp hgk hko HK
              by_cases hg : 0 < til ∧ til ≤ Bt
              · have h0 : (til == 0) = false := beq_eq_false_iff_ne.2 (by omega)
                have h1 : ¬ Bt < til := by omega
                have HSn : Hid (kk (i + 1) = k) := hid (by rw [HSu3.out, HGk.out, decide_eq_true hg.1, decide_eq_true hg.2]; rfl)
                clear hg
                go_wp2_with fail
                go_roundw
                case rel => exact ⟨i + 1, by go_num, by rw [HSn.out], by omega, HG⟩
                case measure => simp [intOf]; omega
              · have hkeep : (!goesP Bt K) = true := by
                  rw [HGk.out]
                  simp only [Bool.not_eq_true', Bool.and_eq_false_iff, decide_eq_false_iff_not]
                  omega
                have hat := HKp3.out hkeep
                have HSn : Hid (kk (i + 1) = k + 1) := hid (by rw [HSu3.out, if_pos hkeep])
                have hkm : k < LW.length := (List.getElem?_eq_some_iff.1 hat).1
                have hLk : LW[k] = K := (List.getElem?_eq_some_iff.1 hat).2
                have HRw : Hid (∀ u, wr.grownBy u none → u.rangeAt gw (ow + k * 34) K.cells) := hid (fun u hu => by rw [← hLk]; exact (Hcw.out u (gtrans HG.out hu) k hkm).1)
                have HKm : Hid (k < m) := hid (by rw [← HNW.out]; exact hkm)
                have HGe : Hid (∀ (x y : Operand) (u : World), (do eqGuard .geq 3 x y (.int .i64 (k : Nat)) (.int .i64 (m : Nat)); binOp .geq 3 (.int .i64 (k : Nat)) (.int .i64 (m : Nat)) : Sem Value).run Try.prog u = .ok (.bool false) u) := fun x y u => geq_no k m HKm.out u
                clear hkeep hat hkm hLk
                by_cases h0 : til = 0
                · have h0' : (til == 0) = true := by rw [beq_iff_eq]; exact h0
                  clear hg h0
                  go_wp2_with fail
                  refine wp_region_list (by kernel_rfl) [fun v _ => v = (Value.int .i64 (k : Nat)), fun v _ => v = (Value.pointer (some ⟨b8, 0, none⟩)), fun v _ => v = (Value.slice (some ⟨gw, ow, none⟩) m cw), fun v _ => v = (Value.int .i64 (m : Nat)), fun v _ => v = (Value.bool false), fun v _ => v = (Value.bool false), fun v _ => v = (Value.pointer (some ⟨b8, 0, none⟩)), fun v _ => v = (Value.slice (some ⟨gw, ow, none⟩) m cw), fun v _ => v = (Value.int .i64 (k : Nat)), fun v _ => v = (Value.pointer (some ⟨gw, ow + k * 34, none⟩)), fun v _ => v = (Value.agg K.cells.toArray), fun v _ => v = (Value.pointer (some ⟨b3, 0, none⟩)), fun v _ => v = (Value.slice (some ⟨gr, orr, none⟩) n c), fun v _ => v = (Value.int .i64 (i : Nat)), fun v _ => v = (Value.pointer (some ⟨gr, orr + i * 34, none⟩)), fun v _ => v = (Value.agg K.cells.toArray), fun v _ => v = (Value.bool false), fun v _ => v = (Value.bool false)] (none) (fun _ => none) 18 (by kernel_rfl) (by kernel_rfl) (by kernel_rfl) (by kernel_rfl) (by decide) noRow_one (fun _ => .inl rfl) ⟨fun i v u u' hki h hg => h, fun i v u u' hki h hg => h, fun i v u u' hki h hg => h, fun i v u u' hki h hg => h, fun i v u u' hki h hg => h, fun i v u u' hki h hg => h, fun i v u u' hki h hg => h, fun i v u u' hki h hg => h, fun i v u u' hki h hg => h, fun i v u u' hki h hg => h, fun i v u u' hki h hg => h, fun i v u u' hki h hg => h, fun i v u u' hki h hg => h, fun i v u u' hki h hg => h, fun i v u u' hki h hg => h, fun i v u u' hki h hg => h, fun i v u u' hki h hg => h, fun i v u u' hki h hg => h, trivial⟩ ⟨?_, ?_, ?_, ?_, ?_, ?_, ?_, ?_, ?_, ?_, ?_, ?_, ?_, ?_, ?_, ?_, ?_, ?_, trivial⟩ ?_
                  · intro A u hu hpu hsz hout hdeps
                    have e9 : A.eval (.tmp 9) = (.int .i64 (k : Nat)) := (hout 9 (by kernel_rfl)).trans rfl
                    refine ifw_none rfl ?_
                    with_reducible refine shown_q (Value.int .i64 (k : Nat)) ?qq_4_0 (fun _ _ => ?qr_4_0)
                    case qr_4_0 => exact (rfl : (Value.int .i64 (k : Nat)) = (Value.int .i64 (k : Nat)))
                    with_reducible refine quietAt_mv (.tmp 9) (Value.int .i64 (k : Nat)) ?h0_4_0 ?h1_4_0
                    case h0_4_0 => rfl
                    case h1_4_0 => exact e9
                  · intro A u hu hpu hsz hout hdeps
                    have e8 : A.eval (.tmp 8) = (.pointer (some ⟨b8, 0, none⟩)) := (hout 8 (by kernel_rfl)).trans rfl
                    refine ifw_none rfl ?_
                    with_reducible refine shown_q (Value.pointer (some ⟨b8, 0, none⟩)) ?qq_4_1 (fun _ _ => ?qr_4_1)
                    case qr_4_1 => exact (rfl : (Value.pointer (some ⟨b8, 0, none⟩)) = (Value.pointer (some ⟨b8, 0, none⟩)))
                    with_reducible refine quietAt_field 69 (.tmp 8) 0 ?h0_4_1 ⟨b8, 0, none⟩ ⟨b8, 0, none⟩ ?h1_4_1 ?h2_4_1
                    case h0_4_1 => rfl
                    case h1_4_1 => exact e8
                    case h2_4_1 => kernel_rfl
                  · intro A u hu hpu hsz hout hdeps
                    have e90 : A.eval (.tmp 90) = (.pointer (some ⟨b8, 0, none⟩)) := by have h := depL hdeps 1 (by kernel_rfl) 90 (by kernel_rfl); exact h
                    refine ifw_none rfl ?_
                    with_reducible refine shown_q (Value.slice (some ⟨gw, ow, none⟩) m cw) ?qq_4_2 (fun _ _ => ?qr_4_2)
                    case qr_4_2 => exact (rfl : (Value.slice (some ⟨gw, ow, none⟩) m cw) = (Value.slice (some ⟨gw, ow, none⟩) m cw))
                    with_reducible refine quietAt_ld 55 (.tmp 90) (Value.pointer (some ⟨b8, 0, none⟩)) (Value.slice (some ⟨gw, ow, none⟩) m cw) ?h0_4_2 ?h1_4_2 ?h2_4_2
                    case h0_4_2 => rfl
                    case h1_4_2 => exact e90
                    case h2_4_2 => exact ld55 b8 0 m cw _ u ((HB8e.out.keep hu).cell 0)
                  · intro A u hu hpu hsz hout hdeps
                    have e91 : A.eval (.tmp 91) = (.slice (some ⟨gw, ow, none⟩) m cw) := by have h := depL hdeps 2 (by kernel_rfl) 91 (by kernel_rfl); exact h
                    refine ifw_none rfl ?_
                    with_reducible refine shown_q (Value.int .i64 (m : Nat)) ?qq_4_3 (fun _ _ => ?qr_4_3)
                    case qr_4_3 => exact (rfl : (Value.int .i64 (m : Nat)) = (Value.int .i64 (m : Nat)))
                    with_reducible refine quietAt_len (.tmp 91) 55 ?h0_4_3 (some ⟨gw, ow, none⟩) m cw ?h1_4_3 ?h2_4_3
                    case h0_4_3 => rfl
                    case h1_4_3 => exact e91
                    case h2_4_3 => kernel_rfl
                  · intro A u hu hpu hsz hout hdeps
                    have e89 : A.eval (.tmp 89) = (.int .i64 (k : Nat)) := by have h := depL hdeps 0 (by kernel_rfl) 89 (by kernel_rfl); exact h
                    have e92 : A.eval (.tmp 92) = (.int .i64 (m : Nat)) := by have h := depL hdeps 3 (by kernel_rfl) 92 (by kernel_rfl); exact h
                    refine ifw_none rfl ?_
                    with_reducible refine shown_q (Value.bool false) ?qq_4_4 (fun _ _ => ?qr_4_4)
                    case qr_4_4 => exact (rfl : (Value.bool false) = (Value.bool false))
                    with_reducible refine quietAt_bin .geq 3 (.tmp 89) (.tmp 92) 3 (Value.int .i64 (k : Nat)) (Value.int .i64 (m : Nat)) (Value.bool false) ?h0_4_4 ?h1_4_4 ?h2_4_4 ?h3_4_4
                    case h0_4_4 => rfl
                    case h1_4_4 => exact e89
                    case h2_4_4 => exact e92
                    case h3_4_4 => exact HGe.out _ _ u
                  · intro A u hu hpu hsz hout hdeps
                    have e93 : A.eval (.tmp 93) = (.bool false) := by have h := depL hdeps 4 (by kernel_rfl) 93 (by kernel_rfl); exact h
                    refine ifw_none rfl ?_
                    with_reducible refine shown_q (Value.bool false) ?qq_4_5 (fun _ _ => ?qr_4_5)
                    case qr_4_5 => exact (rfl : (Value.bool false) = (Value.bool false))
                    with_reducible refine quietAt_mv (.tmp 93) (Value.bool false) ?h0_4_5 ?h1_4_5
                    case h0_4_5 => rfl
                    case h1_4_5 => exact e93
                  · intro A u hu hpu hsz hout hdeps
                    have e94 : A.eval (.tmp 94) = (.bool false) := by have h := depL hdeps 5 (by kernel_rfl) 94 (by kernel_rfl); exact h
                    have e8 : A.eval (.tmp 8) = (.pointer (some ⟨b8, 0, none⟩)) := (hout 8 (by kernel_rfl)).trans rfl
                    refine ifw_want 5 false 94 rfl rfl e94 ?_
                    with_reducible refine shown_q (Value.pointer (some ⟨b8, 0, none⟩)) ?qq_4_6 (fun _ _ => ?qr_4_6)
                    case qr_4_6 => exact (rfl : (Value.pointer (some ⟨b8, 0, none⟩)) = (Value.pointer (some ⟨b8, 0, none⟩)))
                    with_reducible refine quietAt_field 69 (.tmp 8) 0 ?h0_4_6 ⟨b8, 0, none⟩ ⟨b8, 0, none⟩ ?h1_4_6 ?h2_4_6
                    case h0_4_6 => rfl
                    case h1_4_6 => exact e8
                    case h2_4_6 => kernel_rfl
                  · intro A u hu hpu hsz hout hdeps
                    have e94 : A.eval (.tmp 94) = (.bool false) := by have h := depL hdeps 5 (by kernel_rfl) 94 (by kernel_rfl); exact h
                    have e95 : A.eval (.tmp 95) = (.pointer (some ⟨b8, 0, none⟩)) := by have h := depL hdeps 6 (by kernel_rfl) 95 (by kernel_rfl); exact h
                    refine ifw_want 5 false 94 rfl rfl e94 ?_
                    with_reducible refine shown_q (Value.slice (some ⟨gw, ow, none⟩) m cw) ?qq_4_7 (fun _ _ => ?qr_4_7)
                    case qr_4_7 => exact (rfl : (Value.slice (some ⟨gw, ow, none⟩) m cw) = (Value.slice (some ⟨gw, ow, none⟩) m cw))
                    with_reducible refine quietAt_ld 55 (.tmp 95) (Value.pointer (some ⟨b8, 0, none⟩)) (Value.slice (some ⟨gw, ow, none⟩) m cw) ?h0_4_7 ?h1_4_7 ?h2_4_7
                    case h0_4_7 => rfl
                    case h1_4_7 => exact e95
                    case h2_4_7 => exact ld55 b8 0 m cw _ u ((HB8e.out.keep hu).cell 0)
                  · intro A u hu hpu hsz hout hdeps
                    have e94 : A.eval (.tmp 94) = (.bool false) := by have h := depL hdeps 5 (by kernel_rfl) 94 (by kernel_rfl); exact h
                    have e9 : A.eval (.tmp 9) = (.int .i64 (k : Nat)) := (hout 9 (by kernel_rfl)).trans rfl
                    refine ifw_want 5 false 94 rfl rfl e94 ?_
                    with_reducible refine shown_q (Value.int .i64 (k : Nat)) ?qq_4_8 (fun _ _ => ?qr_4_8)
                    case qr_4_8 => exact (rfl : (Value.int .i64 (k : Nat)) = (Value.int .i64 (k : Nat)))
                    with_reducible refine quietAt_mv (.tmp 9) (Value.int .i64 (k : Nat)) ?h0_4_8 ?h1_4_8
                    case h0_4_8 => rfl
                    case h1_4_8 => exact e9
                  · intro A u hu hpu hsz hout hdeps
                    have e94 : A.eval (.tmp 94) = (.bool false) := by have h := depL hdeps 5 (by kernel_rfl) 94 (by kernel_rfl); exact h
                    have e96 : A.eval (.tmp 96) = (.slice (some ⟨gw, ow, none⟩) m cw) := by have h := depL hdeps 7 (by kernel_rfl) 96 (by kernel_rfl); exact h
                    have e97 : A.eval (.tmp 97) = (.int .i64 (k : Nat)) := by have h := depL hdeps 8 (by kernel_rfl) 97 (by kernel_rfl); exact h
                    refine ifw_want 5 false 94 rfl rfl e94 ?_
                    with_reducible refine shown_q (Value.pointer (some ⟨gw, ow + k * 34, none⟩)) ?qq_4_9 (fun _ _ => ?qr_4_9)
                    case qr_4_9 => exact (rfl : (Value.pointer (some ⟨gw, ow + k * 34, none⟩)) = (Value.pointer (some ⟨gw, ow + k * 34, none⟩)))
                    with_reducible refine quietAt_idx 55 (.tmp 96) (.tmp 97) (Value.slice (some ⟨gw, ow, none⟩) m cw) (Value.int .i64 (k : Nat)) (Value.pointer (some ⟨gw, ow + k * 34, none⟩)) ?h0_4_9 ?h1_4_9 ?h2_4_9 ?h3_4_9
                    case h0_4_9 => rfl
                    case h1_4_9 => exact e96
                    case h2_4_9 => exact e97
                    case h3_4_9 => exact idx55 gw ow m cw k HKm.out u
                  · intro A u hu hpu hsz hout hdeps
                    have e94 : A.eval (.tmp 94) = (.bool false) := by have h := depL hdeps 5 (by kernel_rfl) 94 (by kernel_rfl); exact h
                    have e98 : A.eval (.tmp 98) = (.pointer (some ⟨gw, ow + k * 34, none⟩)) := by have h := depL hdeps 9 (by kernel_rfl) 98 (by kernel_rfl); exact h
                    refine ifw_want 5 false 94 rfl rfl e94 ?_
                    with_reducible refine shown_q (Value.agg K.cells.toArray) ?qq_4_10 (fun _ _ => ?qr_4_10)
                    case qr_4_10 => exact (rfl : (Value.agg K.cells.toArray) = (Value.agg K.cells.toArray))
                    with_reducible refine quietAt_load 107 (.tmp 98) ?h0_4_10 gw (ow + k * 34) K.cells (.struct (Try.prog.fieldsOf 107)) ?h1_4_10 ?h2_4_10 ?h3_4_10 ?h4_4_10 ?h5_4_10
                    case h0_4_10 => rfl
                    case h1_4_10 => exact e98
                    case h2_4_10 => exact (HRw.out u hu)
                    case h3_4_10 => exact Try.under107
                    case h4_4_10 => rfl
                    case h5_4_10 => exact (by rw [HKL.out]; exact Try.size107)
                  · intro A u hu hpu hsz hout hdeps
                    have e94 : A.eval (.tmp 94) = (.bool false) := by have h := depL hdeps 5 (by kernel_rfl) 94 (by kernel_rfl); exact h
                    have e3 : A.eval (.tmp 3) = (.pointer (some ⟨b3, 0, none⟩)) := (hout 3 (by kernel_rfl)).trans rfl
                    refine ifw_want 5 false 94 rfl rfl e94 ?_
                    with_reducible refine shown_q (Value.pointer (some ⟨b3, 0, none⟩)) ?qq_4_11 (fun _ _ => ?qr_4_11)
                    case qr_4_11 => exact (rfl : (Value.pointer (some ⟨b3, 0, none⟩)) = (Value.pointer (some ⟨b3, 0, none⟩)))
                    with_reducible refine quietAt_field 69 (.tmp 3) 0 ?h0_4_11 ⟨b3, 0, none⟩ ⟨b3, 0, none⟩ ?h1_4_11 ?h2_4_11
                    case h0_4_11 => rfl
                    case h1_4_11 => exact e3
                    case h2_4_11 => kernel_rfl
                  · intro A u hu hpu hsz hout hdeps
                    have e94 : A.eval (.tmp 94) = (.bool false) := by have h := depL hdeps 5 (by kernel_rfl) 94 (by kernel_rfl); exact h
                    have e100 : A.eval (.tmp 100) = (.pointer (some ⟨b3, 0, none⟩)) := by have h := depL hdeps 11 (by kernel_rfl) 100 (by kernel_rfl); exact h
                    refine ifw_want 5 false 94 rfl rfl e94 ?_
                    with_reducible refine shown_q (Value.slice (some ⟨gr, orr, none⟩) n c) ?qq_4_12 (fun _ _ => ?qr_4_12)
                    case qr_4_12 => exact (rfl : (Value.slice (some ⟨gr, orr, none⟩) n c) = (Value.slice (some ⟨gr, orr, none⟩) n c))
                    with_reducible refine quietAt_ld 55 (.tmp 100) (Value.pointer (some ⟨b3, 0, none⟩)) (Value.slice (some ⟨gr, orr, none⟩) n c) ?h0_4_12 ?h1_4_12 ?h2_4_12
                    case h0_4_12 => rfl
                    case h1_4_12 => exact e100
                    case h2_4_12 => exact ld55 b3 0 n c _ u ((HB3e.out.keep hu).cell 0)
                  · intro A u hu hpu hsz hout hdeps
                    have e94 : A.eval (.tmp 94) = (.bool false) := by have h := depL hdeps 5 (by kernel_rfl) 94 (by kernel_rfl); exact h
                    have e10 : A.eval (.tmp 10) = (.int .i64 (i : Nat)) := (hout 10 (by kernel_rfl)).trans rfl
                    refine ifw_want 5 false 94 rfl rfl e94 ?_
                    with_reducible refine shown_q (Value.int .i64 (i : Nat)) ?qq_4_13 (fun _ _ => ?qr_4_13)
                    case qr_4_13 => exact (rfl : (Value.int .i64 (i : Nat)) = (Value.int .i64 (i : Nat)))
                    with_reducible refine quietAt_mv (.tmp 10) (Value.int .i64 (i : Nat)) ?h0_4_13 ?h1_4_13
                    case h0_4_13 => rfl
                    case h1_4_13 => exact e10
                  · intro A u hu hpu hsz hout hdeps
                    have e94 : A.eval (.tmp 94) = (.bool false) := by have h := depL hdeps 5 (by kernel_rfl) 94 (by kernel_rfl); exact h
                    have e101 : A.eval (.tmp 101) = (.slice (some ⟨gr, orr, none⟩) n c) := by have h := depL hdeps 12 (by kernel_rfl) 101 (by kernel_rfl); exact h
                    have e102 : A.eval (.tmp 102) = (.int .i64 (i : Nat)) := by have h := depL hdeps 13 (by kernel_rfl) 102 (by kernel_rfl); exact h
                    refine ifw_want 5 false 94 rfl rfl e94 ?_
                    with_reducible refine shown_q (Value.pointer (some ⟨gr, orr + i * 34, none⟩)) ?qq_4_14 (fun _ _ => ?qr_4_14)
                    case qr_4_14 => exact (rfl : (Value.pointer (some ⟨gr, orr + i * 34, none⟩)) = (Value.pointer (some ⟨gr, orr + i * 34, none⟩)))
                    with_reducible refine quietAt_idx 55 (.tmp 101) (.tmp 102) (Value.slice (some ⟨gr, orr, none⟩) n c) (Value.int .i64 (i : Nat)) (Value.pointer (some ⟨gr, orr + i * 34, none⟩)) ?h0_4_14 ?h1_4_14 ?h2_4_14 ?h3_4_14
                    case h0_4_14 => rfl
                    case h1_4_14 => exact e101
                    case h2_4_14 => exact e102
                    case h3_4_14 => exact idx55 gr orr n c i hi u
                  · intro A u hu hpu hsz hout hdeps
                    have e94 : A.eval (.tmp 94) = (.bool false) := by have h := depL hdeps 5 (by kernel_rfl) 94 (by kernel_rfl); exact h
                    have e103 : A.eval (.tmp 103) = (.pointer (some ⟨gr, orr + i * 34, none⟩)) := by have h := depL hdeps 14 (by kernel_rfl) 103 (by kernel_rfl); exact h
                    refine ifw_want 5 false 94 rfl rfl e94 ?_
                    with_reducible refine shown_q (Value.agg K.cells.toArray) ?qq_4_15 (fun _ _ => ?qr_4_15)
                    case qr_4_15 => exact (rfl : (Value.agg K.cells.toArray) = (Value.agg K.cells.toArray))
                    with_reducible refine quietAt_load 107 (.tmp 103) ?h0_4_15 gr (orr + i * 34) K.cells (.struct (Try.prog.fieldsOf 107)) ?h1_4_15 ?h2_4_15 ?h3_4_15 ?h4_4_15 ?h5_4_15
                    case h0_4_15 => rfl
                    case h1_4_15 => exact e103
                    case h2_4_15 => exact (HRr.out u hu)
                    case h3_4_15 => exact Try.under107
                    case h4_4_15 => rfl
                    case h5_4_15 => exact (by rw [HKL.out]; exact Try.size107)
                  · intro A u hu hpu hsz hout hdeps
                    have e94 : A.eval (.tmp 94) = (.bool false) := by have h := depL hdeps 5 (by kernel_rfl) 94 (by kernel_rfl); exact h
                    have e99 : A.eval (.tmp 99) = (.agg K.cells.toArray) := by have h := depL hdeps 10 (by kernel_rfl) 99 (by kernel_rfl); exact h
                    have e104 : A.eval (.tmp 104) = (.agg K.cells.toArray) := by have h := depL hdeps 15 (by kernel_rfl) 104 (by kernel_rfl); exact h
                    refine ifw_want 5 false 94 rfl rfl e94 ?_
                    with_reducible refine shown_q (Value.bool false) ?qq_4_16 (fun _ _ => ?qr_4_16)
                    case qr_4_16 => exact (rfl : (Value.bool false) = (Value.bool false))
                    with_reducible refine quietAt_bin .neq 107 (.tmp 99) (.tmp 104) 107 (Value.agg K.cells.toArray) (Value.agg K.cells.toArray) (Value.bool false) ?h0_4_16 ?h1_4_16 ?h2_4_16 ?h3_4_16
                    case h0_4_16 => rfl
                    case h1_4_16 => exact e99
                    case h2_4_16 => exact e104
                    case h3_4_16 => exact HNe.out _ _ u
                  · intro A u hu hpu hsz hout hdeps
                    have e94 : A.eval (.tmp 94) = (.bool false) := by have h := depL hdeps 5 (by kernel_rfl) 94 (by kernel_rfl); exact h
                    have e105 : A.eval (.tmp 105) = (.bool false) := by have h := depL hdeps 16 (by kernel_rfl) 105 (by kernel_rfl); exact h
                    refine ifw_none rfl ?_
                    with_reducible refine shown_q (Value.bool false) ?qq_4_17 (fun _ _ => ?qr_4_17)
                    case qr_4_17 => exact (rfl : (Value.bool false) = (Value.bool false))
                    with_reducible refine quietAt_pick (.tmp 94) (.const (.bool true)) (.tmp 105) false (Value.bool false) ?h0_4_17 ?h1_4_17 ?h2_4_17
                    case h0_4_17 => rfl
                    case h1_4_17 => exact e94
                    case h2_4_17 => rw [if_neg (by decide)]; exact e105
                  · intro A u17 listed hh hall
                    have hA := hh.frame
                    have HU := hid hh.grown
                    obtain ⟨x89, hx89⟩ : ∃ x, A.eval (.tmp 89) = x := ⟨_, rfl⟩
                    have f89 : (fun v _ => v = (Value.int .i64 (k : Nat))) x89 u17 := by rw [← hx89]; exact hh.got 0 _ 89 rfl rfl (hall 0 (by decide))
                    obtain ⟨x90, hx90⟩ : ∃ x, A.eval (.tmp 90) = x := ⟨_, rfl⟩
                    have f90 : (fun v _ => v = (Value.pointer (some ⟨b8, 0, none⟩))) x90 u17 := by rw [← hx90]; exact hh.got 1 _ 90 rfl rfl (hall 1 (by decide))
                    obtain ⟨x91, hx91⟩ : ∃ x, A.eval (.tmp 91) = x := ⟨_, rfl⟩
                    have f91 : (fun v _ => v = (Value.slice (some ⟨gw, ow, none⟩) m cw)) x91 u17 := by rw [← hx91]; exact hh.got 2 _ 91 rfl rfl (hall 2 (by decide))
                    obtain ⟨x92, hx92⟩ : ∃ x, A.eval (.tmp 92) = x := ⟨_, rfl⟩
                    have f92 : (fun v _ => v = (Value.int .i64 (m : Nat))) x92 u17 := by rw [← hx92]; exact hh.got 3 _ 92 rfl rfl (hall 3 (by decide))
                    obtain ⟨x93, hx93⟩ : ∃ x, A.eval (.tmp 93) = x := ⟨_, rfl⟩
                    have f93 : (fun v _ => v = (Value.bool false)) x93 u17 := by rw [← hx93]; exact hh.got 4 _ 93 rfl rfl (hall 4 (by decide))
                    obtain ⟨x94, hx94⟩ : ∃ x, A.eval (.tmp 94) = x := ⟨_, rfl⟩
                    have f94 : (fun v _ => v = (Value.bool false)) x94 u17 := by rw [← hx94]; exact hh.got 5 _ 94 rfl rfl (hall 5 (by decide))
                    obtain ⟨x95, hx95⟩ : ∃ x, A.eval (.tmp 95) = x := ⟨_, rfl⟩
                    have f95 : (fun v _ => v = (Value.pointer (some ⟨b8, 0, none⟩))) x95 u17 := by rw [← hx95]; exact hh.got 6 _ 95 rfl rfl (hall 6 (by decide))
                    obtain ⟨x96, hx96⟩ : ∃ x, A.eval (.tmp 96) = x := ⟨_, rfl⟩
                    have f96 : (fun v _ => v = (Value.slice (some ⟨gw, ow, none⟩) m cw)) x96 u17 := by rw [← hx96]; exact hh.got 7 _ 96 rfl rfl (hall 7 (by decide))
                    obtain ⟨x97, hx97⟩ : ∃ x, A.eval (.tmp 97) = x := ⟨_, rfl⟩
                    have f97 : (fun v _ => v = (Value.int .i64 (k : Nat))) x97 u17 := by rw [← hx97]; exact hh.got 8 _ 97 rfl rfl (hall 8 (by decide))
                    obtain ⟨x98, hx98⟩ : ∃ x, A.eval (.tmp 98) = x := ⟨_, rfl⟩
                    have f98 : (fun v _ => v = (Value.pointer (some ⟨gw, ow + k * 34, none⟩))) x98 u17 := by rw [← hx98]; exact hh.got 9 _ 98 rfl rfl (hall 9 (by decide))
                    obtain ⟨x99, hx99⟩ : ∃ x, A.eval (.tmp 99) = x := ⟨_, rfl⟩
                    have f99 : (fun v _ => v = (Value.agg K.cells.toArray)) x99 u17 := by rw [← hx99]; exact hh.got 10 _ 99 rfl rfl (hall 10 (by decide))
                    obtain ⟨x100, hx100⟩ : ∃ x, A.eval (.tmp 100) = x := ⟨_, rfl⟩
                    have f100 : (fun v _ => v = (Value.pointer (some ⟨b3, 0, none⟩))) x100 u17 := by rw [← hx100]; exact hh.got 11 _ 100 rfl rfl (hall 11 (by decide))
                    obtain ⟨x101, hx101⟩ : ∃ x, A.eval (.tmp 101) = x := ⟨_, rfl⟩
                    have f101 : (fun v _ => v = (Value.slice (some ⟨gr, orr, none⟩) n c)) x101 u17 := by rw [← hx101]; exact hh.got 12 _ 101 rfl rfl (hall 12 (by decide))
                    obtain ⟨x102, hx102⟩ : ∃ x, A.eval (.tmp 102) = x := ⟨_, rfl⟩
                    have f102 : (fun v _ => v = (Value.int .i64 (i : Nat))) x102 u17 := by rw [← hx102]; exact hh.got 13 _ 102 rfl rfl (hall 13 (by decide))
                    obtain ⟨x103, hx103⟩ : ∃ x, A.eval (.tmp 103) = x := ⟨_, rfl⟩
                    have f103 : (fun v _ => v = (Value.pointer (some ⟨gr, orr + i * 34, none⟩))) x103 u17 := by rw [← hx103]; exact hh.got 14 _ 103 rfl rfl (hall 14 (by decide))
                    obtain ⟨x104, hx104⟩ : ∃ x, A.eval (.tmp 104) = x := ⟨_, rfl⟩
                    have f104 : (fun v _ => v = (Value.agg K.cells.toArray)) x104 u17 := by rw [← hx104]; exact hh.got 15 _ 104 rfl rfl (hall 15 (by decide))
                    obtain ⟨x105, hx105⟩ : ∃ x, A.eval (.tmp 105) = x := ⟨_, rfl⟩
                    have f105 : (fun v _ => v = (Value.bool false)) x105 u17 := by rw [← hx105]; exact hh.got 16 _ 105 rfl rfl (hall 16 (by decide))
                    obtain ⟨x106, hx106⟩ : ∃ x, A.eval (.tmp 106) = x := ⟨_, rfl⟩
                    have f106 : (fun v _ => v = (Value.bool false)) x106 u17 := by rw [← hx106]; exact hh.got 17 _ 106 rfl rfl (hall 17 (by decide))
                    dsimp only [wrote, List.foldl] at hA
                    rw [hx89, hx90, hx91, hx92, hx93, hx94, hx95, hx96, hx97, hx98, hx99, hx100, hx101, hx102, hx103, hx104, hx105, hx106] at hA
                    clear hh hall hx89 hx90 hx91 hx92 hx93 hx94 hx95 hx96 hx97 hx98 hx99 hx100 hx101 hx102 hx103 hx104 hx105 hx106
                    replace f89 := (f89 : x89 = (.int .i64 (k : Nat)))
                    subst f89
                    replace f90 := (f90 : x90 = (.pointer (some ⟨b8, 0, none⟩)))
                    subst f90
                    replace f91 := (f91 : x91 = (.slice (some ⟨gw, ow, none⟩) m cw))
                    subst f91
                    replace f92 := (f92 : x92 = (.int .i64 (m : Nat)))
                    subst f92
                    replace f93 := (f93 : x93 = (.bool false))
                    subst f93
                    replace f94 := (f94 : x94 = (.bool false))
                    subst f94
                    replace f95 := (f95 : x95 = (.pointer (some ⟨b8, 0, none⟩)))
                    subst f95
                    replace f96 := (f96 : x96 = (.slice (some ⟨gw, ow, none⟩) m cw))
                    subst f96
                    replace f97 := (f97 : x97 = (.int .i64 (k : Nat)))
                    subst f97
                    replace f98 := (f98 : x98 = (.pointer (some ⟨gw, ow + k * 34, none⟩)))
                    subst f98
                    replace f99 := (f99 : x99 = (.agg K.cells.toArray))
                    subst f99
                    replace f100 := (f100 : x100 = (.pointer (some ⟨b3, 0, none⟩)))
                    subst f100
                    replace f101 := (f101 : x101 = (.slice (some ⟨gr, orr, none⟩) n c))
                    subst f101
                    replace f102 := (f102 : x102 = (.int .i64 (i : Nat)))
                    subst f102
                    replace f103 := (f103 : x103 = (.pointer (some ⟨gr, orr + i * 34, none⟩)))
                    subst f103
                    replace f104 := (f104 : x104 = (.agg K.cells.toArray))
                    subst f104
                    replace f105 := (f105 : x105 = (.bool false))
                    subst f105
                    replace f106 := (f106 : x106 = (.bool false))
                    subst f106
                    subst hA
                    show wpList _ _ _ [] _ _
                    unfold wpList
                    simp only [Act.put, List.setIfInBounds_toArray, List.set_cons_succ, List.set_cons_zero]
                    have HGn := hid (gtrans HG.out HU.out)
                    go_wp2_with fail
                    go_roundw
                    case rel => exact ⟨i + 1, by go_num, by rw [HSn.out]; go_num, by omega, HGn⟩
                    case measure => simp [intOf]; omega
                · have h0' : (til == 0) = false := beq_eq_false_iff_ne.2 h0
                  have h1 : Bt < til := by omega
                  clear hg h0
                  go_wp2_with fail
                  refine wp_region_list (by kernel_rfl) [fun v _ => v = (Value.int .i64 (k : Nat)), fun v _ => v = (Value.pointer (some ⟨b8, 0, none⟩)), fun v _ => v = (Value.slice (some ⟨gw, ow, none⟩) m cw), fun v _ => v = (Value.int .i64 (m : Nat)), fun v _ => v = (Value.bool false), fun v _ => v = (Value.bool false), fun v _ => v = (Value.pointer (some ⟨b8, 0, none⟩)), fun v _ => v = (Value.slice (some ⟨gw, ow, none⟩) m cw), fun v _ => v = (Value.int .i64 (k : Nat)), fun v _ => v = (Value.pointer (some ⟨gw, ow + k * 34, none⟩)), fun v _ => v = (Value.agg K.cells.toArray), fun v _ => v = (Value.pointer (some ⟨b3, 0, none⟩)), fun v _ => v = (Value.slice (some ⟨gr, orr, none⟩) n c), fun v _ => v = (Value.int .i64 (i : Nat)), fun v _ => v = (Value.pointer (some ⟨gr, orr + i * 34, none⟩)), fun v _ => v = (Value.agg K.cells.toArray), fun v _ => v = (Value.bool false), fun v _ => v = (Value.bool false)] (none) (fun _ => none) 18 (by kernel_rfl) (by kernel_rfl) (by kernel_rfl) (by kernel_rfl) (by decide) noRow_one (fun _ => .inl rfl) ⟨fun i v u u' hki h hg => h, fun i v u u' hki h hg => h, fun i v u u' hki h hg => h, fun i v u u' hki h hg => h, fun i v u u' hki h hg => h, fun i v u u' hki h hg => h, fun i v u u' hki h hg => h, fun i v u u' hki h hg => h, fun i v u u' hki h hg => h, fun i v u u' hki h hg => h, fun i v u u' hki h hg => h, fun i v u u' hki h hg => h, fun i v u u' hki h hg => h, fun i v u u' hki h hg => h, fun i v u u' hki h hg => h, fun i v u u' hki h hg => h, fun i v u u' hki h hg => h, fun i v u u' hki h hg => h, trivial⟩ ⟨?_, ?_, ?_, ?_, ?_, ?_, ?_, ?_, ?_, ?_, ?_, ?_, ?_, ?_, ?_, ?_, ?_, ?_, trivial⟩ ?_
                  · intro A u hu hpu hsz hout hdeps
                    have e9 : A.eval (.tmp 9) = (.int .i64 (k : Nat)) := (hout 9 (by kernel_rfl)).trans rfl
                    refine ifw_none rfl ?_
                    with_reducible refine shown_q (Value.int .i64 (k : Nat)) ?qq_4b_0 (fun _ _ => ?qr_4b_0)
                    case qr_4b_0 => exact (rfl : (Value.int .i64 (k : Nat)) = (Value.int .i64 (k : Nat)))
                    with_reducible refine quietAt_mv (.tmp 9) (Value.int .i64 (k : Nat)) ?h0_4b_0 ?h1_4b_0
                    case h0_4b_0 => rfl
                    case h1_4b_0 => exact e9
                  · intro A u hu hpu hsz hout hdeps
                    have e8 : A.eval (.tmp 8) = (.pointer (some ⟨b8, 0, none⟩)) := (hout 8 (by kernel_rfl)).trans rfl
                    refine ifw_none rfl ?_
                    with_reducible refine shown_q (Value.pointer (some ⟨b8, 0, none⟩)) ?qq_4b_1 (fun _ _ => ?qr_4b_1)
                    case qr_4b_1 => exact (rfl : (Value.pointer (some ⟨b8, 0, none⟩)) = (Value.pointer (some ⟨b8, 0, none⟩)))
                    with_reducible refine quietAt_field 69 (.tmp 8) 0 ?h0_4b_1 ⟨b8, 0, none⟩ ⟨b8, 0, none⟩ ?h1_4b_1 ?h2_4b_1
                    case h0_4b_1 => rfl
                    case h1_4b_1 => exact e8
                    case h2_4b_1 => kernel_rfl
                  · intro A u hu hpu hsz hout hdeps
                    have e90 : A.eval (.tmp 90) = (.pointer (some ⟨b8, 0, none⟩)) := by have h := depL hdeps 1 (by kernel_rfl) 90 (by kernel_rfl); exact h
                    refine ifw_none rfl ?_
                    with_reducible refine shown_q (Value.slice (some ⟨gw, ow, none⟩) m cw) ?qq_4b_2 (fun _ _ => ?qr_4b_2)
                    case qr_4b_2 => exact (rfl : (Value.slice (some ⟨gw, ow, none⟩) m cw) = (Value.slice (some ⟨gw, ow, none⟩) m cw))
                    with_reducible refine quietAt_ld 55 (.tmp 90) (Value.pointer (some ⟨b8, 0, none⟩)) (Value.slice (some ⟨gw, ow, none⟩) m cw) ?h0_4b_2 ?h1_4b_2 ?h2_4b_2
                    case h0_4b_2 => rfl
                    case h1_4b_2 => exact e90
                    case h2_4b_2 => exact ld55 b8 0 m cw _ u ((HB8e.out.keep hu).cell 0)
                  · intro A u hu hpu hsz hout hdeps
                    have e91 : A.eval (.tmp 91) = (.slice (some ⟨gw, ow, none⟩) m cw) := by have h := depL hdeps 2 (by kernel_rfl) 91 (by kernel_rfl); exact h
                    refine ifw_none rfl ?_
                    with_reducible refine shown_q (Value.int .i64 (m : Nat)) ?qq_4b_3 (fun _ _ => ?qr_4b_3)
                    case qr_4b_3 => exact (rfl : (Value.int .i64 (m : Nat)) = (Value.int .i64 (m : Nat)))
                    with_reducible refine quietAt_len (.tmp 91) 55 ?h0_4b_3 (some ⟨gw, ow, none⟩) m cw ?h1_4b_3 ?h2_4b_3
                    case h0_4b_3 => rfl
                    case h1_4b_3 => exact e91
                    case h2_4b_3 => kernel_rfl
                  · intro A u hu hpu hsz hout hdeps
                    have e89 : A.eval (.tmp 89) = (.int .i64 (k : Nat)) := by have h := depL hdeps 0 (by kernel_rfl) 89 (by kernel_rfl); exact h
                    have e92 : A.eval (.tmp 92) = (.int .i64 (m : Nat)) := by have h := depL hdeps 3 (by kernel_rfl) 92 (by kernel_rfl); exact h
                    refine ifw_none rfl ?_
                    with_reducible refine shown_q (Value.bool false) ?qq_4b_4 (fun _ _ => ?qr_4b_4)
                    case qr_4b_4 => exact (rfl : (Value.bool false) = (Value.bool false))
                    with_reducible refine quietAt_bin .geq 3 (.tmp 89) (.tmp 92) 3 (Value.int .i64 (k : Nat)) (Value.int .i64 (m : Nat)) (Value.bool false) ?h0_4b_4 ?h1_4b_4 ?h2_4b_4 ?h3_4b_4
                    case h0_4b_4 => rfl
                    case h1_4b_4 => exact e89
                    case h2_4b_4 => exact e92
                    case h3_4b_4 => exact HGe.out _ _ u
                  · intro A u hu hpu hsz hout hdeps
                    have e93 : A.eval (.tmp 93) = (.bool false) := by have h := depL hdeps 4 (by kernel_rfl) 93 (by kernel_rfl); exact h
                    refine ifw_none rfl ?_
                    with_reducible refine shown_q (Value.bool false) ?qq_4b_5 (fun _ _ => ?qr_4b_5)
                    case qr_4b_5 => exact (rfl : (Value.bool false) = (Value.bool false))
                    with_reducible refine quietAt_mv (.tmp 93) (Value.bool false) ?h0_4b_5 ?h1_4b_5
                    case h0_4b_5 => rfl
                    case h1_4b_5 => exact e93
                  · intro A u hu hpu hsz hout hdeps
                    have e94 : A.eval (.tmp 94) = (.bool false) := by have h := depL hdeps 5 (by kernel_rfl) 94 (by kernel_rfl); exact h
                    have e8 : A.eval (.tmp 8) = (.pointer (some ⟨b8, 0, none⟩)) := (hout 8 (by kernel_rfl)).trans rfl
                    refine ifw_want 5 false 94 rfl rfl e94 ?_
                    with_reducible refine shown_q (Value.pointer (some ⟨b8, 0, none⟩)) ?qq_4b_6 (fun _ _ => ?qr_4b_6)
                    case qr_4b_6 => exact (rfl : (Value.pointer (some ⟨b8, 0, none⟩)) = (Value.pointer (some ⟨b8, 0, none⟩)))
                    with_reducible refine quietAt_field 69 (.tmp 8) 0 ?h0_4b_6 ⟨b8, 0, none⟩ ⟨b8, 0, none⟩ ?h1_4b_6 ?h2_4b_6
                    case h0_4b_6 => rfl
                    case h1_4b_6 => exact e8
                    case h2_4b_6 => kernel_rfl
                  · intro A u hu hpu hsz hout hdeps
                    have e94 : A.eval (.tmp 94) = (.bool false) := by have h := depL hdeps 5 (by kernel_rfl) 94 (by kernel_rfl); exact h
                    have e95 : A.eval (.tmp 95) = (.pointer (some ⟨b8, 0, none⟩)) := by have h := depL hdeps 6 (by kernel_rfl) 95 (by kernel_rfl); exact h
                    refine ifw_want 5 false 94 rfl rfl e94 ?_
                    with_reducible refine shown_q (Value.slice (some ⟨gw, ow, none⟩) m cw) ?qq_4b_7 (fun _ _ => ?qr_4b_7)
                    case qr_4b_7 => exact (rfl : (Value.slice (some ⟨gw, ow, none⟩) m cw) = (Value.slice (some ⟨gw, ow, none⟩) m cw))
                    with_reducible refine quietAt_ld 55 (.tmp 95) (Value.pointer (some ⟨b8, 0, none⟩)) (Value.slice (some ⟨gw, ow, none⟩) m cw) ?h0_4b_7 ?h1_4b_7 ?h2_4b_7
                    case h0_4b_7 => rfl
                    case h1_4b_7 => exact e95
                    case h2_4b_7 => exact ld55 b8 0 m cw _ u ((HB8e.out.keep hu).cell 0)
                  · intro A u hu hpu hsz hout hdeps
                    have e94 : A.eval (.tmp 94) = (.bool false) := by have h := depL hdeps 5 (by kernel_rfl) 94 (by kernel_rfl); exact h
                    have e9 : A.eval (.tmp 9) = (.int .i64 (k : Nat)) := (hout 9 (by kernel_rfl)).trans rfl
                    refine ifw_want 5 false 94 rfl rfl e94 ?_
                    with_reducible refine shown_q (Value.int .i64 (k : Nat)) ?qq_4b_8 (fun _ _ => ?qr_4b_8)
                    case qr_4b_8 => exact (rfl : (Value.int .i64 (k : Nat)) = (Value.int .i64 (k : Nat)))
                    with_reducible refine quietAt_mv (.tmp 9) (Value.int .i64 (k : Nat)) ?h0_4b_8 ?h1_4b_8
                    case h0_4b_8 => rfl
                    case h1_4b_8 => exact e9
                  · intro A u hu hpu hsz hout hdeps
                    have e94 : A.eval (.tmp 94) = (.bool false) := by have h := depL hdeps 5 (by kernel_rfl) 94 (by kernel_rfl); exact h
                    have e96 : A.eval (.tmp 96) = (.slice (some ⟨gw, ow, none⟩) m cw) := by have h := depL hdeps 7 (by kernel_rfl) 96 (by kernel_rfl); exact h
                    have e97 : A.eval (.tmp 97) = (.int .i64 (k : Nat)) := by have h := depL hdeps 8 (by kernel_rfl) 97 (by kernel_rfl); exact h
                    refine ifw_want 5 false 94 rfl rfl e94 ?_
                    with_reducible refine shown_q (Value.pointer (some ⟨gw, ow + k * 34, none⟩)) ?qq_4b_9 (fun _ _ => ?qr_4b_9)
                    case qr_4b_9 => exact (rfl : (Value.pointer (some ⟨gw, ow + k * 34, none⟩)) = (Value.pointer (some ⟨gw, ow + k * 34, none⟩)))
                    with_reducible refine quietAt_idx 55 (.tmp 96) (.tmp 97) (Value.slice (some ⟨gw, ow, none⟩) m cw) (Value.int .i64 (k : Nat)) (Value.pointer (some ⟨gw, ow + k * 34, none⟩)) ?h0_4b_9 ?h1_4b_9 ?h2_4b_9 ?h3_4b_9
                    case h0_4b_9 => rfl
                    case h1_4b_9 => exact e96
                    case h2_4b_9 => exact e97
                    case h3_4b_9 => exact idx55 gw ow m cw k HKm.out u
                  · intro A u hu hpu hsz hout hdeps
                    have e94 : A.eval (.tmp 94) = (.bool false) := by have h := depL hdeps 5 (by kernel_rfl) 94 (by kernel_rfl); exact h
                    have e98 : A.eval (.tmp 98) = (.pointer (some ⟨gw, ow + k * 34, none⟩)) := by have h := depL hdeps 9 (by kernel_rfl) 98 (by kernel_rfl); exact h
                    refine ifw_want 5 false 94 rfl rfl e94 ?_
                    with_reducible refine shown_q (Value.agg K.cells.toArray) ?qq_4b_10 (fun _ _ => ?qr_4b_10)
                    case qr_4b_10 => exact (rfl : (Value.agg K.cells.toArray) = (Value.agg K.cells.toArray))
                    with_reducible refine quietAt_load 107 (.tmp 98) ?h0_4b_10 gw (ow + k * 34) K.cells (.struct (Try.prog.fieldsOf 107)) ?h1_4b_10 ?h2_4b_10 ?h3_4b_10 ?h4_4b_10 ?h5_4b_10
                    case h0_4b_10 => rfl
                    case h1_4b_10 => exact e98
                    case h2_4b_10 => exact (HRw.out u hu)
                    case h3_4b_10 => exact Try.under107
                    case h4_4b_10 => rfl
                    case h5_4b_10 => exact (by rw [HKL.out]; exact Try.size107)
                  · intro A u hu hpu hsz hout hdeps
                    have e94 : A.eval (.tmp 94) = (.bool false) := by have h := depL hdeps 5 (by kernel_rfl) 94 (by kernel_rfl); exact h
                    have e3 : A.eval (.tmp 3) = (.pointer (some ⟨b3, 0, none⟩)) := (hout 3 (by kernel_rfl)).trans rfl
                    refine ifw_want 5 false 94 rfl rfl e94 ?_
                    with_reducible refine shown_q (Value.pointer (some ⟨b3, 0, none⟩)) ?qq_4b_11 (fun _ _ => ?qr_4b_11)
                    case qr_4b_11 => exact (rfl : (Value.pointer (some ⟨b3, 0, none⟩)) = (Value.pointer (some ⟨b3, 0, none⟩)))
                    with_reducible refine quietAt_field 69 (.tmp 3) 0 ?h0_4b_11 ⟨b3, 0, none⟩ ⟨b3, 0, none⟩ ?h1_4b_11 ?h2_4b_11
                    case h0_4b_11 => rfl
                    case h1_4b_11 => exact e3
                    case h2_4b_11 => kernel_rfl
                  · intro A u hu hpu hsz hout hdeps
                    have e94 : A.eval (.tmp 94) = (.bool false) := by have h := depL hdeps 5 (by kernel_rfl) 94 (by kernel_rfl); exact h
                    have e100 : A.eval (.tmp 100) = (.pointer (some ⟨b3, 0, none⟩)) := by have h := depL hdeps 11 (by kernel_rfl) 100 (by kernel_rfl); exact h
                    refine ifw_want 5 false 94 rfl rfl e94 ?_
                    with_reducible refine shown_q (Value.slice (some ⟨gr, orr, none⟩) n c) ?qq_4b_12 (fun _ _ => ?qr_4b_12)
                    case qr_4b_12 => exact (rfl : (Value.slice (some ⟨gr, orr, none⟩) n c) = (Value.slice (some ⟨gr, orr, none⟩) n c))
                    with_reducible refine quietAt_ld 55 (.tmp 100) (Value.pointer (some ⟨b3, 0, none⟩)) (Value.slice (some ⟨gr, orr, none⟩) n c) ?h0_4b_12 ?h1_4b_12 ?h2_4b_12
                    case h0_4b_12 => rfl
                    case h1_4b_12 => exact e100
                    case h2_4b_12 => exact ld55 b3 0 n c _ u ((HB3e.out.keep hu).cell 0)
                  · intro A u hu hpu hsz hout hdeps
                    have e94 : A.eval (.tmp 94) = (.bool false) := by have h := depL hdeps 5 (by kernel_rfl) 94 (by kernel_rfl); exact h
                    have e10 : A.eval (.tmp 10) = (.int .i64 (i : Nat)) := (hout 10 (by kernel_rfl)).trans rfl
                    refine ifw_want 5 false 94 rfl rfl e94 ?_
                    with_reducible refine shown_q (Value.int .i64 (i : Nat)) ?qq_4b_13 (fun _ _ => ?qr_4b_13)
                    case qr_4b_13 => exact (rfl : (Value.int .i64 (i : Nat)) = (Value.int .i64 (i : Nat)))
                    with_reducible refine quietAt_mv (.tmp 10) (Value.int .i64 (i : Nat)) ?h0_4b_13 ?h1_4b_13
                    case h0_4b_13 => rfl
                    case h1_4b_13 => exact e10
                  · intro A u hu hpu hsz hout hdeps
                    have e94 : A.eval (.tmp 94) = (.bool false) := by have h := depL hdeps 5 (by kernel_rfl) 94 (by kernel_rfl); exact h
                    have e101 : A.eval (.tmp 101) = (.slice (some ⟨gr, orr, none⟩) n c) := by have h := depL hdeps 12 (by kernel_rfl) 101 (by kernel_rfl); exact h
                    have e102 : A.eval (.tmp 102) = (.int .i64 (i : Nat)) := by have h := depL hdeps 13 (by kernel_rfl) 102 (by kernel_rfl); exact h
                    refine ifw_want 5 false 94 rfl rfl e94 ?_
                    with_reducible refine shown_q (Value.pointer (some ⟨gr, orr + i * 34, none⟩)) ?qq_4b_14 (fun _ _ => ?qr_4b_14)
                    case qr_4b_14 => exact (rfl : (Value.pointer (some ⟨gr, orr + i * 34, none⟩)) = (Value.pointer (some ⟨gr, orr + i * 34, none⟩)))
                    with_reducible refine quietAt_idx 55 (.tmp 101) (.tmp 102) (Value.slice (some ⟨gr, orr, none⟩) n c) (Value.int .i64 (i : Nat)) (Value.pointer (some ⟨gr, orr + i * 34, none⟩)) ?h0_4b_14 ?h1_4b_14 ?h2_4b_14 ?h3_4b_14
                    case h0_4b_14 => rfl
                    case h1_4b_14 => exact e101
                    case h2_4b_14 => exact e102
                    case h3_4b_14 => exact idx55 gr orr n c i hi u
                  · intro A u hu hpu hsz hout hdeps
                    have e94 : A.eval (.tmp 94) = (.bool false) := by have h := depL hdeps 5 (by kernel_rfl) 94 (by kernel_rfl); exact h
                    have e103 : A.eval (.tmp 103) = (.pointer (some ⟨gr, orr + i * 34, none⟩)) := by have h := depL hdeps 14 (by kernel_rfl) 103 (by kernel_rfl); exact h
                    refine ifw_want 5 false 94 rfl rfl e94 ?_
                    with_reducible refine shown_q (Value.agg K.cells.toArray) ?qq_4b_15 (fun _ _ => ?qr_4b_15)
                    case qr_4b_15 => exact (rfl : (Value.agg K.cells.toArray) = (Value.agg K.cells.toArray))
                    with_reducible refine quietAt_load 107 (.tmp 103) ?h0_4b_15 gr (orr + i * 34) K.cells (.struct (Try.prog.fieldsOf 107)) ?h1_4b_15 ?h2_4b_15 ?h3_4b_15 ?h4_4b_15 ?h5_4b_15
                    case h0_4b_15 => rfl
                    case h1_4b_15 => exact e103
                    case h2_4b_15 => exact (HRr.out u hu)
                    case h3_4b_15 => exact Try.under107
                    case h4_4b_15 => rfl
                    case h5_4b_15 => exact (by rw [HKL.out]; exact Try.size107)
                  · intro A u hu hpu hsz hout hdeps
                    have e94 : A.eval (.tmp 94) = (.bool false) := by have h := depL hdeps 5 (by kernel_rfl) 94 (by kernel_rfl); exact h
                    have e99 : A.eval (.tmp 99) = (.agg K.cells.toArray) := by have h := depL hdeps 10 (by kernel_rfl) 99 (by kernel_rfl); exact h
                    have e104 : A.eval (.tmp 104) = (.agg K.cells.toArray) := by have h := depL hdeps 15 (by kernel_rfl) 104 (by kernel_rfl); exact h
                    refine ifw_want 5 false 94 rfl rfl e94 ?_
                    with_reducible refine shown_q (Value.bool false) ?qq_4b_16 (fun _ _ => ?qr_4b_16)
                    case qr_4b_16 => exact (rfl : (Value.bool false) = (Value.bool false))
                    with_reducible refine quietAt_bin .neq 107 (.tmp 99) (.tmp 104) 107 (Value.agg K.cells.toArray) (Value.agg K.cells.toArray) (Value.bool false) ?h0_4b_16 ?h1_4b_16 ?h2_4b_16 ?h3_4b_16
                    case h0_4b_16 => rfl
                    case h1_4b_16 => exact e99
                    case h2_4b_16 => exact e104
                    case h3_4b_16 => exact HNe.out _ _ u
                  · intro A u hu hpu hsz hout hdeps
                    have e94 : A.eval (.tmp 94) = (.bool false) := by have h := depL hdeps 5 (by kernel_rfl) 94 (by kernel_rfl); exact h
                    have e105 : A.eval (.tmp 105) = (.bool false) := by have h := depL hdeps 16 (by kernel_rfl) 105 (by kernel_rfl); exact h
                    refine ifw_none rfl ?_
                    with_reducible refine shown_q (Value.bool false) ?qq_4b_17 (fun _ _ => ?qr_4b_17)
                    case qr_4b_17 => exact (rfl : (Value.bool false) = (Value.bool false))
                    with_reducible refine quietAt_pick (.tmp 94) (.const (.bool true)) (.tmp 105) false (Value.bool false) ?h0_4b_17 ?h1_4b_17 ?h2_4b_17
                    case h0_4b_17 => rfl
                    case h1_4b_17 => exact e94
                    case h2_4b_17 => rw [if_neg (by decide)]; exact e105
                  · intro A u17 listed hh hall
                    have hA := hh.frame
                    have HU := hid hh.grown
                    obtain ⟨x89, hx89⟩ : ∃ x, A.eval (.tmp 89) = x := ⟨_, rfl⟩
                    have f89 : (fun v _ => v = (Value.int .i64 (k : Nat))) x89 u17 := by rw [← hx89]; exact hh.got 0 _ 89 rfl rfl (hall 0 (by decide))
                    obtain ⟨x90, hx90⟩ : ∃ x, A.eval (.tmp 90) = x := ⟨_, rfl⟩
                    have f90 : (fun v _ => v = (Value.pointer (some ⟨b8, 0, none⟩))) x90 u17 := by rw [← hx90]; exact hh.got 1 _ 90 rfl rfl (hall 1 (by decide))
                    obtain ⟨x91, hx91⟩ : ∃ x, A.eval (.tmp 91) = x := ⟨_, rfl⟩
                    have f91 : (fun v _ => v = (Value.slice (some ⟨gw, ow, none⟩) m cw)) x91 u17 := by rw [← hx91]; exact hh.got 2 _ 91 rfl rfl (hall 2 (by decide))
                    obtain ⟨x92, hx92⟩ : ∃ x, A.eval (.tmp 92) = x := ⟨_, rfl⟩
                    have f92 : (fun v _ => v = (Value.int .i64 (m : Nat))) x92 u17 := by rw [← hx92]; exact hh.got 3 _ 92 rfl rfl (hall 3 (by decide))
                    obtain ⟨x93, hx93⟩ : ∃ x, A.eval (.tmp 93) = x := ⟨_, rfl⟩
                    have f93 : (fun v _ => v = (Value.bool false)) x93 u17 := by rw [← hx93]; exact hh.got 4 _ 93 rfl rfl (hall 4 (by decide))
                    obtain ⟨x94, hx94⟩ : ∃ x, A.eval (.tmp 94) = x := ⟨_, rfl⟩
                    have f94 : (fun v _ => v = (Value.bool false)) x94 u17 := by rw [← hx94]; exact hh.got 5 _ 94 rfl rfl (hall 5 (by decide))
                    obtain ⟨x95, hx95⟩ : ∃ x, A.eval (.tmp 95) = x := ⟨_, rfl⟩
                    have f95 : (fun v _ => v = (Value.pointer (some ⟨b8, 0, none⟩))) x95 u17 := by rw [← hx95]; exact hh.got 6 _ 95 rfl rfl (hall 6 (by decide))
                    obtain ⟨x96, hx96⟩ : ∃ x, A.eval (.tmp 96) = x := ⟨_, rfl⟩
                    have f96 : (fun v _ => v = (Value.slice (some ⟨gw, ow, none⟩) m cw)) x96 u17 := by rw [← hx96]; exact hh.got 7 _ 96 rfl rfl (hall 7 (by decide))
                    obtain ⟨x97, hx97⟩ : ∃ x, A.eval (.tmp 97) = x := ⟨_, rfl⟩
                    have f97 : (fun v _ => v = (Value.int .i64 (k : Nat))) x97 u17 := by rw [← hx97]; exact hh.got 8 _ 97 rfl rfl (hall 8 (by decide))
                    obtain ⟨x98, hx98⟩ : ∃ x, A.eval (.tmp 98) = x := ⟨_, rfl⟩
                    have f98 : (fun v _ => v = (Value.pointer (some ⟨gw, ow + k * 34, none⟩))) x98 u17 := by rw [← hx98]; exact hh.got 9 _ 98 rfl rfl (hall 9 (by decide))
                    obtain ⟨x99, hx99⟩ : ∃ x, A.eval (.tmp 99) = x := ⟨_, rfl⟩
                    have f99 : (fun v _ => v = (Value.agg K.cells.toArray)) x99 u17 := by rw [← hx99]; exact hh.got 10 _ 99 rfl rfl (hall 10 (by decide))
                    obtain ⟨x100, hx100⟩ : ∃ x, A.eval (.tmp 100) = x := ⟨_, rfl⟩
                    have f100 : (fun v _ => v = (Value.pointer (some ⟨b3, 0, none⟩))) x100 u17 := by rw [← hx100]; exact hh.got 11 _ 100 rfl rfl (hall 11 (by decide))
                    obtain ⟨x101, hx101⟩ : ∃ x, A.eval (.tmp 101) = x := ⟨_, rfl⟩
                    have f101 : (fun v _ => v = (Value.slice (some ⟨gr, orr, none⟩) n c)) x101 u17 := by rw [← hx101]; exact hh.got 12 _ 101 rfl rfl (hall 12 (by decide))
                    obtain ⟨x102, hx102⟩ : ∃ x, A.eval (.tmp 102) = x := ⟨_, rfl⟩
                    have f102 : (fun v _ => v = (Value.int .i64 (i : Nat))) x102 u17 := by rw [← hx102]; exact hh.got 13 _ 102 rfl rfl (hall 13 (by decide))
                    obtain ⟨x103, hx103⟩ : ∃ x, A.eval (.tmp 103) = x := ⟨_, rfl⟩
                    have f103 : (fun v _ => v = (Value.pointer (some ⟨gr, orr + i * 34, none⟩))) x103 u17 := by rw [← hx103]; exact hh.got 14 _ 103 rfl rfl (hall 14 (by decide))
                    obtain ⟨x104, hx104⟩ : ∃ x, A.eval (.tmp 104) = x := ⟨_, rfl⟩
                    have f104 : (fun v _ => v = (Value.agg K.cells.toArray)) x104 u17 := by rw [← hx104]; exact hh.got 15 _ 104 rfl rfl (hall 15 (by decide))
                    obtain ⟨x105, hx105⟩ : ∃ x, A.eval (.tmp 105) = x := ⟨_, rfl⟩
                    have f105 : (fun v _ => v = (Value.bool false)) x105 u17 := by rw [← hx105]; exact hh.got 16 _ 105 rfl rfl (hall 16 (by decide))
                    obtain ⟨x106, hx106⟩ : ∃ x, A.eval (.tmp 106) = x := ⟨_, rfl⟩
                    have f106 : (fun v _ => v = (Value.bool false)) x106 u17 := by rw [← hx106]; exact hh.got 17 _ 106 rfl rfl (hall 17 (by decide))
                    dsimp only [wrote, List.foldl] at hA
                    rw [hx89, hx90, hx91, hx92, hx93, hx94, hx95, hx96, hx97, hx98, hx99, hx100, hx101, hx102, hx103, hx104, hx105, hx106] at hA
                    clear hh hall hx89 hx90 hx91 hx92 hx93 hx94 hx95 hx96 hx97 hx98 hx99 hx100 hx101 hx102 hx103 hx104 hx105 hx106
                    replace f89 := (f89 : x89 = (.int .i64 (k : Nat)))
                    subst f89
                    replace f90 := (f90 : x90 = (.pointer (some ⟨b8, 0, none⟩)))
                    subst f90
                    replace f91 := (f91 : x91 = (.slice (some ⟨gw, ow, none⟩) m cw))
                    subst f91
                    replace f92 := (f92 : x92 = (.int .i64 (m : Nat)))
                    subst f92
                    replace f93 := (f93 : x93 = (.bool false))
                    subst f93
                    replace f94 := (f94 : x94 = (.bool false))
                    subst f94
                    replace f95 := (f95 : x95 = (.pointer (some ⟨b8, 0, none⟩)))
                    subst f95
                    replace f96 := (f96 : x96 = (.slice (some ⟨gw, ow, none⟩) m cw))
                    subst f96
                    replace f97 := (f97 : x97 = (.int .i64 (k : Nat)))
                    subst f97
                    replace f98 := (f98 : x98 = (.pointer (some ⟨gw, ow + k * 34, none⟩)))
                    subst f98
                    replace f99 := (f99 : x99 = (.agg K.cells.toArray))
                    subst f99
                    replace f100 := (f100 : x100 = (.pointer (some ⟨b3, 0, none⟩)))
                    subst f100
                    replace f101 := (f101 : x101 = (.slice (some ⟨gr, orr, none⟩) n c))
                    subst f101
                    replace f102 := (f102 : x102 = (.int .i64 (i : Nat)))
                    subst f102
                    replace f103 := (f103 : x103 = (.pointer (some ⟨gr, orr + i * 34, none⟩)))
                    subst f103
                    replace f104 := (f104 : x104 = (.agg K.cells.toArray))
                    subst f104
                    replace f105 := (f105 : x105 = (.bool false))
                    subst f105
                    replace f106 := (f106 : x106 = (.bool false))
                    subst f106
                    subst hA
                    show wpList _ _ _ [] _ _
                    unfold wpList
                    simp only [Act.put, List.setIfInBounds_toArray, List.set_cons_succ, List.set_cons_zero]
                    have HGn := hid (gtrans HG.out HU.out)
                    go_wp2_with fail
                    go_roundw
                    case rel => exact ⟨i + 1, by go_num, by rw [HSn.out]; go_num, by omega, HGn⟩
                    case measure => simp [intOf]; omega
            · have hge : ¬ (i : Int) < (n : Int) := by omega
              obtain rfl : i = n := by omega
              rw [HEnd2.out]
              go_wp2_with (go_at_call 26; (with_reducible refine (HWk.out _).mono ?_); rintro e w9 ⟨rfl, hg9⟩; have HG9 := hid hg9; clear hg9)
              go_ret
              exact ⟨rfl, gtrans (gtrans HG12.out HG.out) HG9.out⟩
  · have hmx : max At Bt = At := by omega
    go_enter Try.func6, Try.ntmps6
    go_wp2_with (first
      | ((with_reducible refine wpList_box_row (by with_unfolding_all rfl) 103 _ (by with_unfolding_all rfl) P (by with_unfolding_all rfl) ?_); intro w1 B1 s1 g1; have HB1 := hid B1; have HG1 := hid g1; have HS1 := hid s1; clear B1 g1 s1)
      | ((with_reducible refine wpList_alloc_row (by with_unfolding_all rfl) 69 (by with_unfolding_all rfl) [.slice none 0 0, .int .u64 0] Try.zero69 ?_); intro w3 B3 s3 g3; have HB3 := hid B3; have HG3 := hid g3; have HS3 := hid s3; clear B3 g3 s3)
      | (with_reducible refine wpList_load_part (by with_unfolding_all rfl) 94 _ (by with_unfolding_all rfl) w.heap.size 0 C _ (by with_unfolding_all rfl) (HPL.out _ _ HB1.out) Try.underlying94 (by with_unfolding_all rfl) (by rw [HLL.out]; exact Try.size94) ?_)
      | (go_at_call 28; (with_reducible refine (HGr.out _ HG1.out).mono ?_); rintro e w2 ⟨l, nx, a, c, rfl, hri, hO2, hg2⟩; have HRi := hid hri; have HO2 := hid (hO2.below (show B0 ≤ w1.heap.size by have := HG1.out.size; have := HB0.out; omega)); have HG2 := hid (gtrans HG1.out hg2); have HP2 := hid (HB1.out.keep hg2); clear hO2 hg2 hri)
      | ((with_reducible refine wpList_store_all (by with_unfolding_all rfl) 69 _ _ (by with_unfolding_all rfl) _ [.slice none 0 0, .int .u64 0] [.slice a l.length c, .int .u64 nx] 69 (by with_unfolding_all rfl) (by with_unfolding_all rfl) HB3.out (by with_unfolding_all rfl) (by with_unfolding_all exact Try.size69) (ring_one _ _ _ _) ?_); intro w4 B4 g4 s4; have HB4 := hid B4; have HG4 := hid g4; have HS4 := hid s4; clear B4 g4 s4; have hl1 := HP2.out.lt; have HG4x := hid ((gtrans HG2.out HG3.out).andThen HG4.out (fun j hj => .inl (by injection hj with hj; have := HG2.out.size; omega))); have HP4 := hid ((HP2.out.keep HG3.out).on HG4.out (by simp; omega)); have HO4 := hid ((HO2.out.keep HG3.out).on HG4.out (fun j hj e => by injection hj with hj; exact (HO2.out.keep HG3.out).ne_blk HB3.out (by decide) _ e hj.symm)); clear hl1; obtain ⟨pA, pB⟩ := HPA.out _ _ HP4.out))
    obtain ⟨b1, hb1⟩ : ∃ x, w.heap.size = x := ⟨_, rfl⟩
    obtain ⟨b3, hb3⟩ : ∃ x, w2.heap.size = x := ⟨_, rfl⟩
    rw [hb1] at HP4
    rw [hb3] at HB4
    rw [hb1, hb3]
    have HB13 : Hid (B0 ≤ b1 ∧ b1 < b3) := hid (by have := HP2.out.lt; have := HB0.out; have := HG1.out.size; omega)
    obtain ⟨n, HN⟩ : ∃ x, Hid (l.length = x) := ⟨_, hid rfl⟩
    rw [HN.out] at HB4 HO4 ⊢
    have HL8 : Hid (l.length ≤ 8) := hid (goodL_pos (isRing_good HRi.out).1).2
    obtain ⟨LA, HLAe⟩ : ∃ x, Hid (l.filter (fun k => !goesP At k) = x) := ⟨_, hid rfl⟩
    obtain ⟨LB, HLBe⟩ : ∃ x, Hid (l.filter (fun k => !goesP Bt k) = x) := ⟨_, hid rfl⟩
    obtain ⟨LW, HLWe⟩ : ∃ x, Hid (l.filter (fun k => !goesP At k) = x) := ⟨_, hid rfl⟩
    have hA8 : LA.length ≤ 8 := by rw [← HLAe.out]; exact Nat.le_trans (List.length_filter_le _ _) HL8.out
    have hB8 : LB.length ≤ 8 := by rw [← HLBe.out]; exact Nat.le_trans (List.length_filter_le _ _) HL8.out
    have hpA : prn l nx At = (LA, nx) := by rw [← HLAe.out]; exact (prn_ring At HRi.out).1
    have hpB : prn l nx Bt = (LB, nx) := by rw [← HLBe.out]; exact (prn_ring Bt HRi.out).1
    have hpL : prn l nx At = (LW, nx) := by rw [← HLWe.out]; exact (prn_ring At HRi.out).1
    have hpAB : prn LA nx Bt = (LW, nx) := by rw [← HLAe.out, ← HLWe.out, (prn_ring Bt (prn_ring At HRi.out).2).1, filter_two, hmx]
    have hpBA : prn LB nx At = (LW, nx) := by rw [← HLBe.out, ← HLWe.out, (prn_ring At (prn_ring Bt HRi.out).2).1, filter_two, show max Bt At = At by omega]
    have hp0 : prn l nx 0 = (l, nx) := by rw [(prn_ring 0 HRi.out).1, filter_zero]
    obtain ⟨nA, HNA⟩ : ∃ x, Hid (LA.length = x) := ⟨_, hid rfl⟩
    obtain ⟨nB, HNB⟩ : ∃ x, Hid (LB.length = x) := ⟨_, hid rfl⟩
    obtain ⟨m, HNW⟩ : ∃ x, Hid (LW.length = x) := ⟨_, hid rfl⟩
    have HCp0 : Hid (∀ (u : World), OutK B0 u (.slice a n c) l → B0 ≤ u.heap.size → Calls Try.prog 18 #[.agg [.slice a n c, .int .u64 nx].toArray] u fun e w' => ∃ v, e = .returned v ∧ u.grownBy w' none ∧ ∃ x y, v = Value.agg [Value.slice x n y, Value.int .u64 nx].toArray ∧ OutK B0 w' (.slice x n y) l) := fun u h hb => by
      have := copyRing_any u _ _ l nx h.rd (by have := HL8.out; omega)
      rw [HN.out] at this
      refine this.mono ?_
      rintro e w' ⟨x, y, he, ho, hg⟩
      exact ⟨_, he, hg, x, y, rfl, ho.below hb⟩
    have HPa : Hid (∀ (u : World) (aa : Option Addr) (cc : Nat), OutK B0 u (.slice aa n cc) l → B0 ≤ u.heap.size → Calls Try.prog 14 #[.agg [.slice aa n cc, .int .u64 nx].toArray, .int .i64 At] u fun e w' => ∃ v, e = .returned v ∧ u.grownBy w' none ∧ ∃ x y, v = Value.agg [Value.slice x nA y, Value.int .u64 nx].toArray ∧ OutK B0 w' (.slice x nA y) LA) := fun u aa cc h hb => by
      have := prune_any u _ _ l nx At h.rd (by have := HL8.out; omega)
      rw [hpA, HNA.out] at this
      refine this.mono ?_
      rintro e w' ⟨x, y, he, ho, hg⟩
      exact ⟨_, he, hg, x, y, rfl, ho.below hb⟩
    have HPb : Hid (∀ (u : World) (aa : Option Addr) (cc : Nat), OutK B0 u (.slice aa n cc) l → B0 ≤ u.heap.size → Calls Try.prog 14 #[.agg [.slice aa n cc, .int .u64 nx].toArray, .int .i64 Bt] u fun e w' => ∃ v, e = .returned v ∧ u.grownBy w' none ∧ ∃ x y, v = Value.agg [Value.slice x nB y, Value.int .u64 nx].toArray ∧ OutK B0 w' (.slice x nB y) LB) := fun u aa cc h hb => by
      have := prune_any u _ _ l nx Bt h.rd (by have := HL8.out; omega)
      rw [hpB, HNB.out] at this
      refine this.mono ?_
      rintro e w' ⟨x, y, he, ho, hg⟩
      exact ⟨_, he, hg, x, y, rfl, ho.below hb⟩
    have HPl : Hid (∀ (u : World) (aa : Option Addr) (cc : Nat), OutK B0 u (.slice aa n cc) l → B0 ≤ u.heap.size → Calls Try.prog 14 #[.agg [.slice aa n cc, .int .u64 nx].toArray, .int .i64 At] u fun e w' => ∃ v, e = .returned v ∧ u.grownBy w' none ∧ ∃ x y, v = Value.agg [Value.slice x m y, Value.int .u64 nx].toArray ∧ OutK B0 w' (.slice x m y) LW) := fun u aa cc h hb => by
      have := prune_any u _ _ l nx At h.rd (by have := HL8.out; omega)
      rw [hpL, HNW.out] at this
      refine this.mono ?_
      rintro e w' ⟨x, y, he, ho, hg⟩
      exact ⟨_, he, hg, x, y, rfl, ho.below hb⟩
    have HP0 : Hid (∀ (u : World) (aa : Option Addr) (cc : Nat), OutK B0 u (.slice aa n cc) l → B0 ≤ u.heap.size → Calls Try.prog 14 #[.agg [.slice aa n cc, .int .u64 nx].toArray, .int .i64 0] u fun e w' => ∃ v, e = .returned v ∧ u.grownBy w' none ∧ ∃ x y, v = Value.agg [Value.slice x n y, Value.int .u64 nx].toArray ∧ OutK B0 w' (.slice x n y) l) := fun u aa cc h hb => by
      have := prune_any u _ _ l nx 0 h.rd (by have := HL8.out; omega)
      rw [hp0, HN.out] at this
      refine this.mono ?_
      rintro e w' ⟨x, y, he, ho, hg⟩
      exact ⟨_, he, hg, x, y, rfl, ho.below hb⟩
    have HPab : Hid (∀ (u : World) (aa : Option Addr) (cc : Nat), OutK B0 u (.slice aa nA cc) LA → B0 ≤ u.heap.size → Calls Try.prog 14 #[.agg [.slice aa nA cc, .int .u64 nx].toArray, .int .i64 Bt] u fun e w' => ∃ v, e = .returned v ∧ u.grownBy w' none ∧ ∃ x y, v = Value.agg [Value.slice x m y, Value.int .u64 nx].toArray ∧ OutK B0 w' (.slice x m y) LW) := fun u aa cc h hb => by
      have := prune_any u _ _ LA nx Bt h.rd (by have := HL8.out; omega)
      rw [hpAB, HNW.out] at this
      refine this.mono ?_
      rintro e w' ⟨x, y, he, ho, hg⟩
      exact ⟨_, he, hg, x, y, rfl, ho.below hb⟩
    have HPba : Hid (∀ (u : World) (aa : Option Addr) (cc : Nat), OutK B0 u (.slice aa nB cc) LB → B0 ≤ u.heap.size → Calls Try.prog 14 #[.agg [.slice aa nB cc, .int .u64 nx].toArray, .int .i64 At] u fun e w' => ∃ v, e = .returned v ∧ u.grownBy w' none ∧ ∃ x y, v = Value.agg [Value.slice x m y, Value.int .u64 nx].toArray ∧ OutK B0 w' (.slice x m y) LW) := fun u aa cc h hb => by
      have := prune_any u _ _ LB nx At h.rd (by have := HL8.out; omega)
      rw [hpBA, HNW.out] at this
      refine this.mono ?_
      rintro e w' ⟨x, y, he, ho, hg⟩
      exact ⟨_, he, hg, x, y, rfl, ho.below hb⟩
    clear hpA hpB hpL hpAB hpBA hp0
    have HBp := HP4
    have HB3' := HB4
    obtain ⟨HH, HHs⟩ : ∃ x, Hid (w4.heap.size = x) := ⟨_, hid rfl⟩
    have HCp : Hid (∀ u, w4.grownBy u none → Calls Try.prog 18 #[.agg [.slice a n c, .int .u64 nx].toArray] u fun e w' => ∃ v, e = .returned v ∧ u.grownBy w' none ∧ ∃ x y, v = Value.agg [Value.slice x n y, Value.int .u64 nx].toArray ∧ OutK B0 w' (.slice x n y) l) := fun u hu => HCp0.out u (HO4.out.keep hu) (by have := (gtrans HG4x.out hu).size; have := HB0.out; omega)
    refine wp_region_list (by kernel_rfl) [fun v _ => v = (Value.agg [Value.slice a n c, Value.int .u64 nx].toArray), fun v u => ∃ aa cc, v = Value.agg [Value.slice aa n cc, Value.int .u64 nx].toArray ∧ OutK B0 u (.slice aa n cc) l, fun v _ => v = (Value.pointer (some ⟨b1, 33, none⟩)), fun v _ => v = (Value.int .i64 At), fun v u => ∃ aa cc, v = Value.agg [Value.slice aa nA cc, Value.int .u64 nx].toArray ∧ OutK B0 u (.slice aa nA cc) LA, fun v _ => v = (Value.pointer (some ⟨b1, 34, none⟩)), fun v _ => v = (Value.int .i64 Bt), fun v u => ∃ aa cc, v = Value.agg [Value.slice aa m cc, Value.int .u64 nx].toArray ∧ OutK B0 u (.slice aa m cc) LW, fun v u => ∃ bb, v = Value.pointer (some ⟨bb, 0, none⟩) ∧ Blk u bb [.slice none 0 0, .int .u64 0] 69 ∧ HH ≤ bb] (none) (fun _ => none) 9 (by kernel_rfl) (by kernel_rfl) (by kernel_rfl) (by kernel_rfl) (by decide) noRow_one (fun _ => .inl rfl) ⟨fun i v u u' hki h hg => h, fun i v u u' hki h hg => (by obtain ⟨aa, cc, e, ho⟩ := h; exact ⟨aa, cc, e, ho.keep hg⟩), fun i v u u' hki h hg => h, fun i v u u' hki h hg => h, fun i v u u' hki h hg => (by obtain ⟨aa, cc, e, ho⟩ := h; exact ⟨aa, cc, e, ho.keep hg⟩), fun i v u u' hki h hg => h, fun i v u u' hki h hg => h, fun i v u u' hki h hg => (by obtain ⟨aa, cc, e, ho⟩ := h; exact ⟨aa, cc, e, ho.keep hg⟩), fun i v u u' hki h hg => (by obtain ⟨bb, e, hb, hl⟩ := h; exact ⟨bb, e, hb.keep hg, hl⟩), trivial⟩ ⟨?_, ?_, ?_, ?_, ?_, ?_, ?_, ?_, ?_, trivial⟩ ?_
    · intro A u hu hpu hsz hout hdeps
      have e3 : A.eval (.tmp 3) = (.pointer (some ⟨b3, 0, none⟩)) := (hout 3 (by kernel_rfl)).trans rfl
      refine ifw_none rfl ?_
      with_reducible refine shown_q (Value.agg [Value.slice a n c, Value.int .u64 nx].toArray) ?qq_1z_0 (fun _ _ => ?qr_1z_0)
      case qr_1z_0 => exact (rfl : (Value.agg [Value.slice a n c, Value.int .u64 nx].toArray) = (Value.agg [Value.slice a n c, Value.int .u64 nx].toArray))
      with_reducible refine quietAt_load 69 (.tmp 3) ?h0_1z_0 b3 0 [Value.slice a n c, Value.int .u64 nx] (.struct (Try.prog.fieldsOf 69)) ?h1_1z_0 ?h2_1z_0 ?h3_1z_0 ?h4_1z_0 ?h5_1z_0
      case h0_1z_0 => rfl
      case h1_1z_0 => exact e3
      case h2_1z_0 => exact (HB3'.out.keep hu).whole
      case h3_1z_0 => exact Try.under69
      case h4_1z_0 => rfl
      case h5_1z_0 => exact Try.size69
    · intro A u hu hpu hsz hout hdeps
      have e27 : A.eval (.tmp 27) = (.agg [.slice a n c, .int .u64 nx].toArray) := by have h := depL hdeps 0 (by kernel_rfl) 27 (by kernel_rfl); exact h
      refine ifw_none rfl ?_
      with_reducible refine shown_call 18 Try.f18 ?h0_1z_1 ?h1_1z_1 ?h2_1z_1 #[.tmp 27] #[69] ?h3_1z_1 #[(Value.agg [Value.slice a n c, Value.int .u64 nx].toArray)] ?h4_1z_1 ?h5_1z_1
      case h0_1z_1 => exact Try.func18
      case h1_1z_1 => kernel_rfl
      case h2_1z_1 => kernel_rfl
      case h3_1z_1 => rfl
      case h4_1z_1 => exact map1 _ _ _ e27
      case h5_1z_1 => exact HCp.out u hu
    · intro A u hu hpu hsz hout hdeps
      have e1 : A.eval (.tmp 1) = (.pointer (some ⟨b1, 0, none⟩)) := (hout 1 (by kernel_rfl)).trans rfl
      refine ifw_none rfl ?_
      with_reducible refine shown_q (Value.pointer (some ⟨b1, 33, none⟩)) ?qq_1z_2 (fun _ _ => ?qr_1z_2)
      case qr_1z_2 => exact (rfl : (Value.pointer (some ⟨b1, 33, none⟩)) = (Value.pointer (some ⟨b1, 33, none⟩)))
      with_reducible refine quietAt_field 103 (.tmp 1) 1 ?h0_1z_2 ⟨b1, 0, none⟩ ⟨b1, 33, none⟩ ?h1_1z_2 ?h2_1z_2
      case h0_1z_2 => rfl
      case h1_1z_2 => exact e1
      case h2_1z_2 => kernel_rfl
    · intro A u hu hpu hsz hout hdeps
      have e29 : A.eval (.tmp 29) = (.pointer (some ⟨b1, 33, none⟩)) := by have h := depL hdeps 2 (by kernel_rfl) 29 (by kernel_rfl); exact h
      refine ifw_none rfl ?_
      with_reducible refine shown_q (Value.int .i64 At) ?qq_1z_3 (fun _ _ => ?qr_1z_3)
      case qr_1z_3 => exact (rfl : (Value.int .i64 At) = (Value.int .i64 At))
      with_reducible refine quietAt_ld 2 (.tmp 29) (Value.pointer (some ⟨b1, 33, none⟩)) (Value.int .i64 At) ?h0_1z_3 ?h1_1z_3 ?h2_1z_3
      case h0_1z_3 => rfl
      case h1_1z_3 => exact e29
      case h2_1z_3 => exact ld2 b1 33 At u (HPA.out u _ (HBp.out.keep hu)).1
    · intro A u hu hpu hsz hout hdeps
      have f28 : (fun v u => ∃ aa cc, v = Value.agg [Value.slice aa n cc, Value.int .u64 nx].toArray ∧ OutK B0 u (.slice aa n cc) l) (A.eval (.tmp 28)) u := by have h := depL hdeps 1 (by kernel_rfl) 28 (by kernel_rfl); exact h
      obtain ⟨a28, c28, e28, o28⟩ := f28
      have e30 : A.eval (.tmp 30) = (.int .i64 At) := by have h := depL hdeps 3 (by kernel_rfl) 30 (by kernel_rfl); exact h
      refine ifw_none rfl ?_
      with_reducible refine shown_call 14 Try.f14 ?h0_1z_4 ?h1_1z_4 ?h2_1z_4 #[.tmp 28, .tmp 30] #[69, 2] ?h3_1z_4 #[(Value.agg [Value.slice a28 n c28, Value.int .u64 nx].toArray), (Value.int .i64 At)] ?h4_1z_4 ?h5_1z_4
      case h0_1z_4 => exact Try.func14
      case h1_1z_4 => kernel_rfl
      case h2_1z_4 => kernel_rfl
      case h3_1z_4 => rfl
      case h4_1z_4 => exact map2 _ _ _ _ _ e28 e30
      case h5_1z_4 => exact HPa.out u _ _ o28 (by have := (gtrans HG4x.out hu).size; have := HB0.out; omega)
    · intro A u hu hpu hsz hout hdeps
      have e1 : A.eval (.tmp 1) = (.pointer (some ⟨b1, 0, none⟩)) := (hout 1 (by kernel_rfl)).trans rfl
      refine ifw_none rfl ?_
      with_reducible refine shown_q (Value.pointer (some ⟨b1, 34, none⟩)) ?qq_1z_5 (fun _ _ => ?qr_1z_5)
      case qr_1z_5 => exact (rfl : (Value.pointer (some ⟨b1, 34, none⟩)) = (Value.pointer (some ⟨b1, 34, none⟩)))
      with_reducible refine quietAt_field 103 (.tmp 1) 2 ?h0_1z_5 ⟨b1, 0, none⟩ ⟨b1, 34, none⟩ ?h1_1z_5 ?h2_1z_5
      case h0_1z_5 => rfl
      case h1_1z_5 => exact e1
      case h2_1z_5 => kernel_rfl
    · intro A u hu hpu hsz hout hdeps
      have e32 : A.eval (.tmp 32) = (.pointer (some ⟨b1, 34, none⟩)) := by have h := depL hdeps 5 (by kernel_rfl) 32 (by kernel_rfl); exact h
      refine ifw_none rfl ?_
      with_reducible refine shown_q (Value.int .i64 Bt) ?qq_1z_6 (fun _ _ => ?qr_1z_6)
      case qr_1z_6 => exact (rfl : (Value.int .i64 Bt) = (Value.int .i64 Bt))
      with_reducible refine quietAt_ld 2 (.tmp 32) (Value.pointer (some ⟨b1, 34, none⟩)) (Value.int .i64 Bt) ?h0_1z_6 ?h1_1z_6 ?h2_1z_6
      case h0_1z_6 => rfl
      case h1_1z_6 => exact e32
      case h2_1z_6 => exact ld2 b1 34 Bt u (HPA.out u _ (HBp.out.keep hu)).2
    · intro A u hu hpu hsz hout hdeps
      have f31 : (fun v u => ∃ aa cc, v = Value.agg [Value.slice aa nA cc, Value.int .u64 nx].toArray ∧ OutK B0 u (.slice aa nA cc) LA) (A.eval (.tmp 31)) u := by have h := depL hdeps 4 (by kernel_rfl) 31 (by kernel_rfl); exact h
      obtain ⟨a31, c31, e31, o31⟩ := f31
      have e33 : A.eval (.tmp 33) = (.int .i64 Bt) := by have h := depL hdeps 6 (by kernel_rfl) 33 (by kernel_rfl); exact h
      refine ifw_none rfl ?_
      with_reducible refine shown_call 14 Try.f14 ?h0_1z_7 ?h1_1z_7 ?h2_1z_7 #[.tmp 31, .tmp 33] #[69, 2] ?h3_1z_7 #[(Value.agg [Value.slice a31 nA c31, Value.int .u64 nx].toArray), (Value.int .i64 Bt)] ?h4_1z_7 ?h5_1z_7
      case h0_1z_7 => exact Try.func14
      case h1_1z_7 => kernel_rfl
      case h2_1z_7 => kernel_rfl
      case h3_1z_7 => rfl
      case h4_1z_7 => exact map2 _ _ _ _ _ e31 e33
      case h5_1z_7 => exact HPab.out u _ _ o31 (by have := (gtrans HG4x.out hu).size; have := HB0.out; omega)
    · intro A u hu hpu hsz hout hdeps
      refine ifw_none rfl ?_
      exact shown_alloc 69 rfl [.slice none 0 0, .int .u64 0] Try.zero69 (fun w' h _ => ⟨u.heap.size, rfl, h, by have := hu.size; have := HHs.out; omega⟩)
    · intro A u5 listed hh hall
      have hA := hh.frame
      have HU := hid hh.grown
      obtain ⟨x27, hx27⟩ : ∃ x, A.eval (.tmp 27) = x := ⟨_, rfl⟩
      have f27 : (fun v _ => v = (Value.agg [Value.slice a n c, Value.int .u64 nx].toArray)) x27 u5 := by rw [← hx27]; exact hh.got 0 _ 27 rfl rfl (hall 0 (by decide))
      obtain ⟨x28, hx28⟩ : ∃ x, A.eval (.tmp 28) = x := ⟨_, rfl⟩
      have f28 : (fun v u => ∃ aa cc, v = Value.agg [Value.slice aa n cc, Value.int .u64 nx].toArray ∧ OutK B0 u (.slice aa n cc) l) x28 u5 := by rw [← hx28]; exact hh.got 1 _ 28 rfl rfl (hall 1 (by decide))
      obtain ⟨x29, hx29⟩ : ∃ x, A.eval (.tmp 29) = x := ⟨_, rfl⟩
      have f29 : (fun v _ => v = (Value.pointer (some ⟨b1, 33, none⟩))) x29 u5 := by rw [← hx29]; exact hh.got 2 _ 29 rfl rfl (hall 2 (by decide))
      obtain ⟨x30, hx30⟩ : ∃ x, A.eval (.tmp 30) = x := ⟨_, rfl⟩
      have f30 : (fun v _ => v = (Value.int .i64 At)) x30 u5 := by rw [← hx30]; exact hh.got 3 _ 30 rfl rfl (hall 3 (by decide))
      obtain ⟨x31, hx31⟩ : ∃ x, A.eval (.tmp 31) = x := ⟨_, rfl⟩
      have f31 : (fun v u => ∃ aa cc, v = Value.agg [Value.slice aa nA cc, Value.int .u64 nx].toArray ∧ OutK B0 u (.slice aa nA cc) LA) x31 u5 := by rw [← hx31]; exact hh.got 4 _ 31 rfl rfl (hall 4 (by decide))
      obtain ⟨x32, hx32⟩ : ∃ x, A.eval (.tmp 32) = x := ⟨_, rfl⟩
      have f32 : (fun v _ => v = (Value.pointer (some ⟨b1, 34, none⟩))) x32 u5 := by rw [← hx32]; exact hh.got 5 _ 32 rfl rfl (hall 5 (by decide))
      obtain ⟨x33, hx33⟩ : ∃ x, A.eval (.tmp 33) = x := ⟨_, rfl⟩
      have f33 : (fun v _ => v = (Value.int .i64 Bt)) x33 u5 := by rw [← hx33]; exact hh.got 6 _ 33 rfl rfl (hall 6 (by decide))
      obtain ⟨x34, hx34⟩ : ∃ x, A.eval (.tmp 34) = x := ⟨_, rfl⟩
      have f34 : (fun v u => ∃ aa cc, v = Value.agg [Value.slice aa m cc, Value.int .u64 nx].toArray ∧ OutK B0 u (.slice aa m cc) LW) x34 u5 := by rw [← hx34]; exact hh.got 7 _ 34 rfl rfl (hall 7 (by decide))
      obtain ⟨x6, hx6⟩ : ∃ x, A.eval (.tmp 6) = x := ⟨_, rfl⟩
      have f6 : (fun v u => ∃ bb, v = Value.pointer (some ⟨bb, 0, none⟩) ∧ Blk u bb [.slice none 0 0, .int .u64 0] 69 ∧ HH ≤ bb) x6 u5 := by rw [← hx6]; exact hh.got 8 _ 6 rfl rfl (hall 8 (by decide))
      dsimp only [wrote, List.foldl] at hA
      rw [hx27, hx28, hx29, hx30, hx31, hx32, hx33, hx34, hx6] at hA
      clear hh hall hx27 hx28 hx29 hx30 hx31 hx32 hx33 hx34 hx6
      replace f27 := (f27 : x27 = (.agg [.slice a n c, .int .u64 nx].toArray))
      subst f27
      obtain ⟨a28, c28, e28, o28⟩ := f28
      subst e28
      replace f29 := (f29 : x29 = (.pointer (some ⟨b1, 33, none⟩)))
      subst f29
      replace f30 := (f30 : x30 = (.int .i64 At))
      subst f30
      obtain ⟨a31, c31, e31, o31⟩ := f31
      subst e31
      replace f32 := (f32 : x32 = (.pointer (some ⟨b1, 34, none⟩)))
      subst f32
      replace f33 := (f33 : x33 = (.int .i64 Bt))
      subst f33
      obtain ⟨a34, c34, e34, o34⟩ := f34
      subst e34
      obtain ⟨b6, e6, hb6b, hb6l⟩ := f6
      subst e6
      subst hA
      show wpList _ _ _ [_] _ _
      simp only [Act.put, List.setIfInBounds_toArray, List.set_cons_succ, List.set_cons_zero]
      go_wp2_with ((with_reducible refine wpList_store_all (by with_unfolding_all rfl) 69 _ _ (by with_unfolding_all rfl) _ [.slice none 0 0, .int .u64 0] [.slice a34 m c34, .int .u64 nx] 69 (by with_unfolding_all rfl) (by with_unfolding_all rfl) hb6b (by with_unfolding_all rfl) (by with_unfolding_all exact Try.size69) (ring_one _ _ _ _) ?_); intro w6 B6 g6 s6; have HB6 := hid B6; have HG6 := hid g6; have HS6 := hid s6; clear B6 g6 s6)
      have HB36 : Hid (b3 ≠ b6 ∧ b1 ≠ b6 ∧ B0 < b6) := hid (by have := HB13.out; have := HB4.out.lt; have := HHs.out; omega)
      have HB3b := hid ((HB4.out.keep HU.out).on HG6.out (by simp; have := HB36.out; omega))
      have HBpb := hid ((HP4.out.keep HU.out).on HG6.out (by simp; have := HB36.out; omega))
      have HOrb := hid ((HO4.out.keep HU.out).on HG6.out (fun j hj e => by injection hj with hj; exact (HO4.out.keep HU.out).ne_blk hb6b (by decide) _ e hj.symm))
      have HOxb := hid (o34.on HG6.out (fun j hj e => by injection hj with hj; exact o34.ne_blk hb6b (by decide) _ e hj.symm))
      have HG6x := hid ((gtrans HG4x.out HU.out).andThen HG6.out (fun j hj => .inl (by injection hj with hj; have := HB36.out; have := HB0.out; omega)))
      clear HB4 HP4 HO4 HBp HB3' HCp o28 o31 o34 hb6b hb6l HU HHs HG4x pA pB
      obtain ⟨HHb, HHsb⟩ : ∃ x, Hid (w6.heap.size = x) := ⟨_, hid rfl⟩
      have HCpb : Hid (∀ u, w6.grownBy u none → Calls Try.prog 18 #[.agg [.slice a n c, .int .u64 nx].toArray] u fun e w' => ∃ v, e = .returned v ∧ u.grownBy w' none ∧ ∃ x y, v = Value.agg [Value.slice x n y, Value.int .u64 nx].toArray ∧ OutK B0 w' (.slice x n y) l) := fun u hu => HCp0.out u (HOrb.out.keep hu) (by have := (gtrans HG6x.out hu).size; have := HB0.out; omega)
      refine wp_region_list (by kernel_rfl) [fun v _ => v = (Value.agg [Value.slice a n c, Value.int .u64 nx].toArray), fun v u => ∃ aa cc, v = Value.agg [Value.slice aa n cc, Value.int .u64 nx].toArray ∧ OutK B0 u (.slice aa n cc) l, fun v _ => v = (Value.pointer (some ⟨b1, 34, none⟩)), fun v _ => v = (Value.int .i64 Bt), fun v u => ∃ aa cc, v = Value.agg [Value.slice aa nB cc, Value.int .u64 nx].toArray ∧ OutK B0 u (.slice aa nB cc) LB, fun v _ => v = (Value.pointer (some ⟨b1, 33, none⟩)), fun v _ => v = (Value.int .i64 At), fun v u => ∃ aa cc, v = Value.agg [Value.slice aa m cc, Value.int .u64 nx].toArray ∧ OutK B0 u (.slice aa m cc) LW, fun v u => ∃ bb, v = Value.pointer (some ⟨bb, 0, none⟩) ∧ Blk u bb [.slice none 0 0, .int .u64 0] 69 ∧ HHb ≤ bb] (none) (fun _ => none) 9 (by kernel_rfl) (by kernel_rfl) (by kernel_rfl) (by kernel_rfl) (by decide) noRow_one (fun _ => .inl rfl) ⟨fun i v u u' hki h hg => h, fun i v u u' hki h hg => (by obtain ⟨aa, cc, e, ho⟩ := h; exact ⟨aa, cc, e, ho.keep hg⟩), fun i v u u' hki h hg => h, fun i v u u' hki h hg => h, fun i v u u' hki h hg => (by obtain ⟨aa, cc, e, ho⟩ := h; exact ⟨aa, cc, e, ho.keep hg⟩), fun i v u u' hki h hg => h, fun i v u u' hki h hg => h, fun i v u u' hki h hg => (by obtain ⟨aa, cc, e, ho⟩ := h; exact ⟨aa, cc, e, ho.keep hg⟩), fun i v u u' hki h hg => (by obtain ⟨bb, e, hb, hl⟩ := h; exact ⟨bb, e, hb.keep hg, hl⟩), trivial⟩ ⟨?_, ?_, ?_, ?_, ?_, ?_, ?_, ?_, ?_, trivial⟩ ?_
      · intro A u hu hpu hsz hout hdeps
        have e3 : A.eval (.tmp 3) = (.pointer (some ⟨b3, 0, none⟩)) := (hout 3 (by kernel_rfl)).trans rfl
        refine ifw_none rfl ?_
        with_reducible refine shown_q (Value.agg [Value.slice a n c, Value.int .u64 nx].toArray) ?qq_2z_0 (fun _ _ => ?qr_2z_0)
        case qr_2z_0 => exact (rfl : (Value.agg [Value.slice a n c, Value.int .u64 nx].toArray) = (Value.agg [Value.slice a n c, Value.int .u64 nx].toArray))
        with_reducible refine quietAt_load 69 (.tmp 3) ?h0_2z_0 b3 0 [Value.slice a n c, Value.int .u64 nx] (.struct (Try.prog.fieldsOf 69)) ?h1_2z_0 ?h2_2z_0 ?h3_2z_0 ?h4_2z_0 ?h5_2z_0
        case h0_2z_0 => rfl
        case h1_2z_0 => exact e3
        case h2_2z_0 => exact (HB3b.out.keep hu).whole
        case h3_2z_0 => exact Try.under69
        case h4_2z_0 => rfl
        case h5_2z_0 => exact Try.size69
      · intro A u hu hpu hsz hout hdeps
        have e35 : A.eval (.tmp 35) = (.agg [.slice a n c, .int .u64 nx].toArray) := by have h := depL hdeps 0 (by kernel_rfl) 35 (by kernel_rfl); exact h
        refine ifw_none rfl ?_
        with_reducible refine shown_call 18 Try.f18 ?h0_2z_1 ?h1_2z_1 ?h2_2z_1 #[.tmp 35] #[69] ?h3_2z_1 #[(Value.agg [Value.slice a n c, Value.int .u64 nx].toArray)] ?h4_2z_1 ?h5_2z_1
        case h0_2z_1 => exact Try.func18
        case h1_2z_1 => kernel_rfl
        case h2_2z_1 => kernel_rfl
        case h3_2z_1 => rfl
        case h4_2z_1 => exact map1 _ _ _ e35
        case h5_2z_1 => exact HCpb.out u hu
      · intro A u hu hpu hsz hout hdeps
        have e1 : A.eval (.tmp 1) = (.pointer (some ⟨b1, 0, none⟩)) := (hout 1 (by kernel_rfl)).trans rfl
        refine ifw_none rfl ?_
        with_reducible refine shown_q (Value.pointer (some ⟨b1, 34, none⟩)) ?qq_2z_2 (fun _ _ => ?qr_2z_2)
        case qr_2z_2 => exact (rfl : (Value.pointer (some ⟨b1, 34, none⟩)) = (Value.pointer (some ⟨b1, 34, none⟩)))
        with_reducible refine quietAt_field 103 (.tmp 1) 2 ?h0_2z_2 ⟨b1, 0, none⟩ ⟨b1, 34, none⟩ ?h1_2z_2 ?h2_2z_2
        case h0_2z_2 => rfl
        case h1_2z_2 => exact e1
        case h2_2z_2 => kernel_rfl
      · intro A u hu hpu hsz hout hdeps
        have e37 : A.eval (.tmp 37) = (.pointer (some ⟨b1, 34, none⟩)) := by have h := depL hdeps 2 (by kernel_rfl) 37 (by kernel_rfl); exact h
        refine ifw_none rfl ?_
        with_reducible refine shown_q (Value.int .i64 Bt) ?qq_2z_3 (fun _ _ => ?qr_2z_3)
        case qr_2z_3 => exact (rfl : (Value.int .i64 Bt) = (Value.int .i64 Bt))
        with_reducible refine quietAt_ld 2 (.tmp 37) (Value.pointer (some ⟨b1, 34, none⟩)) (Value.int .i64 Bt) ?h0_2z_3 ?h1_2z_3 ?h2_2z_3
        case h0_2z_3 => rfl
        case h1_2z_3 => exact e37
        case h2_2z_3 => exact ld2 b1 34 Bt u (HPA.out u _ (HBpb.out.keep hu)).2
      · intro A u hu hpu hsz hout hdeps
        have f36 : (fun v u => ∃ aa cc, v = Value.agg [Value.slice aa n cc, Value.int .u64 nx].toArray ∧ OutK B0 u (.slice aa n cc) l) (A.eval (.tmp 36)) u := by have h := depL hdeps 1 (by kernel_rfl) 36 (by kernel_rfl); exact h
        obtain ⟨a36, c36, e36, o36⟩ := f36
        have e38 : A.eval (.tmp 38) = (.int .i64 Bt) := by have h := depL hdeps 3 (by kernel_rfl) 38 (by kernel_rfl); exact h
        refine ifw_none rfl ?_
        with_reducible refine shown_call 14 Try.f14 ?h0_2z_4 ?h1_2z_4 ?h2_2z_4 #[.tmp 36, .tmp 38] #[69, 2] ?h3_2z_4 #[(Value.agg [Value.slice a36 n c36, Value.int .u64 nx].toArray), (Value.int .i64 Bt)] ?h4_2z_4 ?h5_2z_4
        case h0_2z_4 => exact Try.func14
        case h1_2z_4 => kernel_rfl
        case h2_2z_4 => kernel_rfl
        case h3_2z_4 => rfl
        case h4_2z_4 => exact map2 _ _ _ _ _ e36 e38
        case h5_2z_4 => exact HPb.out u _ _ o36 (by have := (gtrans HG6x.out hu).size; have := HB0.out; omega)
      · intro A u hu hpu hsz hout hdeps
        have e1 : A.eval (.tmp 1) = (.pointer (some ⟨b1, 0, none⟩)) := (hout 1 (by kernel_rfl)).trans rfl
        refine ifw_none rfl ?_
        with_reducible refine shown_q (Value.pointer (some ⟨b1, 33, none⟩)) ?qq_2z_5 (fun _ _ => ?qr_2z_5)
        case qr_2z_5 => exact (rfl : (Value.pointer (some ⟨b1, 33, none⟩)) = (Value.pointer (some ⟨b1, 33, none⟩)))
        with_reducible refine quietAt_field 103 (.tmp 1) 1 ?h0_2z_5 ⟨b1, 0, none⟩ ⟨b1, 33, none⟩ ?h1_2z_5 ?h2_2z_5
        case h0_2z_5 => rfl
        case h1_2z_5 => exact e1
        case h2_2z_5 => kernel_rfl
      · intro A u hu hpu hsz hout hdeps
        have e40 : A.eval (.tmp 40) = (.pointer (some ⟨b1, 33, none⟩)) := by have h := depL hdeps 5 (by kernel_rfl) 40 (by kernel_rfl); exact h
        refine ifw_none rfl ?_
        with_reducible refine shown_q (Value.int .i64 At) ?qq_2z_6 (fun _ _ => ?qr_2z_6)
        case qr_2z_6 => exact (rfl : (Value.int .i64 At) = (Value.int .i64 At))
        with_reducible refine quietAt_ld 2 (.tmp 40) (Value.pointer (some ⟨b1, 33, none⟩)) (Value.int .i64 At) ?h0_2z_6 ?h1_2z_6 ?h2_2z_6
        case h0_2z_6 => rfl
        case h1_2z_6 => exact e40
        case h2_2z_6 => exact ld2 b1 33 At u (HPA.out u _ (HBpb.out.keep hu)).1
      · intro A u hu hpu hsz hout hdeps
        have f39 : (fun v u => ∃ aa cc, v = Value.agg [Value.slice aa nB cc, Value.int .u64 nx].toArray ∧ OutK B0 u (.slice aa nB cc) LB) (A.eval (.tmp 39)) u := by have h := depL hdeps 4 (by kernel_rfl) 39 (by kernel_rfl); exact h
        obtain ⟨a39, c39, e39, o39⟩ := f39
        have e41 : A.eval (.tmp 41) = (.int .i64 At) := by have h := depL hdeps 6 (by kernel_rfl) 41 (by kernel_rfl); exact h
        refine ifw_none rfl ?_
        with_reducible refine shown_call 14 Try.f14 ?h0_2z_7 ?h1_2z_7 ?h2_2z_7 #[.tmp 39, .tmp 41] #[69, 2] ?h3_2z_7 #[(Value.agg [Value.slice a39 nB c39, Value.int .u64 nx].toArray), (Value.int .i64 At)] ?h4_2z_7 ?h5_2z_7
        case h0_2z_7 => exact Try.func14
        case h1_2z_7 => kernel_rfl
        case h2_2z_7 => kernel_rfl
        case h3_2z_7 => rfl
        case h4_2z_7 => exact map2 _ _ _ _ _ e39 e41
        case h5_2z_7 => exact HPba.out u _ _ o39 (by have := (gtrans HG6x.out hu).size; have := HB0.out; omega)
      · intro A u hu hpu hsz hout hdeps
        refine ifw_none rfl ?_
        exact shown_alloc 69 rfl [.slice none 0 0, .int .u64 0] Try.zero69 (fun w' h _ => ⟨u.heap.size, rfl, h, by have := hu.size; have := HHsb.out; omega⟩)
      · intro A u7 listed hh hall
        have hA := hh.frame
        have HU := hid hh.grown
        obtain ⟨x35, hx35⟩ : ∃ x, A.eval (.tmp 35) = x := ⟨_, rfl⟩
        have f35 : (fun v _ => v = (Value.agg [Value.slice a n c, Value.int .u64 nx].toArray)) x35 u7 := by rw [← hx35]; exact hh.got 0 _ 35 rfl rfl (hall 0 (by decide))
        obtain ⟨x36, hx36⟩ : ∃ x, A.eval (.tmp 36) = x := ⟨_, rfl⟩
        have f36 : (fun v u => ∃ aa cc, v = Value.agg [Value.slice aa n cc, Value.int .u64 nx].toArray ∧ OutK B0 u (.slice aa n cc) l) x36 u7 := by rw [← hx36]; exact hh.got 1 _ 36 rfl rfl (hall 1 (by decide))
        obtain ⟨x37, hx37⟩ : ∃ x, A.eval (.tmp 37) = x := ⟨_, rfl⟩
        have f37 : (fun v _ => v = (Value.pointer (some ⟨b1, 34, none⟩))) x37 u7 := by rw [← hx37]; exact hh.got 2 _ 37 rfl rfl (hall 2 (by decide))
        obtain ⟨x38, hx38⟩ : ∃ x, A.eval (.tmp 38) = x := ⟨_, rfl⟩
        have f38 : (fun v _ => v = (Value.int .i64 Bt)) x38 u7 := by rw [← hx38]; exact hh.got 3 _ 38 rfl rfl (hall 3 (by decide))
        obtain ⟨x39, hx39⟩ : ∃ x, A.eval (.tmp 39) = x := ⟨_, rfl⟩
        have f39 : (fun v u => ∃ aa cc, v = Value.agg [Value.slice aa nB cc, Value.int .u64 nx].toArray ∧ OutK B0 u (.slice aa nB cc) LB) x39 u7 := by rw [← hx39]; exact hh.got 4 _ 39 rfl rfl (hall 4 (by decide))
        obtain ⟨x40, hx40⟩ : ∃ x, A.eval (.tmp 40) = x := ⟨_, rfl⟩
        have f40 : (fun v _ => v = (Value.pointer (some ⟨b1, 33, none⟩))) x40 u7 := by rw [← hx40]; exact hh.got 5 _ 40 rfl rfl (hall 5 (by decide))
        obtain ⟨x41, hx41⟩ : ∃ x, A.eval (.tmp 41) = x := ⟨_, rfl⟩
        have f41 : (fun v _ => v = (Value.int .i64 At)) x41 u7 := by rw [← hx41]; exact hh.got 6 _ 41 rfl rfl (hall 6 (by decide))
        obtain ⟨x42, hx42⟩ : ∃ x, A.eval (.tmp 42) = x := ⟨_, rfl⟩
        have f42 : (fun v u => ∃ aa cc, v = Value.agg [Value.slice aa m cc, Value.int .u64 nx].toArray ∧ OutK B0 u (.slice aa m cc) LW) x42 u7 := by rw [← hx42]; exact hh.got 7 _ 42 rfl rfl (hall 7 (by decide))
        obtain ⟨x7, hx7⟩ : ∃ x, A.eval (.tmp 7) = x := ⟨_, rfl⟩
        have f7 : (fun v u => ∃ bb, v = Value.pointer (some ⟨bb, 0, none⟩) ∧ Blk u bb [.slice none 0 0, .int .u64 0] 69 ∧ HHb ≤ bb) x7 u7 := by rw [← hx7]; exact hh.got 8 _ 7 rfl rfl (hall 8 (by decide))
        dsimp only [wrote, List.foldl] at hA
        rw [hx35, hx36, hx37, hx38, hx39, hx40, hx41, hx42, hx7] at hA
        clear hh hall hx35 hx36 hx37 hx38 hx39 hx40 hx41 hx42 hx7
        replace f35 := (f35 : x35 = (.agg [.slice a n c, .int .u64 nx].toArray))
        subst f35
        obtain ⟨a36, c36, e36, o36⟩ := f36
        subst e36
        replace f37 := (f37 : x37 = (.pointer (some ⟨b1, 34, none⟩)))
        subst f37
        replace f38 := (f38 : x38 = (.int .i64 Bt))
        subst f38
        obtain ⟨a39, c39, e39, o39⟩ := f39
        subst e39
        replace f40 := (f40 : x40 = (.pointer (some ⟨b1, 33, none⟩)))
        subst f40
        replace f41 := (f41 : x41 = (.int .i64 At))
        subst f41
        obtain ⟨a42, c42, e42, o42⟩ := f42
        subst e42
        obtain ⟨b7, e7, hb7b, hb7l⟩ := f7
        subst e7
        subst hA
        show wpList _ _ _ [_] _ _
        simp only [Act.put, List.setIfInBounds_toArray, List.set_cons_succ, List.set_cons_zero]
        go_wp2_with (first
          | (have := HB10; clear this; (with_reducible refine wpList_store_all (by with_unfolding_all rfl) 69 _ _ (by with_unfolding_all rfl) _ [.slice none 0 0, .int .u64 0] [.slice aw m cw, .int .u64 nx] 69 (by with_unfolding_all rfl) (by with_unfolding_all rfl) HB10.out (by with_unfolding_all rfl) (by with_unfolding_all exact Try.size69) (ring_one _ _ _ _) ?_); intro w11 B11 g11 s11; have HB11 := hid B11; have HG11 := hid g11; have HS11 := hid s11; clear B11 g11 s11)
          | ((with_reducible refine wpList_store_all (by with_unfolding_all rfl) 69 _ _ (by with_unfolding_all rfl) _ [.slice none 0 0, .int .u64 0] [.slice a42 m c42, .int .u64 nx] 69 (by with_unfolding_all rfl) (by with_unfolding_all rfl) hb7b (by with_unfolding_all rfl) (by with_unfolding_all exact Try.size69) (ring_one _ _ _ _) ?_); intro w7 B7 g7 s7; have HB7 := hid B7; have HG7 := hid g7; have HS7 := hid s7; clear B7 g7 s7; have HB37 : Hid (b3 ≠ b7 ∧ b1 ≠ b7 ∧ B0 < b7 ∧ b6 ≠ b7) := hid (by have := HB36.out; have := HB3b.out.lt; have := HBpb.out.lt; have := HB6.out.lt; have := HHsb.out; have := HB13.out; omega); have HB3c := hid ((HB3b.out.keep HU.out).on HG7.out (by simp; have := HB37.out; omega)); have HBpc := hid ((HBpb.out.keep HU.out).on HG7.out (by simp; have := HB37.out; omega)); have HB6c := hid ((HB6.out.keep HU.out).on HG7.out (by simp; have := HB37.out; omega)); have HOrc := hid ((HOrb.out.keep HU.out).on HG7.out (fun j hj e => by injection hj with hj; exact (HOrb.out.keep HU.out).ne_blk hb7b (by decide) _ e hj.symm)); have HOxc := hid ((HOxb.out.keep HU.out).on HG7.out (fun j hj e => by injection hj with hj; exact (HOxb.out.keep HU.out).ne_blk hb7b (by decide) _ e hj.symm)); have HOyc := hid (o42.on HG7.out (fun j hj e => by injection hj with hj; exact o42.ne_blk hb7b (by decide) _ e hj.symm)); have HG7x := hid ((gtrans HG6x.out HU.out).andThen HG7.out (fun j hj => .inl (by injection hj with hj; have := HB37.out; have := HB0.out; omega))); clear HB3b HBpb HB6 HOrb HOxb HCpb o36 o39 o42 hb7b hb7l HU HHsb HG6x; have HCpc : Hid (∀ u, w7.grownBy u none → Calls Try.prog 18 #[.agg [.slice a n c, .int .u64 nx].toArray] u fun e w' => ∃ v, e = .returned v ∧ u.grownBy w' none ∧ ∃ x y, v = Value.agg [Value.slice x n y, Value.int .u64 nx].toArray ∧ OutK B0 w' (.slice x n y) l) := fun u hu => HCp0.out u (HOrc.out.keep hu) (by have := (gtrans HG7x.out hu).size; have := HB0.out; omega))
          | (with_reducible refine wpList_load_part (by with_unfolding_all rfl) 69 _ (by with_unfolding_all rfl) b3 0 [.slice a n c, .int .u64 nx] _ (by with_unfolding_all rfl) HB3c.out.whole Try.underlying69 (by with_unfolding_all rfl) (by with_unfolding_all exact Try.size69) ?_)
          | (go_at_call 18; (with_reducible refine (HCpc.out _ (grefl _ _)).mono ?_); rintro e w8 ⟨v8, rfl, hg8, ax8, cx8, hv8, ho8⟩; subst hv8; have HG8 := hid hg8; have HO8 := hid ho8; clear hg8 ho8)
          | (go_at_call 14; (with_reducible refine (HPl.out _ _ _ HO8.out (by have := (gtrans HG7x.out HG8.out).size; have := HB0.out; omega)).mono ?_); rintro e w9 ⟨v9, rfl, hg9, aw, cw, hv9, ho9⟩; subst hv9; have HG9 := hid (gtrans HG8.out hg9); have HO9 := hid ho9; clear hg9 ho9)
          | ((with_reducible refine wpList_alloc_row (by with_unfolding_all rfl) 69 (by with_unfolding_all rfl) [.slice none 0 0, .int .u64 0] Try.zero69 ?_); intro w10 B10 s10 g10; have HB10 := hid B10; have HG10 := hid g10; have HS10 := hid s10; clear B10 g10 s10)
          | (have := HB10; clear this; (with_reducible refine wpList_store_all (by with_unfolding_all rfl) 69 _ _ (by with_unfolding_all rfl) _ [.slice none 0 0, .int .u64 0] [.slice aw m cw, .int .u64 nx] 69 (by with_unfolding_all rfl) (by with_unfolding_all rfl) HB10.out (by with_unfolding_all rfl) (by with_unfolding_all exact Try.size69) (ring_one _ _ _ _) ?_); intro w11 B11 g11 s11; have HB11 := hid B11; have HG11 := hid g11; have HS11 := hid s11; clear B11 g11 s11))
        obtain ⟨b8, hb8⟩ : ∃ x, w9.heap.size = x := ⟨_, rfl⟩
        rw [hb8] at HB11 HG11 HB10 ⊢
        have HS := hid ((gtrans HG9.out HG10.out).andThen HG11.out (fun j hj => .inl (by injection hj with hj; have := HG9.out.size; omega)))
        have HB3d := hid (HB3c.out.keep HS.out)
        have HB6d := hid (HB6c.out.keep HS.out)
        have HB7d := hid (HB7.out.keep HS.out)
        have HB8d := HB11
        have HOrd := hid (HOrc.out.keep HS.out)
        have HOxd := hid (HOxc.out.keep HS.out)
        have HOyd := hid (HOyc.out.keep HS.out)
        have HOwd := hid ((HO9.out.keep HG10.out).on HG11.out (fun j hj e => by injection hj with hj; exact (HO9.out.keep HG10.out).ne_blk HB10.out (by decide) _ e hj.symm))
        have HG11x := hid (gtrans HG7x.out HS.out)
        have HCpd : Hid (∀ u, w11.grownBy u none → Calls Try.prog 18 #[.agg [.slice a n c, .int .u64 nx].toArray] u fun e w' => ∃ v, e = .returned v ∧ u.grownBy w' none ∧ ∃ x y, v = Value.agg [Value.slice x n y, Value.int .u64 nx].toArray ∧ OutK B0 w' (.slice x n y) l) := fun u hu => HCp0.out u (HOrd.out.keep hu) (by have := (gtrans HG11x.out hu).size; have := HB0.out; omega)
        have hW8 : LW.length ≤ 8 := by rw [← HLWe.out]; exact Nat.le_trans (List.length_filter_le _ _) HL8.out
        have HEq : Hid (∀ (u : World) (p q : Value), OutK B0 u p LW → OutK B0 u q LW → Calls Try.prog 21 #[.agg [p, .int .u64 nx].toArray, .agg [q, .int .u64 nx].toArray] u fun e w' => e = .returned (.bool true) ∧ u.grownBy w' none) := fun u p q h1 h2 => by
          have := eqRing_any u p q _ _ LW LW nx nx h1.rd h2.rd (by omega)
          rw [decide_eq_true rfl, decide_eq_true rfl] at this
          exact this
        have HEr : Hid (∀ (u : World) (p q : Value), OutK B0 u p l → OutK B0 u q l → Calls Try.prog 21 #[.agg [p, .int .u64 nx].toArray, .agg [q, .int .u64 nx].toArray] u fun e w' => e = .returned (.bool true) ∧ u.grownBy w' none) := fun u p q h1 h2 => by
          have := eqRing_any u p q _ _ l l nx nx h1.rd h2.rd (by have := HL8.out; omega)
          rw [decide_eq_true rfl, decide_eq_true rfl] at this
          exact this
        clear HB3c HB6c HB7 HB11 HOrc HOxc HOyc HO9 HCpc HG7x HS HG8 HG9 HG10 HG11 HB10 hb8
        refine wp_region_list (by kernel_rfl) [fun v _ => v = (Value.agg [Value.slice a34 m c34, Value.int .u64 nx].toArray), fun v _ => v = (Value.agg [Value.slice a42 m c42, Value.int .u64 nx].toArray), fun v _ => v = (Value.bool true), fun v _ => v = (Value.bool false), fun v _ => v = (Value.bool false), fun v _ => v = (Value.agg [Value.slice a34 m c34, Value.int .u64 nx].toArray), fun v _ => v = (Value.agg [Value.slice aw m cw, Value.int .u64 nx].toArray), fun v _ => v = (Value.bool true), fun v _ => v = (Value.bool false), fun v _ => v = (Value.bool false), fun v _ => v = (Value.bool false), fun v _ => v = (Value.agg [Value.slice a n c, Value.int .u64 nx].toArray), fun v u => ∃ aa cc, v = Value.agg [Value.slice aa n cc, Value.int .u64 nx].toArray ∧ OutK B0 u (.slice aa n cc) l, fun v u => ∃ aa cc, v = Value.agg [Value.slice aa n cc, Value.int .u64 nx].toArray ∧ OutK B0 u (.slice aa n cc) l, fun v _ => v = (Value.agg [Value.slice a n c, Value.int .u64 nx].toArray), fun v _ => v = (Value.bool true), fun v _ => v = (Value.bool false), fun v _ => v = (Value.bool false)] (none) (fun _ => none) 18 (by kernel_rfl) (by kernel_rfl) (by kernel_rfl) (by kernel_rfl) (by decide) noRow_one (fun _ => .inl rfl) ⟨fun i v u u' hki h hg => h, fun i v u u' hki h hg => h, fun i v u u' hki h hg => h, fun i v u u' hki h hg => h, fun i v u u' hki h hg => h, fun i v u u' hki h hg => h, fun i v u u' hki h hg => h, fun i v u u' hki h hg => h, fun i v u u' hki h hg => h, fun i v u u' hki h hg => h, fun i v u u' hki h hg => h, fun i v u u' hki h hg => h, fun i v u u' hki h hg => (by obtain ⟨aa, cc, e, ho⟩ := h; exact ⟨aa, cc, e, ho.keep hg⟩), fun i v u u' hki h hg => (by obtain ⟨aa, cc, e, ho⟩ := h; exact ⟨aa, cc, e, ho.keep hg⟩), fun i v u u' hki h hg => h, fun i v u u' hki h hg => h, fun i v u u' hki h hg => h, fun i v u u' hki h hg => h, trivial⟩ ⟨?_, ?_, ?_, ?_, ?_, ?_, ?_, ?_, ?_, ?_, ?_, ?_, ?_, ?_, ?_, ?_, ?_, ?_, trivial⟩ ?_
        · intro A u hu hpu hsz hout hdeps
          have e6 : A.eval (.tmp 6) = (.pointer (some ⟨b6, 0, none⟩)) := (hout 6 (by kernel_rfl)).trans rfl
          refine ifw_none rfl ?_
          with_reducible refine shown_q (Value.agg [Value.slice a34 m c34, Value.int .u64 nx].toArray) ?qq_3z_0 (fun _ _ => ?qr_3z_0)
          case qr_3z_0 => exact (rfl : (Value.agg [Value.slice a34 m c34, Value.int .u64 nx].toArray) = (Value.agg [Value.slice a34 m c34, Value.int .u64 nx].toArray))
          with_reducible refine quietAt_load 69 (.tmp 6) ?h0_3z_0 b6 0 [Value.slice a34 m c34, Value.int .u64 nx] (.struct (Try.prog.fieldsOf 69)) ?h1_3z_0 ?h2_3z_0 ?h3_3z_0 ?h4_3z_0 ?h5_3z_0
          case h0_3z_0 => rfl
          case h1_3z_0 => exact e6
          case h2_3z_0 => exact (HB6d.out.keep hu).whole
          case h3_3z_0 => exact Try.under69
          case h4_3z_0 => rfl
          case h5_3z_0 => exact Try.size69
        · intro A u hu hpu hsz hout hdeps
          have e7 : A.eval (.tmp 7) = (.pointer (some ⟨b7, 0, none⟩)) := (hout 7 (by kernel_rfl)).trans rfl
          refine ifw_none rfl ?_
          with_reducible refine shown_q (Value.agg [Value.slice a42 m c42, Value.int .u64 nx].toArray) ?qq_3z_1 (fun _ _ => ?qr_3z_1)
          case qr_3z_1 => exact (rfl : (Value.agg [Value.slice a42 m c42, Value.int .u64 nx].toArray) = (Value.agg [Value.slice a42 m c42, Value.int .u64 nx].toArray))
          with_reducible refine quietAt_load 69 (.tmp 7) ?h0_3z_1 b7 0 [Value.slice a42 m c42, Value.int .u64 nx] (.struct (Try.prog.fieldsOf 69)) ?h1_3z_1 ?h2_3z_1 ?h3_3z_1 ?h4_3z_1 ?h5_3z_1
          case h0_3z_1 => rfl
          case h1_3z_1 => exact e7
          case h2_3z_1 => exact (HB7d.out.keep hu).whole
          case h3_3z_1 => exact Try.under69
          case h4_3z_1 => rfl
          case h5_3z_1 => exact Try.size69
        · intro A u hu hpu hsz hout hdeps
          have e47 : A.eval (.tmp 47) = (.agg [.slice a34 m c34, .int .u64 nx].toArray) := by have h := depL hdeps 0 (by kernel_rfl) 47 (by kernel_rfl); exact h
          have e48 : A.eval (.tmp 48) = (.agg [.slice a42 m c42, .int .u64 nx].toArray) := by have h := depL hdeps 1 (by kernel_rfl) 48 (by kernel_rfl); exact h
          refine ifw_none rfl ?_
          with_reducible refine shown_q (Value.bool true) ?qq_3z_2 (fun _ _ => ?qr_3z_2)
          case qr_3z_2 => exact (rfl : (Value.bool true) = (Value.bool true))
          with_reducible refine quietAt_call 21 Try.f21 ?h0_3z_2 ?h1_3z_2 ?h2_3z_2 #[.tmp 47, .tmp 48] #[69, 69] ?h3_3z_2 (Value.bool true) #[(Value.agg [Value.slice a34 m c34, Value.int .u64 nx].toArray), (Value.agg [Value.slice a42 m c42, Value.int .u64 nx].toArray)] ?h4_3z_2 ?h5_3z_2
          case h0_3z_2 => exact Try.func21
          case h1_3z_2 => kernel_rfl
          case h2_3z_2 => kernel_rfl
          case h3_3z_2 => rfl
          case h4_3z_2 => exact map2 _ _ _ _ _ e47 e48
          case h5_3z_2 => exact HEq.out u _ _ (HOxd.out.keep hu) (HOyd.out.keep hu)
        · intro A u hu hpu hsz hout hdeps
          have e49 : A.eval (.tmp 49) = (.bool true) := by have h := depL hdeps 2 (by kernel_rfl) 49 (by kernel_rfl); exact h
          refine ifw_none rfl ?_
          with_reducible refine shown_q (Value.bool false) ?qq_3z_3 (fun _ _ => ?qr_3z_3)
          case qr_3z_3 => exact (rfl : (Value.bool false) = (Value.bool false))
          with_reducible refine quietAt_un .not 4 (.tmp 49) (Value.bool true) (Value.bool false) ?h0_3z_3 ?h1_3z_3 ?h2_3z_3
          case h0_3z_3 => rfl
          case h1_3z_3 => exact e49
          case h2_3z_3 => rfl
        · intro A u hu hpu hsz hout hdeps
          have e50 : A.eval (.tmp 50) = (.bool false) := by have h := depL hdeps 3 (by kernel_rfl) 50 (by kernel_rfl); exact h
          refine ifw_none rfl ?_
          with_reducible refine shown_q (Value.bool false) ?qq_3z_4 (fun _ _ => ?qr_3z_4)
          case qr_3z_4 => exact (rfl : (Value.bool false) = (Value.bool false))
          with_reducible refine quietAt_mv (.tmp 50) (Value.bool false) ?h0_3z_4 ?h1_3z_4
          case h0_3z_4 => rfl
          case h1_3z_4 => exact e50
        · intro A u hu hpu hsz hout hdeps
          have e51 : A.eval (.tmp 51) = (.bool false) := by have h := depL hdeps 4 (by kernel_rfl) 51 (by kernel_rfl); exact h
          have e6 : A.eval (.tmp 6) = (.pointer (some ⟨b6, 0, none⟩)) := (hout 6 (by kernel_rfl)).trans rfl
          refine ifw_want 4 false 51 rfl rfl e51 ?_
          with_reducible refine shown_q (Value.agg [Value.slice a34 m c34, Value.int .u64 nx].toArray) ?qq_3z_5 (fun _ _ => ?qr_3z_5)
          case qr_3z_5 => exact (rfl : (Value.agg [Value.slice a34 m c34, Value.int .u64 nx].toArray) = (Value.agg [Value.slice a34 m c34, Value.int .u64 nx].toArray))
          with_reducible refine quietAt_load 69 (.tmp 6) ?h0_3z_5 b6 0 [Value.slice a34 m c34, Value.int .u64 nx] (.struct (Try.prog.fieldsOf 69)) ?h1_3z_5 ?h2_3z_5 ?h3_3z_5 ?h4_3z_5 ?h5_3z_5
          case h0_3z_5 => rfl
          case h1_3z_5 => exact e6
          case h2_3z_5 => exact (HB6d.out.keep hu).whole
          case h3_3z_5 => exact Try.under69
          case h4_3z_5 => rfl
          case h5_3z_5 => exact Try.size69
        · intro A u hu hpu hsz hout hdeps
          have e51 : A.eval (.tmp 51) = (.bool false) := by have h := depL hdeps 4 (by kernel_rfl) 51 (by kernel_rfl); exact h
          have e8 : A.eval (.tmp 8) = (.pointer (some ⟨b8, 0, none⟩)) := (hout 8 (by kernel_rfl)).trans rfl
          refine ifw_want 4 false 51 rfl rfl e51 ?_
          with_reducible refine shown_q (Value.agg [Value.slice aw m cw, Value.int .u64 nx].toArray) ?qq_3z_6 (fun _ _ => ?qr_3z_6)
          case qr_3z_6 => exact (rfl : (Value.agg [Value.slice aw m cw, Value.int .u64 nx].toArray) = (Value.agg [Value.slice aw m cw, Value.int .u64 nx].toArray))
          with_reducible refine quietAt_load 69 (.tmp 8) ?h0_3z_6 b8 0 [Value.slice aw m cw, Value.int .u64 nx] (.struct (Try.prog.fieldsOf 69)) ?h1_3z_6 ?h2_3z_6 ?h3_3z_6 ?h4_3z_6 ?h5_3z_6
          case h0_3z_6 => rfl
          case h1_3z_6 => exact e8
          case h2_3z_6 => exact (HB8d.out.keep hu).whole
          case h3_3z_6 => exact Try.under69
          case h4_3z_6 => rfl
          case h5_3z_6 => exact Try.size69
        · intro A u hu hpu hsz hout hdeps
          have e51 : A.eval (.tmp 51) = (.bool false) := by have h := depL hdeps 4 (by kernel_rfl) 51 (by kernel_rfl); exact h
          have e52 : A.eval (.tmp 52) = (.agg [.slice a34 m c34, .int .u64 nx].toArray) := by have h := depL hdeps 5 (by kernel_rfl) 52 (by kernel_rfl); exact h
          have e53 : A.eval (.tmp 53) = (.agg [.slice aw m cw, .int .u64 nx].toArray) := by have h := depL hdeps 6 (by kernel_rfl) 53 (by kernel_rfl); exact h
          refine ifw_want 4 false 51 rfl rfl e51 ?_
          with_reducible refine shown_q (Value.bool true) ?qq_3z_7 (fun _ _ => ?qr_3z_7)
          case qr_3z_7 => exact (rfl : (Value.bool true) = (Value.bool true))
          with_reducible refine quietAt_call 21 Try.f21 ?h0_3z_7 ?h1_3z_7 ?h2_3z_7 #[.tmp 52, .tmp 53] #[69, 69] ?h3_3z_7 (Value.bool true) #[(Value.agg [Value.slice a34 m c34, Value.int .u64 nx].toArray), (Value.agg [Value.slice aw m cw, Value.int .u64 nx].toArray)] ?h4_3z_7 ?h5_3z_7
          case h0_3z_7 => exact Try.func21
          case h1_3z_7 => kernel_rfl
          case h2_3z_7 => kernel_rfl
          case h3_3z_7 => rfl
          case h4_3z_7 => exact map2 _ _ _ _ _ e52 e53
          case h5_3z_7 => exact HEq.out u _ _ (HOxd.out.keep hu) (HOwd.out.keep hu)
        · intro A u hu hpu hsz hout hdeps
          have e51 : A.eval (.tmp 51) = (.bool false) := by have h := depL hdeps 4 (by kernel_rfl) 51 (by kernel_rfl); exact h
          have e54 : A.eval (.tmp 54) = (.bool true) := by have h := depL hdeps 7 (by kernel_rfl) 54 (by kernel_rfl); exact h
          refine ifw_want 4 false 51 rfl rfl e51 ?_
          with_reducible refine shown_q (Value.bool false) ?qq_3z_8 (fun _ _ => ?qr_3z_8)
          case qr_3z_8 => exact (rfl : (Value.bool false) = (Value.bool false))
          with_reducible refine quietAt_un .not 4 (.tmp 54) (Value.bool true) (Value.bool false) ?h0_3z_8 ?h1_3z_8 ?h2_3z_8
          case h0_3z_8 => rfl
          case h1_3z_8 => exact e54
          case h2_3z_8 => rfl
        · intro A u hu hpu hsz hout hdeps
          have e51 : A.eval (.tmp 51) = (.bool false) := by have h := depL hdeps 4 (by kernel_rfl) 51 (by kernel_rfl); exact h
          have e55 : A.eval (.tmp 55) = (.bool false) := by have h := depL hdeps 8 (by kernel_rfl) 55 (by kernel_rfl); exact h
          refine ifw_none rfl ?_
          with_reducible refine shown_q (Value.bool false) ?qq_3z_9 (fun _ _ => ?qr_3z_9)
          case qr_3z_9 => exact (rfl : (Value.bool false) = (Value.bool false))
          with_reducible refine quietAt_pick (.tmp 51) (.const (.bool true)) (.tmp 55) false (Value.bool false) ?h0_3z_9 ?h1_3z_9 ?h2_3z_9
          case h0_3z_9 => rfl
          case h1_3z_9 => exact e51
          case h2_3z_9 => rw [if_neg (by decide)]; exact e55
        · intro A u hu hpu hsz hout hdeps
          have e56 : A.eval (.tmp 56) = (.bool false) := by have h := depL hdeps 9 (by kernel_rfl) 56 (by kernel_rfl); exact h
          refine ifw_none rfl ?_
          with_reducible refine shown_q (Value.bool false) ?qq_3z_10 (fun _ _ => ?qr_3z_10)
          case qr_3z_10 => exact (rfl : (Value.bool false) = (Value.bool false))
          with_reducible refine quietAt_mv (.tmp 56) (Value.bool false) ?h0_3z_10 ?h1_3z_10
          case h0_3z_10 => rfl
          case h1_3z_10 => exact e56
        · intro A u hu hpu hsz hout hdeps
          have e57 : A.eval (.tmp 57) = (.bool false) := by have h := depL hdeps 10 (by kernel_rfl) 57 (by kernel_rfl); exact h
          have e3 : A.eval (.tmp 3) = (.pointer (some ⟨b3, 0, none⟩)) := (hout 3 (by kernel_rfl)).trans rfl
          refine ifw_want 10 false 57 rfl rfl e57 ?_
          with_reducible refine shown_q (Value.agg [Value.slice a n c, Value.int .u64 nx].toArray) ?qq_3z_11 (fun _ _ => ?qr_3z_11)
          case qr_3z_11 => exact (rfl : (Value.agg [Value.slice a n c, Value.int .u64 nx].toArray) = (Value.agg [Value.slice a n c, Value.int .u64 nx].toArray))
          with_reducible refine quietAt_load 69 (.tmp 3) ?h0_3z_11 b3 0 [Value.slice a n c, Value.int .u64 nx] (.struct (Try.prog.fieldsOf 69)) ?h1_3z_11 ?h2_3z_11 ?h3_3z_11 ?h4_3z_11 ?h5_3z_11
          case h0_3z_11 => rfl
          case h1_3z_11 => exact e3
          case h2_3z_11 => exact (HB3d.out.keep hu).whole
          case h3_3z_11 => exact Try.under69
          case h4_3z_11 => rfl
          case h5_3z_11 => exact Try.size69
        · intro A u hu hpu hsz hout hdeps
          have e57 : A.eval (.tmp 57) = (.bool false) := by have h := depL hdeps 10 (by kernel_rfl) 57 (by kernel_rfl); exact h
          have e58 : A.eval (.tmp 58) = (.agg [.slice a n c, .int .u64 nx].toArray) := by have h := depL hdeps 11 (by kernel_rfl) 58 (by kernel_rfl); exact h
          refine ifw_want 10 false 57 rfl rfl e57 ?_
          with_reducible refine shown_call 18 Try.f18 ?h0_3z_12 ?h1_3z_12 ?h2_3z_12 #[.tmp 58] #[69] ?h3_3z_12 #[(Value.agg [Value.slice a n c, Value.int .u64 nx].toArray)] ?h4_3z_12 ?h5_3z_12
          case h0_3z_12 => exact Try.func18
          case h1_3z_12 => kernel_rfl
          case h2_3z_12 => kernel_rfl
          case h3_3z_12 => rfl
          case h4_3z_12 => exact map1 _ _ _ e58
          case h5_3z_12 => exact HCpd.out u hu
        · intro A u hu hpu hsz hout hdeps
          have e57 : A.eval (.tmp 57) = (.bool false) := by have h := depL hdeps 10 (by kernel_rfl) 57 (by kernel_rfl); exact h
          have f59 : (fun v u => ∃ aa cc, v = Value.agg [Value.slice aa n cc, Value.int .u64 nx].toArray ∧ OutK B0 u (.slice aa n cc) l) (A.eval (.tmp 59)) u := by have h := depL hdeps 12 (by kernel_rfl) 59 (by kernel_rfl); exact h
          obtain ⟨a59, c59, e59, o59⟩ := f59
          refine ifw_want 10 false 57 rfl rfl e57 ?_
          with_reducible refine shown_call 14 Try.f14 ?h0_3z_13 ?h1_3z_13 ?h2_3z_13 #[.tmp 59, .const (.int .i64 0)] #[69, 2] ?h3_3z_13 #[(Value.agg [Value.slice a59 n c59, Value.int .u64 nx].toArray), (Value.int .i64 0)] ?h4_3z_13 ?h5_3z_13
          case h0_3z_13 => exact Try.func14
          case h1_3z_13 => kernel_rfl
          case h2_3z_13 => kernel_rfl
          case h3_3z_13 => rfl
          case h4_3z_13 => exact map2 _ _ _ _ _ e59 rfl
          case h5_3z_13 => exact HP0.out u _ _ o59 (by have := (gtrans HG11x.out hu).size; have := HB0.out; omega)
        · intro A u hu hpu hsz hout hdeps
          have e57 : A.eval (.tmp 57) = (.bool false) := by have h := depL hdeps 10 (by kernel_rfl) 57 (by kernel_rfl); exact h
          have e3 : A.eval (.tmp 3) = (.pointer (some ⟨b3, 0, none⟩)) := (hout 3 (by kernel_rfl)).trans rfl
          refine ifw_want 10 false 57 rfl rfl e57 ?_
          with_reducible refine shown_q (Value.agg [Value.slice a n c, Value.int .u64 nx].toArray) ?qq_3z_14 (fun _ _ => ?qr_3z_14)
          case qr_3z_14 => exact (rfl : (Value.agg [Value.slice a n c, Value.int .u64 nx].toArray) = (Value.agg [Value.slice a n c, Value.int .u64 nx].toArray))
          with_reducible refine quietAt_load 69 (.tmp 3) ?h0_3z_14 b3 0 [Value.slice a n c, Value.int .u64 nx] (.struct (Try.prog.fieldsOf 69)) ?h1_3z_14 ?h2_3z_14 ?h3_3z_14 ?h4_3z_14 ?h5_3z_14
          case h0_3z_14 => rfl
          case h1_3z_14 => exact e3
          case h2_3z_14 => exact (HB3d.out.keep hu).whole
          case h3_3z_14 => exact Try.under69
          case h4_3z_14 => rfl
          case h5_3z_14 => exact Try.size69
        · intro A u hu hpu hsz hout hdeps
          have e57 : A.eval (.tmp 57) = (.bool false) := by have h := depL hdeps 10 (by kernel_rfl) 57 (by kernel_rfl); exact h
          have f60 : (fun v u => ∃ aa cc, v = Value.agg [Value.slice aa n cc, Value.int .u64 nx].toArray ∧ OutK B0 u (.slice aa n cc) l) (A.eval (.tmp 60)) u := by have h := depL hdeps 13 (by kernel_rfl) 60 (by kernel_rfl); exact h
          obtain ⟨a60, c60, e60, o60⟩ := f60
          have e61 : A.eval (.tmp 61) = (.agg [.slice a n c, .int .u64 nx].toArray) := by have h := depL hdeps 14 (by kernel_rfl) 61 (by kernel_rfl); exact h
          refine ifw_want 10 false 57 rfl rfl e57 ?_
          with_reducible refine shown_q (Value.bool true) ?qq_3z_15 (fun _ _ => ?qr_3z_15)
          case qr_3z_15 => exact (rfl : (Value.bool true) = (Value.bool true))
          with_reducible refine quietAt_call 21 Try.f21 ?h0_3z_15 ?h1_3z_15 ?h2_3z_15 #[.tmp 60, .tmp 61] #[69, 69] ?h3_3z_15 (Value.bool true) #[(Value.agg [Value.slice a60 n c60, Value.int .u64 nx].toArray), (Value.agg [Value.slice a n c, Value.int .u64 nx].toArray)] ?h4_3z_15 ?h5_3z_15
          case h0_3z_15 => exact Try.func21
          case h1_3z_15 => kernel_rfl
          case h2_3z_15 => kernel_rfl
          case h3_3z_15 => rfl
          case h4_3z_15 => exact map2 _ _ _ _ _ e60 e61
          case h5_3z_15 => exact HEr.out u _ _ o60 (HOrd.out.keep hu)
        · intro A u hu hpu hsz hout hdeps
          have e57 : A.eval (.tmp 57) = (.bool false) := by have h := depL hdeps 10 (by kernel_rfl) 57 (by kernel_rfl); exact h
          have e62 : A.eval (.tmp 62) = (.bool true) := by have h := depL hdeps 15 (by kernel_rfl) 62 (by kernel_rfl); exact h
          refine ifw_want 10 false 57 rfl rfl e57 ?_
          with_reducible refine shown_q (Value.bool false) ?qq_3z_16 (fun _ _ => ?qr_3z_16)
          case qr_3z_16 => exact (rfl : (Value.bool false) = (Value.bool false))
          with_reducible refine quietAt_un .not 4 (.tmp 62) (Value.bool true) (Value.bool false) ?h0_3z_16 ?h1_3z_16 ?h2_3z_16
          case h0_3z_16 => rfl
          case h1_3z_16 => exact e62
          case h2_3z_16 => rfl
        · intro A u hu hpu hsz hout hdeps
          have e57 : A.eval (.tmp 57) = (.bool false) := by have h := depL hdeps 10 (by kernel_rfl) 57 (by kernel_rfl); exact h
          have e63 : A.eval (.tmp 63) = (.bool false) := by have h := depL hdeps 16 (by kernel_rfl) 63 (by kernel_rfl); exact h
          refine ifw_none rfl ?_
          with_reducible refine shown_q (Value.bool false) ?qq_3z_17 (fun _ _ => ?qr_3z_17)
          case qr_3z_17 => exact (rfl : (Value.bool false) = (Value.bool false))
          with_reducible refine quietAt_pick (.tmp 57) (.const (.bool true)) (.tmp 63) false (Value.bool false) ?h0_3z_17 ?h1_3z_17 ?h2_3z_17
          case h0_3z_17 => rfl
          case h1_3z_17 => exact e57
          case h2_3z_17 => rw [if_neg (by decide)]; exact e63
        · intro A u12 listed hh hall
          have hA := hh.frame
          have HU := hid hh.grown
          obtain ⟨x47, hx47⟩ : ∃ x, A.eval (.tmp 47) = x := ⟨_, rfl⟩
          have f47 : (fun v _ => v = (Value.agg [Value.slice a34 m c34, Value.int .u64 nx].toArray)) x47 u12 := by rw [← hx47]; exact hh.got 0 _ 47 rfl rfl (hall 0 (by decide))
          obtain ⟨x48, hx48⟩ : ∃ x, A.eval (.tmp 48) = x := ⟨_, rfl⟩
          have f48 : (fun v _ => v = (Value.agg [Value.slice a42 m c42, Value.int .u64 nx].toArray)) x48 u12 := by rw [← hx48]; exact hh.got 1 _ 48 rfl rfl (hall 1 (by decide))
          obtain ⟨x49, hx49⟩ : ∃ x, A.eval (.tmp 49) = x := ⟨_, rfl⟩
          have f49 : (fun v _ => v = (Value.bool true)) x49 u12 := by rw [← hx49]; exact hh.got 2 _ 49 rfl rfl (hall 2 (by decide))
          obtain ⟨x50, hx50⟩ : ∃ x, A.eval (.tmp 50) = x := ⟨_, rfl⟩
          have f50 : (fun v _ => v = (Value.bool false)) x50 u12 := by rw [← hx50]; exact hh.got 3 _ 50 rfl rfl (hall 3 (by decide))
          obtain ⟨x51, hx51⟩ : ∃ x, A.eval (.tmp 51) = x := ⟨_, rfl⟩
          have f51 : (fun v _ => v = (Value.bool false)) x51 u12 := by rw [← hx51]; exact hh.got 4 _ 51 rfl rfl (hall 4 (by decide))
          obtain ⟨x52, hx52⟩ : ∃ x, A.eval (.tmp 52) = x := ⟨_, rfl⟩
          have f52 : (fun v _ => v = (Value.agg [Value.slice a34 m c34, Value.int .u64 nx].toArray)) x52 u12 := by rw [← hx52]; exact hh.got 5 _ 52 rfl rfl (hall 5 (by decide))
          obtain ⟨x53, hx53⟩ : ∃ x, A.eval (.tmp 53) = x := ⟨_, rfl⟩
          have f53 : (fun v _ => v = (Value.agg [Value.slice aw m cw, Value.int .u64 nx].toArray)) x53 u12 := by rw [← hx53]; exact hh.got 6 _ 53 rfl rfl (hall 6 (by decide))
          obtain ⟨x54, hx54⟩ : ∃ x, A.eval (.tmp 54) = x := ⟨_, rfl⟩
          have f54 : (fun v _ => v = (Value.bool true)) x54 u12 := by rw [← hx54]; exact hh.got 7 _ 54 rfl rfl (hall 7 (by decide))
          obtain ⟨x55, hx55⟩ : ∃ x, A.eval (.tmp 55) = x := ⟨_, rfl⟩
          have f55 : (fun v _ => v = (Value.bool false)) x55 u12 := by rw [← hx55]; exact hh.got 8 _ 55 rfl rfl (hall 8 (by decide))
          obtain ⟨x56, hx56⟩ : ∃ x, A.eval (.tmp 56) = x := ⟨_, rfl⟩
          have f56 : (fun v _ => v = (Value.bool false)) x56 u12 := by rw [← hx56]; exact hh.got 9 _ 56 rfl rfl (hall 9 (by decide))
          obtain ⟨x57, hx57⟩ : ∃ x, A.eval (.tmp 57) = x := ⟨_, rfl⟩
          have f57 : (fun v _ => v = (Value.bool false)) x57 u12 := by rw [← hx57]; exact hh.got 10 _ 57 rfl rfl (hall 10 (by decide))
          obtain ⟨x58, hx58⟩ : ∃ x, A.eval (.tmp 58) = x := ⟨_, rfl⟩
          have f58 : (fun v _ => v = (Value.agg [Value.slice a n c, Value.int .u64 nx].toArray)) x58 u12 := by rw [← hx58]; exact hh.got 11 _ 58 rfl rfl (hall 11 (by decide))
          obtain ⟨x59, hx59⟩ : ∃ x, A.eval (.tmp 59) = x := ⟨_, rfl⟩
          have f59 : (fun v u => ∃ aa cc, v = Value.agg [Value.slice aa n cc, Value.int .u64 nx].toArray ∧ OutK B0 u (.slice aa n cc) l) x59 u12 := by rw [← hx59]; exact hh.got 12 _ 59 rfl rfl (hall 12 (by decide))
          obtain ⟨x60, hx60⟩ : ∃ x, A.eval (.tmp 60) = x := ⟨_, rfl⟩
          have f60 : (fun v u => ∃ aa cc, v = Value.agg [Value.slice aa n cc, Value.int .u64 nx].toArray ∧ OutK B0 u (.slice aa n cc) l) x60 u12 := by rw [← hx60]; exact hh.got 13 _ 60 rfl rfl (hall 13 (by decide))
          obtain ⟨x61, hx61⟩ : ∃ x, A.eval (.tmp 61) = x := ⟨_, rfl⟩
          have f61 : (fun v _ => v = (Value.agg [Value.slice a n c, Value.int .u64 nx].toArray)) x61 u12 := by rw [← hx61]; exact hh.got 14 _ 61 rfl rfl (hall 14 (by decide))
          obtain ⟨x62, hx62⟩ : ∃ x, A.eval (.tmp 62) = x := ⟨_, rfl⟩
          have f62 : (fun v _ => v = (Value.bool true)) x62 u12 := by rw [← hx62]; exact hh.got 15 _ 62 rfl rfl (hall 15 (by decide))
          obtain ⟨x63, hx63⟩ : ∃ x, A.eval (.tmp 63) = x := ⟨_, rfl⟩
          have f63 : (fun v _ => v = (Value.bool false)) x63 u12 := by rw [← hx63]; exact hh.got 16 _ 63 rfl rfl (hall 16 (by decide))
          obtain ⟨x64, hx64⟩ : ∃ x, A.eval (.tmp 64) = x := ⟨_, rfl⟩
          have f64 : (fun v _ => v = (Value.bool false)) x64 u12 := by rw [← hx64]; exact hh.got 17 _ 64 rfl rfl (hall 17 (by decide))
          dsimp only [wrote, List.foldl] at hA
          rw [hx47, hx48, hx49, hx50, hx51, hx52, hx53, hx54, hx55, hx56, hx57, hx58, hx59, hx60, hx61, hx62, hx63, hx64] at hA
          clear hh hall hx47 hx48 hx49 hx50 hx51 hx52 hx53 hx54 hx55 hx56 hx57 hx58 hx59 hx60 hx61 hx62 hx63 hx64
          replace f47 := (f47 : x47 = (.agg [.slice a34 m c34, .int .u64 nx].toArray))
          subst f47
          replace f48 := (f48 : x48 = (.agg [.slice a42 m c42, .int .u64 nx].toArray))
          subst f48
          replace f49 := (f49 : x49 = (.bool true))
          subst f49
          replace f50 := (f50 : x50 = (.bool false))
          subst f50
          replace f51 := (f51 : x51 = (.bool false))
          subst f51
          replace f52 := (f52 : x52 = (.agg [.slice a34 m c34, .int .u64 nx].toArray))
          subst f52
          replace f53 := (f53 : x53 = (.agg [.slice aw m cw, .int .u64 nx].toArray))
          subst f53
          replace f54 := (f54 : x54 = (.bool true))
          subst f54
          replace f55 := (f55 : x55 = (.bool false))
          subst f55
          replace f56 := (f56 : x56 = (.bool false))
          subst f56
          replace f57 := (f57 : x57 = (.bool false))
          subst f57
          replace f58 := (f58 : x58 = (.agg [.slice a n c, .int .u64 nx].toArray))
          subst f58
          obtain ⟨a59, c59, e59, o59⟩ := f59
          subst e59
          obtain ⟨a60, c60, e60, o60⟩ := f60
          subst e60
          replace f61 := (f61 : x61 = (.agg [.slice a n c, .int .u64 nx].toArray))
          subst f61
          replace f62 := (f62 : x62 = (.bool true))
          subst f62
          replace f63 := (f63 : x63 = (.bool false))
          subst f63
          replace f64 := (f64 : x64 = (.bool false))
          subst f64
          subst hA
          show wpList _ _ _ [] _ _
          unfold wpList
          simp only [Act.put, List.setIfInBounds_toArray, List.set_cons_succ, List.set_cons_zero]
          have HG12 := hid (gtrans HG11x.out HU.out)
          have HB3e0 := hid (HB3d.out.keep HU.out)
          have HB8e0 := hid (HB8d.out.keep HU.out)
          have HOre := hid (HOrd.out.keep HU.out)
          have HOwe := hid (HOwd.out.keep HU.out)
          clear HB3d HB6d HB7d HB8d HOrd HOxd HOyd HOwd HCpd HU o59 o60 HCp0 HPa HPb HPl HP0 HPab HPba HEq HEr
          obtain ⟨hok, ar, gr, orr, cr, her, -, Har, Hcr⟩ := HOre.out.rd.open
          obtain ⟨hokw, aw', gw, ow, cw', hew, -, Haw, Hcw⟩ := HOwe.out.rd.open
          injection her with er1 er2 er3
          injection hew with ew1 ew2 ew3
          subst er1 er3 ew1 ew3
          obtain ⟨ri, hrg⟩ := isRing_rg HRi.out
          have hlpos : 0 < l.length := (goodL_pos (isRing_good HRi.out).1).1
          have hwpos : 0 < LW.length := by
            rw [← HLWe.out]
            exact (goodL_pos (isRing_good (prn_ring At HRi.out).2).1).1
          obtain ⟨rfl, -⟩ := Har.out hlpos
          obtain ⟨rfl, -⟩ := Haw.out hwpos
          have HTil : Hid (∀ x ∈ l, 0 ≤ x.til) := hid (fun x hx => by
            rw [hrg.eq] at hx
            rcases List.mem_append.1 hx with h | h
            · have := hrg.tils x h; omega
            · rw [List.mem_singleton.1 h, hrg.til0]; exact Int.le_refl _)
          have HKp : Hid (∀ (i : Nat) (hi : i < l.length), (!goesP At l[i]) = true → LW[((l.take i).filter (fun k => !goesP At k)).length]? = some l[i]) := hid (fun i hi h => by rw [← HLWe.out]; exact filter_at _ l i hi h)
          have HSu : Hid (∀ (i : Nat) (hi : i < l.length), ((l.take (i + 1)).filter (fun k => !goesP At k)).length = ((l.take i).filter (fun k => !goesP At k)).length + (if (!goesP At l[i]) = true then 1 else 0)) := hid (fun i hi => filter_take_succ _ l i hi)
          have HEnd : Hid (((l.take n).filter (fun k => !goesP At k)).length = m) := hid (by rw [← HNW.out, ← HLWe.out, List.take_of_length_le (by rw [HN.out]; exact Nat.le_refl _)])
          have HN8 : Hid (n ≤ 8) := hid (by have := HL8.out; have := HN.out; omega)
          obtain ⟨kk, HKK⟩ : ∃ f : Nat → Nat, Hid (∀ i, ((l.take i).filter (fun k => !goesP At k)).length = f i) := ⟨_, hid (fun _ => rfl)⟩
          have HKp2 : Hid (∀ (i : Nat) (hi : i < l.length), (!goesP At l[i]) = true → LW[kk i]? = some l[i]) := hid (fun i hi h => by rw [← HKK.out i]; exact HKp.out i hi h)
          have HSu2 : Hid (∀ (i : Nat) (hi : i < l.length), kk (i + 1) = kk i + (if (!goesP At l[i]) = true then 1 else 0)) := hid (fun i hi => by rw [← HKK.out i, ← HKK.out (i + 1)]; exact HSu.out i hi)
          have HEnd2 : Hid (kk n = m) := hid (by rw [← HKK.out n]; exact HEnd.out)
          have HKK0 : Hid (kk 0 = 0) := hid (by rw [← HKK.out 0]; rfl)
          have HKle : Hid (∀ i, kk i ≤ 8) := hid (fun i => by
            rw [← HKK.out i]
            refine Nat.le_trans (List.length_filter_le _ _) ?_
            rw [List.length_take]
            have := HL8.out
            omega)
          clear HKp HSu HEnd HKK hrg Har Haw
          go_wp2_with fail
          go_loopw [9, 10] (fun kv iv wr => ∃ i : Nat, iv = .int .i64 i ∧ kv = .int .i64 (kk i : Nat) ∧ i ≤ n ∧ Hid (u12.grownBy wr none)) (fun _ iv _ => n - (intOf iv).toNat)
          case atStart => exact ⟨0, rfl, by rw [HKK0.out]; rfl, Nat.zero_le _, hid (grefl _ _)⟩
          case round =>
            obtain ⟨i, rfl, rfl, hin, HG⟩ := hrel
            have HB3e := hid (HB3e0.out.keep HG.out)
            have HB8e := hid (HB8e0.out.keep HG.out)
            have y0 := HB3e.out.cell 0
            have y1 := HB3e.out.cell 1
            have z0 := HB8e.out.cell 0
            have z1 := HB8e.out.cell 1
            by_cases hlt : i < n
            · have hil : i < l.length := by rw [HN.out]; exact hlt
              have hlt' : (i : Int) < (n : Int) := by omega
              have hi := hlt
              have hi8 : i < 8 := by have := HN8.out; omega
              obtain ⟨hr, hgb⟩ := Hcr.out wr HG.out i hil
              have hko := hok _ (List.getElem_mem hil)
              have htil := HTil.out _ (List.getElem_mem hil)
              have q33 : wr.cell? ⟨gr, orr + i * 34 + 33, none⟩ = some (.int .i64 l[i].til) := hr 33 _ (Ky.c33 hko.2.1)
              have HRr : Hid (∀ u, wr.grownBy u none → u.rangeAt gr (orr + i * 34) l[i].cells) := hid (fun u hu => (Hcr.out u (gtrans HG.out hu) i hil).1)
              have hsu := HSu2.out i hil
              have hkp := HKp2.out i hil
              have HKL : Hid (l[i].cells.length = 34) := hid (Ky.cells_length hko.2.1)
              have HNe : Hid (∀ (x y : Operand) (u : World), (do eqGuard .neq 107 x y (.agg l[i].cells.toArray) (.agg l[i].cells.toArray); binOp .neq 107 (.agg l[i].cells.toArray) (.agg l[i].cells.toArray) : Sem Value).run Try.prog u = .ok (.bool false) u) := fun x y u => by rw [neq_key hko.2.1 hko.2.1]; simp
              have hgk : (!goesP At l[i]) = !(decide (0 < l[i].til) && decide (l[i].til ≤ At)) := rfl
              obtain ⟨K, HK⟩ : ∃ x, Hid (l[i] = x) := ⟨_, hid rfl⟩
              rw [HK.out] at hr htil q33 HRr hsu hkp HKL HNe hgk hko
              obtain ⟨k, HKi⟩ : ∃ x, Hid (kk i = x) := ⟨_, hid rfl⟩
              rw [HKi.out] at hsu hkp ⊢
              have HK8 : Hid (k ≤ 8) := hid (by rw [← HKi.out]; exact HKle.out i)
              have hk8 := HK8.out
              obtain ⟨til, HTl⟩ : ∃ x, Hid (K.til = x) := ⟨_, hid rfl⟩
              rw [HTl.out] at htil q33 hgk
              have HSu3 := hid hsu
              have HKp3 := hid hkp
              have HGk := hid hgk
              clear hr hsu hkp hgk hko HK
              by_cases hg : 0 < til ∧ til ≤ At
              · have h0 : (til == 0) = false := beq_eq_false_iff_ne.2 (by omega)
                have h1 : ¬ At < til := by omega
                have HSn : Hid (kk (i + 1) = k) := hid (by rw [HSu3.out, HGk.out, decide_eq_true hg.1, decide_eq_true hg.2]; rfl)
                clear hg
                go_wp2_with fail
                go_roundw
                case rel => exact ⟨i + 1, by go_num, by rw [HSn.out], by omega, HG⟩
                case measure => simp [intOf]; omega
              · have hkeep : (!goesP At K) = true := by
                  rw [HGk.out]
                  simp only [Bool.not_eq_true', Bool.and_eq_false_iff, decide_eq_false_iff_not]
                  omega
                have hat := HKp3.out hkeep
                have HSn : Hid (kk (i + 1) = k + 1) := hid (by rw [HSu3.out, if_pos hkeep])
                have hkm : k < LW.length := (List.getElem?_eq_some_iff.1 hat).1
                have hLk : LW[k] = K := (List.getElem?_eq_some_iff.1 hat).2
                have HRw : Hid (∀ u, wr.grownBy u none → u.rangeAt gw (ow + k * 34) K.cells) := hid (fun u hu => by rw [← hLk]; exact (Hcw.out u (gtrans HG.out hu) k hkm).1)
                have HKm : Hid (k < m) := hid (by rw [← HNW.out]; exact hkm)
                have HGe : Hid (∀ (x y : Operand) (u : World), (do eqGuard .geq 3 x y (.int .i64 (k : Nat)) (.int .i64 (m : Nat)); binOp .geq 3 (.int .i64 (k : Nat)) (.int .i64 (m : Nat)) : Sem Value).run Try.prog u = .ok (.bool false) u) := fun x y u => geq_no k m HKm.out u
                clear hkeep hat hkm hLk
                by_cases h0 : til = 0
                · have h0' : (til == 0) = true := by rw [beq_iff_eq]; exact h0
                  clear hg h0
                  go_wp2_with fail
                  refine wp_region_list (by kernel_rfl) [fun v _ => v = (Value.int .i64 (k : Nat)), fun v _ => v = (Value.pointer (some ⟨b8, 0, none⟩)), fun v _ => v = (Value.slice (some ⟨gw, ow, none⟩) m cw), fun v _ => v = (Value.int .i64 (m : Nat)), fun v _ => v = (Value.bool false), fun v _ => v = (Value.bool false), fun v _ => v = (Value.pointer (some ⟨b8, 0, none⟩)), fun v _ => v = (Value.slice (some ⟨gw, ow, none⟩) m cw), fun v _ => v = (Value.int .i64 (k : Nat)), fun v _ => v = (Value.pointer (some ⟨gw, ow + k * 34, none⟩)), fun v _ => v = (Value.agg K.cells.toArray), fun v _ => v = (Value.pointer (some ⟨b3, 0, none⟩)), fun v _ => v = (Value.slice (some ⟨gr, orr, none⟩) n c), fun v _ => v = (Value.int .i64 (i : Nat)), fun v _ => v = (Value.pointer (some ⟨gr, orr + i * 34, none⟩)), fun v _ => v = (Value.agg K.cells.toArray), fun v _ => v = (Value.bool false), fun v _ => v = (Value.bool false)] (none) (fun _ => none) 18 (by kernel_rfl) (by kernel_rfl) (by kernel_rfl) (by kernel_rfl) (by decide) noRow_one (fun _ => .inl rfl) ⟨fun i v u u' hki h hg => h, fun i v u u' hki h hg => h, fun i v u u' hki h hg => h, fun i v u u' hki h hg => h, fun i v u u' hki h hg => h, fun i v u u' hki h hg => h, fun i v u u' hki h hg => h, fun i v u u' hki h hg => h, fun i v u u' hki h hg => h, fun i v u u' hki h hg => h, fun i v u u' hki h hg => h, fun i v u u' hki h hg => h, fun i v u u' hki h hg => h, fun i v u u' hki h hg => h, fun i v u u' hki h hg => h, fun i v u u' hki h hg => h, fun i v u u' hki h hg => h, fun i v u u' hki h hg => h, trivial⟩ ⟨?_, ?_, ?_, ?_, ?_, ?_, ?_, ?_, ?_, ?_, ?_, ?_, ?_, ?_, ?_, ?_, ?_, ?_, trivial⟩ ?_
                  · intro A u hu hpu hsz hout hdeps
                    have e9 : A.eval (.tmp 9) = (.int .i64 (k : Nat)) := (hout 9 (by kernel_rfl)).trans rfl
                    refine ifw_none rfl ?_
                    with_reducible refine shown_q (Value.int .i64 (k : Nat)) ?qq_4z_0 (fun _ _ => ?qr_4z_0)
                    case qr_4z_0 => exact (rfl : (Value.int .i64 (k : Nat)) = (Value.int .i64 (k : Nat)))
                    with_reducible refine quietAt_mv (.tmp 9) (Value.int .i64 (k : Nat)) ?h0_4z_0 ?h1_4z_0
                    case h0_4z_0 => rfl
                    case h1_4z_0 => exact e9
                  · intro A u hu hpu hsz hout hdeps
                    have e8 : A.eval (.tmp 8) = (.pointer (some ⟨b8, 0, none⟩)) := (hout 8 (by kernel_rfl)).trans rfl
                    refine ifw_none rfl ?_
                    with_reducible refine shown_q (Value.pointer (some ⟨b8, 0, none⟩)) ?qq_4z_1 (fun _ _ => ?qr_4z_1)
                    case qr_4z_1 => exact (rfl : (Value.pointer (some ⟨b8, 0, none⟩)) = (Value.pointer (some ⟨b8, 0, none⟩)))
                    with_reducible refine quietAt_field 69 (.tmp 8) 0 ?h0_4z_1 ⟨b8, 0, none⟩ ⟨b8, 0, none⟩ ?h1_4z_1 ?h2_4z_1
                    case h0_4z_1 => rfl
                    case h1_4z_1 => exact e8
                    case h2_4z_1 => kernel_rfl
                  · intro A u hu hpu hsz hout hdeps
                    have e90 : A.eval (.tmp 90) = (.pointer (some ⟨b8, 0, none⟩)) := by have h := depL hdeps 1 (by kernel_rfl) 90 (by kernel_rfl); exact h
                    refine ifw_none rfl ?_
                    with_reducible refine shown_q (Value.slice (some ⟨gw, ow, none⟩) m cw) ?qq_4z_2 (fun _ _ => ?qr_4z_2)
                    case qr_4z_2 => exact (rfl : (Value.slice (some ⟨gw, ow, none⟩) m cw) = (Value.slice (some ⟨gw, ow, none⟩) m cw))
                    with_reducible refine quietAt_ld 55 (.tmp 90) (Value.pointer (some ⟨b8, 0, none⟩)) (Value.slice (some ⟨gw, ow, none⟩) m cw) ?h0_4z_2 ?h1_4z_2 ?h2_4z_2
                    case h0_4z_2 => rfl
                    case h1_4z_2 => exact e90
                    case h2_4z_2 => exact ld55 b8 0 m cw _ u ((HB8e.out.keep hu).cell 0)
                  · intro A u hu hpu hsz hout hdeps
                    have e91 : A.eval (.tmp 91) = (.slice (some ⟨gw, ow, none⟩) m cw) := by have h := depL hdeps 2 (by kernel_rfl) 91 (by kernel_rfl); exact h
                    refine ifw_none rfl ?_
                    with_reducible refine shown_q (Value.int .i64 (m : Nat)) ?qq_4z_3 (fun _ _ => ?qr_4z_3)
                    case qr_4z_3 => exact (rfl : (Value.int .i64 (m : Nat)) = (Value.int .i64 (m : Nat)))
                    with_reducible refine quietAt_len (.tmp 91) 55 ?h0_4z_3 (some ⟨gw, ow, none⟩) m cw ?h1_4z_3 ?h2_4z_3
                    case h0_4z_3 => rfl
                    case h1_4z_3 => exact e91
                    case h2_4z_3 => kernel_rfl
                  · intro A u hu hpu hsz hout hdeps
                    have e89 : A.eval (.tmp 89) = (.int .i64 (k : Nat)) := by have h := depL hdeps 0 (by kernel_rfl) 89 (by kernel_rfl); exact h
                    have e92 : A.eval (.tmp 92) = (.int .i64 (m : Nat)) := by have h := depL hdeps 3 (by kernel_rfl) 92 (by kernel_rfl); exact h
                    refine ifw_none rfl ?_
                    with_reducible refine shown_q (Value.bool false) ?qq_4z_4 (fun _ _ => ?qr_4z_4)
                    case qr_4z_4 => exact (rfl : (Value.bool false) = (Value.bool false))
                    with_reducible refine quietAt_bin .geq 3 (.tmp 89) (.tmp 92) 3 (Value.int .i64 (k : Nat)) (Value.int .i64 (m : Nat)) (Value.bool false) ?h0_4z_4 ?h1_4z_4 ?h2_4z_4 ?h3_4z_4
                    case h0_4z_4 => rfl
                    case h1_4z_4 => exact e89
                    case h2_4z_4 => exact e92
                    case h3_4z_4 => exact HGe.out _ _ u
                  · intro A u hu hpu hsz hout hdeps
                    have e93 : A.eval (.tmp 93) = (.bool false) := by have h := depL hdeps 4 (by kernel_rfl) 93 (by kernel_rfl); exact h
                    refine ifw_none rfl ?_
                    with_reducible refine shown_q (Value.bool false) ?qq_4z_5 (fun _ _ => ?qr_4z_5)
                    case qr_4z_5 => exact (rfl : (Value.bool false) = (Value.bool false))
                    with_reducible refine quietAt_mv (.tmp 93) (Value.bool false) ?h0_4z_5 ?h1_4z_5
                    case h0_4z_5 => rfl
                    case h1_4z_5 => exact e93
                  · intro A u hu hpu hsz hout hdeps
                    have e94 : A.eval (.tmp 94) = (.bool false) := by have h := depL hdeps 5 (by kernel_rfl) 94 (by kernel_rfl); exact h
                    have e8 : A.eval (.tmp 8) = (.pointer (some ⟨b8, 0, none⟩)) := (hout 8 (by kernel_rfl)).trans rfl
                    refine ifw_want 5 false 94 rfl rfl e94 ?_
                    with_reducible refine shown_q (Value.pointer (some ⟨b8, 0, none⟩)) ?qq_4z_6 (fun _ _ => ?qr_4z_6)
                    case qr_4z_6 => exact (rfl : (Value.pointer (some ⟨b8, 0, none⟩)) = (Value.pointer (some ⟨b8, 0, none⟩)))
                    with_reducible refine quietAt_field 69 (.tmp 8) 0 ?h0_4z_6 ⟨b8, 0, none⟩ ⟨b8, 0, none⟩ ?h1_4z_6 ?h2_4z_6
                    case h0_4z_6 => rfl
                    case h1_4z_6 => exact e8
                    case h2_4z_6 => kernel_rfl
                  · intro A u hu hpu hsz hout hdeps
                    have e94 : A.eval (.tmp 94) = (.bool false) := by have h := depL hdeps 5 (by kernel_rfl) 94 (by kernel_rfl); exact h
                    have e95 : A.eval (.tmp 95) = (.pointer (some ⟨b8, 0, none⟩)) := by have h := depL hdeps 6 (by kernel_rfl) 95 (by kernel_rfl); exact h
                    refine ifw_want 5 false 94 rfl rfl e94 ?_
                    with_reducible refine shown_q (Value.slice (some ⟨gw, ow, none⟩) m cw) ?qq_4z_7 (fun _ _ => ?qr_4z_7)
                    case qr_4z_7 => exact (rfl : (Value.slice (some ⟨gw, ow, none⟩) m cw) = (Value.slice (some ⟨gw, ow, none⟩) m cw))
                    with_reducible refine quietAt_ld 55 (.tmp 95) (Value.pointer (some ⟨b8, 0, none⟩)) (Value.slice (some ⟨gw, ow, none⟩) m cw) ?h0_4z_7 ?h1_4z_7 ?h2_4z_7
                    case h0_4z_7 => rfl
                    case h1_4z_7 => exact e95
                    case h2_4z_7 => exact ld55 b8 0 m cw _ u ((HB8e.out.keep hu).cell 0)
                  · intro A u hu hpu hsz hout hdeps
                    have e94 : A.eval (.tmp 94) = (.bool false) := by have h := depL hdeps 5 (by kernel_rfl) 94 (by kernel_rfl); exact h
                    have e9 : A.eval (.tmp 9) = (.int .i64 (k : Nat)) := (hout 9 (by kernel_rfl)).trans rfl
                    refine ifw_want 5 false 94 rfl rfl e94 ?_
                    with_reducible refine shown_q (Value.int .i64 (k : Nat)) ?qq_4z_8 (fun _ _ => ?qr_4z_8)
                    case qr_4z_8 => exact (rfl : (Value.int .i64 (k : Nat)) = (Value.int .i64 (k : Nat)))
                    with_reducible refine quietAt_mv (.tmp 9) (Value.int .i64 (k : Nat)) ?h0_4z_8 ?h1_4z_8
                    case h0_4z_8 => rfl
                    case h1_4z_8 => exact e9
                  · intro A u hu hpu hsz hout hdeps
                    have e94 : A.eval (.tmp 94) = (.bool false) := by have h := depL hdeps 5 (by kernel_rfl) 94 (by kernel_rfl); exact h
                    have e96 : A.eval (.tmp 96) = (.slice (some ⟨gw, ow, none⟩) m cw) := by have h := depL hdeps 7 (by kernel_rfl) 96 (by kernel_rfl); exact h
                    have e97 : A.eval (.tmp 97) = (.int .i64 (k : Nat)) := by have h := depL hdeps 8 (by kernel_rfl) 97 (by kernel_rfl); exact h
                    refine ifw_want 5 false 94 rfl rfl e94 ?_
                    with_reducible refine shown_q (Value.pointer (some ⟨gw, ow + k * 34, none⟩)) ?qq_4z_9 (fun _ _ => ?qr_4z_9)
                    case qr_4z_9 => exact (rfl : (Value.pointer (some ⟨gw, ow + k * 34, none⟩)) = (Value.pointer (some ⟨gw, ow + k * 34, none⟩)))
                    with_reducible refine quietAt_idx 55 (.tmp 96) (.tmp 97) (Value.slice (some ⟨gw, ow, none⟩) m cw) (Value.int .i64 (k : Nat)) (Value.pointer (some ⟨gw, ow + k * 34, none⟩)) ?h0_4z_9 ?h1_4z_9 ?h2_4z_9 ?h3_4z_9
                    case h0_4z_9 => rfl
                    case h1_4z_9 => exact e96
                    case h2_4z_9 => exact e97
                    case h3_4z_9 => exact idx55 gw ow m cw k HKm.out u
                  · intro A u hu hpu hsz hout hdeps
                    have e94 : A.eval (.tmp 94) = (.bool false) := by have h := depL hdeps 5 (by kernel_rfl) 94 (by kernel_rfl); exact h
                    have e98 : A.eval (.tmp 98) = (.pointer (some ⟨gw, ow + k * 34, none⟩)) := by have h := depL hdeps 9 (by kernel_rfl) 98 (by kernel_rfl); exact h
                    refine ifw_want 5 false 94 rfl rfl e94 ?_
                    with_reducible refine shown_q (Value.agg K.cells.toArray) ?qq_4z_10 (fun _ _ => ?qr_4z_10)
                    case qr_4z_10 => exact (rfl : (Value.agg K.cells.toArray) = (Value.agg K.cells.toArray))
                    with_reducible refine quietAt_load 107 (.tmp 98) ?h0_4z_10 gw (ow + k * 34) K.cells (.struct (Try.prog.fieldsOf 107)) ?h1_4z_10 ?h2_4z_10 ?h3_4z_10 ?h4_4z_10 ?h5_4z_10
                    case h0_4z_10 => rfl
                    case h1_4z_10 => exact e98
                    case h2_4z_10 => exact (HRw.out u hu)
                    case h3_4z_10 => exact Try.under107
                    case h4_4z_10 => rfl
                    case h5_4z_10 => exact (by rw [HKL.out]; exact Try.size107)
                  · intro A u hu hpu hsz hout hdeps
                    have e94 : A.eval (.tmp 94) = (.bool false) := by have h := depL hdeps 5 (by kernel_rfl) 94 (by kernel_rfl); exact h
                    have e3 : A.eval (.tmp 3) = (.pointer (some ⟨b3, 0, none⟩)) := (hout 3 (by kernel_rfl)).trans rfl
                    refine ifw_want 5 false 94 rfl rfl e94 ?_
                    with_reducible refine shown_q (Value.pointer (some ⟨b3, 0, none⟩)) ?qq_4z_11 (fun _ _ => ?qr_4z_11)
                    case qr_4z_11 => exact (rfl : (Value.pointer (some ⟨b3, 0, none⟩)) = (Value.pointer (some ⟨b3, 0, none⟩)))
                    with_reducible refine quietAt_field 69 (.tmp 3) 0 ?h0_4z_11 ⟨b3, 0, none⟩ ⟨b3, 0, none⟩ ?h1_4z_11 ?h2_4z_11
                    case h0_4z_11 => rfl
                    case h1_4z_11 => exact e3
                    case h2_4z_11 => kernel_rfl
                  · intro A u hu hpu hsz hout hdeps
                    have e94 : A.eval (.tmp 94) = (.bool false) := by have h := depL hdeps 5 (by kernel_rfl) 94 (by kernel_rfl); exact h
                    have e100 : A.eval (.tmp 100) = (.pointer (some ⟨b3, 0, none⟩)) := by have h := depL hdeps 11 (by kernel_rfl) 100 (by kernel_rfl); exact h
                    refine ifw_want 5 false 94 rfl rfl e94 ?_
                    with_reducible refine shown_q (Value.slice (some ⟨gr, orr, none⟩) n c) ?qq_4z_12 (fun _ _ => ?qr_4z_12)
                    case qr_4z_12 => exact (rfl : (Value.slice (some ⟨gr, orr, none⟩) n c) = (Value.slice (some ⟨gr, orr, none⟩) n c))
                    with_reducible refine quietAt_ld 55 (.tmp 100) (Value.pointer (some ⟨b3, 0, none⟩)) (Value.slice (some ⟨gr, orr, none⟩) n c) ?h0_4z_12 ?h1_4z_12 ?h2_4z_12
                    case h0_4z_12 => rfl
                    case h1_4z_12 => exact e100
                    case h2_4z_12 => exact ld55 b3 0 n c _ u ((HB3e.out.keep hu).cell 0)
                  · intro A u hu hpu hsz hout hdeps
                    have e94 : A.eval (.tmp 94) = (.bool false) := by have h := depL hdeps 5 (by kernel_rfl) 94 (by kernel_rfl); exact h
                    have e10 : A.eval (.tmp 10) = (.int .i64 (i : Nat)) := (hout 10 (by kernel_rfl)).trans rfl
                    refine ifw_want 5 false 94 rfl rfl e94 ?_
                    with_reducible refine shown_q (Value.int .i64 (i : Nat)) ?qq_4z_13 (fun _ _ => ?qr_4z_13)
                    case qr_4z_13 => exact (rfl : (Value.int .i64 (i : Nat)) = (Value.int .i64 (i : Nat)))
                    with_reducible refine quietAt_mv (.tmp 10) (Value.int .i64 (i : Nat)) ?h0_4z_13 ?h1_4z_13
                    case h0_4z_13 => rfl
                    case h1_4z_13 => exact e10
                  · intro A u hu hpu hsz hout hdeps
                    have e94 : A.eval (.tmp 94) = (.bool false) := by have h := depL hdeps 5 (by kernel_rfl) 94 (by kernel_rfl); exact h
                    have e101 : A.eval (.tmp 101) = (.slice (some ⟨gr, orr, none⟩) n c) := by have h := depL hdeps 12 (by kernel_rfl) 101 (by kernel_rfl); exact h
                    have e102 : A.eval (.tmp 102) = (.int .i64 (i : Nat)) := by have h := depL hdeps 13 (by kernel_rfl) 102 (by kernel_rfl); exact h
                    refine ifw_want 5 false 94 rfl rfl e94 ?_
                    with_reducible refine shown_q (Value.pointer (some ⟨gr, orr + i * 34, none⟩)) ?qq_4z_14 (fun _ _ => ?qr_4z_14)
                    case qr_4z_14 => exact (rfl : (Value.pointer (some ⟨gr, orr + i * 34, none⟩)) = (Value.pointer (some ⟨gr, orr + i * 34, none⟩)))
                    with_reducible refine quietAt_idx 55 (.tmp 101) (.tmp 102) (Value.slice (some ⟨gr, orr, none⟩) n c) (Value.int .i64 (i : Nat)) (Value.pointer (some ⟨gr, orr + i * 34, none⟩)) ?h0_4z_14 ?h1_4z_14 ?h2_4z_14 ?h3_4z_14
                    case h0_4z_14 => rfl
                    case h1_4z_14 => exact e101
                    case h2_4z_14 => exact e102
                    case h3_4z_14 => exact idx55 gr orr n c i hi u
                  · intro A u hu hpu hsz hout hdeps
                    have e94 : A.eval (.tmp 94) = (.bool false) := by have h := depL hdeps 5 (by kernel_rfl) 94 (by kernel_rfl); exact h
                    have e103 : A.eval (.tmp 103) = (.pointer (some ⟨gr, orr + i * 34, none⟩)) := by have h := depL hdeps 14 (by kernel_rfl) 103 (by kernel_rfl); exact h
                    refine ifw_want 5 false 94 rfl rfl e94 ?_
                    with_reducible refine shown_q (Value.agg K.cells.toArray) ?qq_4z_15 (fun _ _ => ?qr_4z_15)
                    case qr_4z_15 => exact (rfl : (Value.agg K.cells.toArray) = (Value.agg K.cells.toArray))
                    with_reducible refine quietAt_load 107 (.tmp 103) ?h0_4z_15 gr (orr + i * 34) K.cells (.struct (Try.prog.fieldsOf 107)) ?h1_4z_15 ?h2_4z_15 ?h3_4z_15 ?h4_4z_15 ?h5_4z_15
                    case h0_4z_15 => rfl
                    case h1_4z_15 => exact e103
                    case h2_4z_15 => exact (HRr.out u hu)
                    case h3_4z_15 => exact Try.under107
                    case h4_4z_15 => rfl
                    case h5_4z_15 => exact (by rw [HKL.out]; exact Try.size107)
                  · intro A u hu hpu hsz hout hdeps
                    have e94 : A.eval (.tmp 94) = (.bool false) := by have h := depL hdeps 5 (by kernel_rfl) 94 (by kernel_rfl); exact h
                    have e99 : A.eval (.tmp 99) = (.agg K.cells.toArray) := by have h := depL hdeps 10 (by kernel_rfl) 99 (by kernel_rfl); exact h
                    have e104 : A.eval (.tmp 104) = (.agg K.cells.toArray) := by have h := depL hdeps 15 (by kernel_rfl) 104 (by kernel_rfl); exact h
                    refine ifw_want 5 false 94 rfl rfl e94 ?_
                    with_reducible refine shown_q (Value.bool false) ?qq_4z_16 (fun _ _ => ?qr_4z_16)
                    case qr_4z_16 => exact (rfl : (Value.bool false) = (Value.bool false))
                    with_reducible refine quietAt_bin .neq 107 (.tmp 99) (.tmp 104) 107 (Value.agg K.cells.toArray) (Value.agg K.cells.toArray) (Value.bool false) ?h0_4z_16 ?h1_4z_16 ?h2_4z_16 ?h3_4z_16
                    case h0_4z_16 => rfl
                    case h1_4z_16 => exact e99
                    case h2_4z_16 => exact e104
                    case h3_4z_16 => exact HNe.out _ _ u
                  · intro A u hu hpu hsz hout hdeps
                    have e94 : A.eval (.tmp 94) = (.bool false) := by have h := depL hdeps 5 (by kernel_rfl) 94 (by kernel_rfl); exact h
                    have e105 : A.eval (.tmp 105) = (.bool false) := by have h := depL hdeps 16 (by kernel_rfl) 105 (by kernel_rfl); exact h
                    refine ifw_none rfl ?_
                    with_reducible refine shown_q (Value.bool false) ?qq_4z_17 (fun _ _ => ?qr_4z_17)
                    case qr_4z_17 => exact (rfl : (Value.bool false) = (Value.bool false))
                    with_reducible refine quietAt_pick (.tmp 94) (.const (.bool true)) (.tmp 105) false (Value.bool false) ?h0_4z_17 ?h1_4z_17 ?h2_4z_17
                    case h0_4z_17 => rfl
                    case h1_4z_17 => exact e94
                    case h2_4z_17 => rw [if_neg (by decide)]; exact e105
                  · intro A u17 listed hh hall
                    have hA := hh.frame
                    have HU := hid hh.grown
                    obtain ⟨x89, hx89⟩ : ∃ x, A.eval (.tmp 89) = x := ⟨_, rfl⟩
                    have f89 : (fun v _ => v = (Value.int .i64 (k : Nat))) x89 u17 := by rw [← hx89]; exact hh.got 0 _ 89 rfl rfl (hall 0 (by decide))
                    obtain ⟨x90, hx90⟩ : ∃ x, A.eval (.tmp 90) = x := ⟨_, rfl⟩
                    have f90 : (fun v _ => v = (Value.pointer (some ⟨b8, 0, none⟩))) x90 u17 := by rw [← hx90]; exact hh.got 1 _ 90 rfl rfl (hall 1 (by decide))
                    obtain ⟨x91, hx91⟩ : ∃ x, A.eval (.tmp 91) = x := ⟨_, rfl⟩
                    have f91 : (fun v _ => v = (Value.slice (some ⟨gw, ow, none⟩) m cw)) x91 u17 := by rw [← hx91]; exact hh.got 2 _ 91 rfl rfl (hall 2 (by decide))
                    obtain ⟨x92, hx92⟩ : ∃ x, A.eval (.tmp 92) = x := ⟨_, rfl⟩
                    have f92 : (fun v _ => v = (Value.int .i64 (m : Nat))) x92 u17 := by rw [← hx92]; exact hh.got 3 _ 92 rfl rfl (hall 3 (by decide))
                    obtain ⟨x93, hx93⟩ : ∃ x, A.eval (.tmp 93) = x := ⟨_, rfl⟩
                    have f93 : (fun v _ => v = (Value.bool false)) x93 u17 := by rw [← hx93]; exact hh.got 4 _ 93 rfl rfl (hall 4 (by decide))
                    obtain ⟨x94, hx94⟩ : ∃ x, A.eval (.tmp 94) = x := ⟨_, rfl⟩
                    have f94 : (fun v _ => v = (Value.bool false)) x94 u17 := by rw [← hx94]; exact hh.got 5 _ 94 rfl rfl (hall 5 (by decide))
                    obtain ⟨x95, hx95⟩ : ∃ x, A.eval (.tmp 95) = x := ⟨_, rfl⟩
                    have f95 : (fun v _ => v = (Value.pointer (some ⟨b8, 0, none⟩))) x95 u17 := by rw [← hx95]; exact hh.got 6 _ 95 rfl rfl (hall 6 (by decide))
                    obtain ⟨x96, hx96⟩ : ∃ x, A.eval (.tmp 96) = x := ⟨_, rfl⟩
                    have f96 : (fun v _ => v = (Value.slice (some ⟨gw, ow, none⟩) m cw)) x96 u17 := by rw [← hx96]; exact hh.got 7 _ 96 rfl rfl (hall 7 (by decide))
                    obtain ⟨x97, hx97⟩ : ∃ x, A.eval (.tmp 97) = x := ⟨_, rfl⟩
                    have f97 : (fun v _ => v = (Value.int .i64 (k : Nat))) x97 u17 := by rw [← hx97]; exact hh.got 8 _ 97 rfl rfl (hall 8 (by decide))
                    obtain ⟨x98, hx98⟩ : ∃ x, A.eval (.tmp 98) = x := ⟨_, rfl⟩
                    have f98 : (fun v _ => v = (Value.pointer (some ⟨gw, ow + k * 34, none⟩))) x98 u17 := by rw [← hx98]; exact hh.got 9 _ 98 rfl rfl (hall 9 (by decide))
                    obtain ⟨x99, hx99⟩ : ∃ x, A.eval (.tmp 99) = x := ⟨_, rfl⟩
                    have f99 : (fun v _ => v = (Value.agg K.cells.toArray)) x99 u17 := by rw [← hx99]; exact hh.got 10 _ 99 rfl rfl (hall 10 (by decide))
                    obtain ⟨x100, hx100⟩ : ∃ x, A.eval (.tmp 100) = x := ⟨_, rfl⟩
                    have f100 : (fun v _ => v = (Value.pointer (some ⟨b3, 0, none⟩))) x100 u17 := by rw [← hx100]; exact hh.got 11 _ 100 rfl rfl (hall 11 (by decide))
                    obtain ⟨x101, hx101⟩ : ∃ x, A.eval (.tmp 101) = x := ⟨_, rfl⟩
                    have f101 : (fun v _ => v = (Value.slice (some ⟨gr, orr, none⟩) n c)) x101 u17 := by rw [← hx101]; exact hh.got 12 _ 101 rfl rfl (hall 12 (by decide))
                    obtain ⟨x102, hx102⟩ : ∃ x, A.eval (.tmp 102) = x := ⟨_, rfl⟩
                    have f102 : (fun v _ => v = (Value.int .i64 (i : Nat))) x102 u17 := by rw [← hx102]; exact hh.got 13 _ 102 rfl rfl (hall 13 (by decide))
                    obtain ⟨x103, hx103⟩ : ∃ x, A.eval (.tmp 103) = x := ⟨_, rfl⟩
                    have f103 : (fun v _ => v = (Value.pointer (some ⟨gr, orr + i * 34, none⟩))) x103 u17 := by rw [← hx103]; exact hh.got 14 _ 103 rfl rfl (hall 14 (by decide))
                    obtain ⟨x104, hx104⟩ : ∃ x, A.eval (.tmp 104) = x := ⟨_, rfl⟩
                    have f104 : (fun v _ => v = (Value.agg K.cells.toArray)) x104 u17 := by rw [← hx104]; exact hh.got 15 _ 104 rfl rfl (hall 15 (by decide))
                    obtain ⟨x105, hx105⟩ : ∃ x, A.eval (.tmp 105) = x := ⟨_, rfl⟩
                    have f105 : (fun v _ => v = (Value.bool false)) x105 u17 := by rw [← hx105]; exact hh.got 16 _ 105 rfl rfl (hall 16 (by decide))
                    obtain ⟨x106, hx106⟩ : ∃ x, A.eval (.tmp 106) = x := ⟨_, rfl⟩
                    have f106 : (fun v _ => v = (Value.bool false)) x106 u17 := by rw [← hx106]; exact hh.got 17 _ 106 rfl rfl (hall 17 (by decide))
                    dsimp only [wrote, List.foldl] at hA
                    rw [hx89, hx90, hx91, hx92, hx93, hx94, hx95, hx96, hx97, hx98, hx99, hx100, hx101, hx102, hx103, hx104, hx105, hx106] at hA
                    clear hh hall hx89 hx90 hx91 hx92 hx93 hx94 hx95 hx96 hx97 hx98 hx99 hx100 hx101 hx102 hx103 hx104 hx105 hx106
                    replace f89 := (f89 : x89 = (.int .i64 (k : Nat)))
                    subst f89
                    replace f90 := (f90 : x90 = (.pointer (some ⟨b8, 0, none⟩)))
                    subst f90
                    replace f91 := (f91 : x91 = (.slice (some ⟨gw, ow, none⟩) m cw))
                    subst f91
                    replace f92 := (f92 : x92 = (.int .i64 (m : Nat)))
                    subst f92
                    replace f93 := (f93 : x93 = (.bool false))
                    subst f93
                    replace f94 := (f94 : x94 = (.bool false))
                    subst f94
                    replace f95 := (f95 : x95 = (.pointer (some ⟨b8, 0, none⟩)))
                    subst f95
                    replace f96 := (f96 : x96 = (.slice (some ⟨gw, ow, none⟩) m cw))
                    subst f96
                    replace f97 := (f97 : x97 = (.int .i64 (k : Nat)))
                    subst f97
                    replace f98 := (f98 : x98 = (.pointer (some ⟨gw, ow + k * 34, none⟩)))
                    subst f98
                    replace f99 := (f99 : x99 = (.agg K.cells.toArray))
                    subst f99
                    replace f100 := (f100 : x100 = (.pointer (some ⟨b3, 0, none⟩)))
                    subst f100
                    replace f101 := (f101 : x101 = (.slice (some ⟨gr, orr, none⟩) n c))
                    subst f101
                    replace f102 := (f102 : x102 = (.int .i64 (i : Nat)))
                    subst f102
                    replace f103 := (f103 : x103 = (.pointer (some ⟨gr, orr + i * 34, none⟩)))
                    subst f103
                    replace f104 := (f104 : x104 = (.agg K.cells.toArray))
                    subst f104
                    replace f105 := (f105 : x105 = (.bool false))
                    subst f105
                    replace f106 := (f106 : x106 = (.bool false))
                    subst f106
                    subst hA
                    show wpList _ _ _ [] _ _
                    unfold wpList
                    simp only [Act.put, List.setIfInBounds_toArray, List.set_cons_succ, List.set_cons_zero]
                    have HGn := hid (gtrans HG.out HU.out)
                    go_wp2_with fail
                    go_roundw
                    case rel => exact ⟨i + 1, by go_num, by rw [HSn.out]; go_num, by omega, HGn⟩
                    case measure => simp [intOf]; omega
                · have h0' : (til == 0) = false := beq_eq_false_iff_ne.2 h0
                  have h1 : At < til := by omega
                  clear hg h0
                  go_wp2_with fail
                  refine wp_region_list (by kernel_rfl) [fun v _ => v = (Value.int .i64 (k : Nat)), fun v _ => v = (Value.pointer (some ⟨b8, 0, none⟩)), fun v _ => v = (Value.slice (some ⟨gw, ow, none⟩) m cw), fun v _ => v = (Value.int .i64 (m : Nat)), fun v _ => v = (Value.bool false), fun v _ => v = (Value.bool false), fun v _ => v = (Value.pointer (some ⟨b8, 0, none⟩)), fun v _ => v = (Value.slice (some ⟨gw, ow, none⟩) m cw), fun v _ => v = (Value.int .i64 (k : Nat)), fun v _ => v = (Value.pointer (some ⟨gw, ow + k * 34, none⟩)), fun v _ => v = (Value.agg K.cells.toArray), fun v _ => v = (Value.pointer (some ⟨b3, 0, none⟩)), fun v _ => v = (Value.slice (some ⟨gr, orr, none⟩) n c), fun v _ => v = (Value.int .i64 (i : Nat)), fun v _ => v = (Value.pointer (some ⟨gr, orr + i * 34, none⟩)), fun v _ => v = (Value.agg K.cells.toArray), fun v _ => v = (Value.bool false), fun v _ => v = (Value.bool false)] (none) (fun _ => none) 18 (by kernel_rfl) (by kernel_rfl) (by kernel_rfl) (by kernel_rfl) (by decide) noRow_one (fun _ => .inl rfl) ⟨fun i v u u' hki h hg => h, fun i v u u' hki h hg => h, fun i v u u' hki h hg => h, fun i v u u' hki h hg => h, fun i v u u' hki h hg => h, fun i v u u' hki h hg => h, fun i v u u' hki h hg => h, fun i v u u' hki h hg => h, fun i v u u' hki h hg => h, fun i v u u' hki h hg => h, fun i v u u' hki h hg => h, fun i v u u' hki h hg => h, fun i v u u' hki h hg => h, fun i v u u' hki h hg => h, fun i v u u' hki h hg => h, fun i v u u' hki h hg => h, fun i v u u' hki h hg => h, fun i v u u' hki h hg => h, trivial⟩ ⟨?_, ?_, ?_, ?_, ?_, ?_, ?_, ?_, ?_, ?_, ?_, ?_, ?_, ?_, ?_, ?_, ?_, ?_, trivial⟩ ?_
                  · intro A u hu hpu hsz hout hdeps
                    have e9 : A.eval (.tmp 9) = (.int .i64 (k : Nat)) := (hout 9 (by kernel_rfl)).trans rfl
                    refine ifw_none rfl ?_
                    with_reducible refine shown_q (Value.int .i64 (k : Nat)) ?qq_4bz_0 (fun _ _ => ?qr_4bz_0)
                    case qr_4bz_0 => exact (rfl : (Value.int .i64 (k : Nat)) = (Value.int .i64 (k : Nat)))
                    with_reducible refine quietAt_mv (.tmp 9) (Value.int .i64 (k : Nat)) ?h0_4bz_0 ?h1_4bz_0
                    case h0_4bz_0 => rfl
                    case h1_4bz_0 => exact e9
                  · intro A u hu hpu hsz hout hdeps
                    have e8 : A.eval (.tmp 8) = (.pointer (some ⟨b8, 0, none⟩)) := (hout 8 (by kernel_rfl)).trans rfl
                    refine ifw_none rfl ?_
                    with_reducible refine shown_q (Value.pointer (some ⟨b8, 0, none⟩)) ?qq_4bz_1 (fun _ _ => ?qr_4bz_1)
                    case qr_4bz_1 => exact (rfl : (Value.pointer (some ⟨b8, 0, none⟩)) = (Value.pointer (some ⟨b8, 0, none⟩)))
                    with_reducible refine quietAt_field 69 (.tmp 8) 0 ?h0_4bz_1 ⟨b8, 0, none⟩ ⟨b8, 0, none⟩ ?h1_4bz_1 ?h2_4bz_1
                    case h0_4bz_1 => rfl
                    case h1_4bz_1 => exact e8
                    case h2_4bz_1 => kernel_rfl
                  · intro A u hu hpu hsz hout hdeps
                    have e90 : A.eval (.tmp 90) = (.pointer (some ⟨b8, 0, none⟩)) := by have h := depL hdeps 1 (by kernel_rfl) 90 (by kernel_rfl); exact h
                    refine ifw_none rfl ?_
                    with_reducible refine shown_q (Value.slice (some ⟨gw, ow, none⟩) m cw) ?qq_4bz_2 (fun _ _ => ?qr_4bz_2)
                    case qr_4bz_2 => exact (rfl : (Value.slice (some ⟨gw, ow, none⟩) m cw) = (Value.slice (some ⟨gw, ow, none⟩) m cw))
                    with_reducible refine quietAt_ld 55 (.tmp 90) (Value.pointer (some ⟨b8, 0, none⟩)) (Value.slice (some ⟨gw, ow, none⟩) m cw) ?h0_4bz_2 ?h1_4bz_2 ?h2_4bz_2
                    case h0_4bz_2 => rfl
                    case h1_4bz_2 => exact e90
                    case h2_4bz_2 => exact ld55 b8 0 m cw _ u ((HB8e.out.keep hu).cell 0)
                  · intro A u hu hpu hsz hout hdeps
                    have e91 : A.eval (.tmp 91) = (.slice (some ⟨gw, ow, none⟩) m cw) := by have h := depL hdeps 2 (by kernel_rfl) 91 (by kernel_rfl); exact h
                    refine ifw_none rfl ?_
                    with_reducible refine shown_q (Value.int .i64 (m : Nat)) ?qq_4bz_3 (fun _ _ => ?qr_4bz_3)
                    case qr_4bz_3 => exact (rfl : (Value.int .i64 (m : Nat)) = (Value.int .i64 (m : Nat)))
                    with_reducible refine quietAt_len (.tmp 91) 55 ?h0_4bz_3 (some ⟨gw, ow, none⟩) m cw ?h1_4bz_3 ?h2_4bz_3
                    case h0_4bz_3 => rfl
                    case h1_4bz_3 => exact e91
                    case h2_4bz_3 => kernel_rfl
                  · intro A u hu hpu hsz hout hdeps
                    have e89 : A.eval (.tmp 89) = (.int .i64 (k : Nat)) := by have h := depL hdeps 0 (by kernel_rfl) 89 (by kernel_rfl); exact h
                    have e92 : A.eval (.tmp 92) = (.int .i64 (m : Nat)) := by have h := depL hdeps 3 (by kernel_rfl) 92 (by kernel_rfl); exact h
                    refine ifw_none rfl ?_
                    with_reducible refine shown_q (Value.bool false) ?qq_4bz_4 (fun _ _ => ?qr_4bz_4)
                    case qr_4bz_4 => exact (rfl : (Value.bool false) = (Value.bool false))
                    with_reducible refine quietAt_bin .geq 3 (.tmp 89) (.tmp 92) 3 (Value.int .i64 (k : Nat)) (Value.int .i64 (m : Nat)) (Value.bool false) ?h0_4bz_4 ?h1_4bz_4 ?h2_4bz_4 ?h3_4bz_4
                    case h0_4bz_4 => rfl
                    case h1_4bz_4 => exact e89
                    case h2_4bz_4 => exact e92
                    case h3_4bz_4 => exact HGe.out _ _ u
                  · intro A u hu hpu hsz hout hdeps
                    have e93 : A.eval (.tmp 93) = (.bool false) := by have h := depL hdeps 4 (by kernel_rfl) 93 (by kernel_rfl); exact h
                    refine ifw_none rfl ?_
                    with_reducible refine shown_q (Value.bool false) ?qq_4bz_5 (fun _ _ => ?qr_4bz_5)
                    case qr_4bz_5 => exact (rfl : (Value.bool false) = (Value.bool false))
                    with_reducible refine quietAt_mv (.tmp 93) (Value.bool false) ?h0_4bz_5 ?h1_4bz_5
                    case h0_4bz_5 => rfl
                    case h1_4bz_5 => exact e93
                  · intro A u hu hpu hsz hout hdeps
                    have e94 : A.eval (.tmp 94) = (.bool false) := by have h := depL hdeps 5 (by kernel_rfl) 94 (by kernel_rfl); exact h
                    have e8 : A.eval (.tmp 8) = (.pointer (some ⟨b8, 0, none⟩)) := (hout 8 (by kernel_rfl)).trans rfl
                    refine ifw_want 5 false 94 rfl rfl e94 ?_
                    with_reducible refine shown_q (Value.pointer (some ⟨b8, 0, none⟩)) ?qq_4bz_6 (fun _ _ => ?qr_4bz_6)
                    case qr_4bz_6 => exact (rfl : (Value.pointer (some ⟨b8, 0, none⟩)) = (Value.pointer (some ⟨b8, 0, none⟩)))
                    with_reducible refine quietAt_field 69 (.tmp 8) 0 ?h0_4bz_6 ⟨b8, 0, none⟩ ⟨b8, 0, none⟩ ?h1_4bz_6 ?h2_4bz_6
                    case h0_4bz_6 => rfl
                    case h1_4bz_6 => exact e8
                    case h2_4bz_6 => kernel_rfl
                  · intro A u hu hpu hsz hout hdeps
                    have e94 : A.eval (.tmp 94) = (.bool false) := by have h := depL hdeps 5 (by kernel_rfl) 94 (by kernel_rfl); exact h
                    have e95 : A.eval (.tmp 95) = (.pointer (some ⟨b8, 0, none⟩)) := by have h := depL hdeps 6 (by kernel_rfl) 95 (by kernel_rfl); exact h
                    refine ifw_want 5 false 94 rfl rfl e94 ?_
                    with_reducible refine shown_q (Value.slice (some ⟨gw, ow, none⟩) m cw) ?qq_4bz_7 (fun _ _ => ?qr_4bz_7)
                    case qr_4bz_7 => exact (rfl : (Value.slice (some ⟨gw, ow, none⟩) m cw) = (Value.slice (some ⟨gw, ow, none⟩) m cw))
                    with_reducible refine quietAt_ld 55 (.tmp 95) (Value.pointer (some ⟨b8, 0, none⟩)) (Value.slice (some ⟨gw, ow, none⟩) m cw) ?h0_4bz_7 ?h1_4bz_7 ?h2_4bz_7
                    case h0_4bz_7 => rfl
                    case h1_4bz_7 => exact e95
                    case h2_4bz_7 => exact ld55 b8 0 m cw _ u ((HB8e.out.keep hu).cell 0)
                  · intro A u hu hpu hsz hout hdeps
                    have e94 : A.eval (.tmp 94) = (.bool false) := by have h := depL hdeps 5 (by kernel_rfl) 94 (by kernel_rfl); exact h
                    have e9 : A.eval (.tmp 9) = (.int .i64 (k : Nat)) := (hout 9 (by kernel_rfl)).trans rfl
                    refine ifw_want 5 false 94 rfl rfl e94 ?_
                    with_reducible refine shown_q (Value.int .i64 (k : Nat)) ?qq_4bz_8 (fun _ _ => ?qr_4bz_8)
                    case qr_4bz_8 => exact (rfl : (Value.int .i64 (k : Nat)) = (Value.int .i64 (k : Nat)))
                    with_reducible refine quietAt_mv (.tmp 9) (Value.int .i64 (k : Nat)) ?h0_4bz_8 ?h1_4bz_8
                    case h0_4bz_8 => rfl
                    case h1_4bz_8 => exact e9
                  · intro A u hu hpu hsz hout hdeps
                    have e94 : A.eval (.tmp 94) = (.bool false) := by have h := depL hdeps 5 (by kernel_rfl) 94 (by kernel_rfl); exact h
                    have e96 : A.eval (.tmp 96) = (.slice (some ⟨gw, ow, none⟩) m cw) := by have h := depL hdeps 7 (by kernel_rfl) 96 (by kernel_rfl); exact h
                    have e97 : A.eval (.tmp 97) = (.int .i64 (k : Nat)) := by have h := depL hdeps 8 (by kernel_rfl) 97 (by kernel_rfl); exact h
                    refine ifw_want 5 false 94 rfl rfl e94 ?_
                    with_reducible refine shown_q (Value.pointer (some ⟨gw, ow + k * 34, none⟩)) ?qq_4bz_9 (fun _ _ => ?qr_4bz_9)
                    case qr_4bz_9 => exact (rfl : (Value.pointer (some ⟨gw, ow + k * 34, none⟩)) = (Value.pointer (some ⟨gw, ow + k * 34, none⟩)))
                    with_reducible refine quietAt_idx 55 (.tmp 96) (.tmp 97) (Value.slice (some ⟨gw, ow, none⟩) m cw) (Value.int .i64 (k : Nat)) (Value.pointer (some ⟨gw, ow + k * 34, none⟩)) ?h0_4bz_9 ?h1_4bz_9 ?h2_4bz_9 ?h3_4bz_9
                    case h0_4bz_9 => rfl
                    case h1_4bz_9 => exact e96
                    case h2_4bz_9 => exact e97
                    case h3_4bz_9 => exact idx55 gw ow m cw k HKm.out u
                  · intro A u hu hpu hsz hout hdeps
                    have e94 : A.eval (.tmp 94) = (.bool false) := by have h := depL hdeps 5 (by kernel_rfl) 94 (by kernel_rfl); exact h
                    have e98 : A.eval (.tmp 98) = (.pointer (some ⟨gw, ow + k * 34, none⟩)) := by have h := depL hdeps 9 (by kernel_rfl) 98 (by kernel_rfl); exact h
                    refine ifw_want 5 false 94 rfl rfl e94 ?_
                    with_reducible refine shown_q (Value.agg K.cells.toArray) ?qq_4bz_10 (fun _ _ => ?qr_4bz_10)
                    case qr_4bz_10 => exact (rfl : (Value.agg K.cells.toArray) = (Value.agg K.cells.toArray))
                    with_reducible refine quietAt_load 107 (.tmp 98) ?h0_4bz_10 gw (ow + k * 34) K.cells (.struct (Try.prog.fieldsOf 107)) ?h1_4bz_10 ?h2_4bz_10 ?h3_4bz_10 ?h4_4bz_10 ?h5_4bz_10
                    case h0_4bz_10 => rfl
                    case h1_4bz_10 => exact e98
                    case h2_4bz_10 => exact (HRw.out u hu)
                    case h3_4bz_10 => exact Try.under107
                    case h4_4bz_10 => rfl
                    case h5_4bz_10 => exact (by rw [HKL.out]; exact Try.size107)
                  · intro A u hu hpu hsz hout hdeps
                    have e94 : A.eval (.tmp 94) = (.bool false) := by have h := depL hdeps 5 (by kernel_rfl) 94 (by kernel_rfl); exact h
                    have e3 : A.eval (.tmp 3) = (.pointer (some ⟨b3, 0, none⟩)) := (hout 3 (by kernel_rfl)).trans rfl
                    refine ifw_want 5 false 94 rfl rfl e94 ?_
                    with_reducible refine shown_q (Value.pointer (some ⟨b3, 0, none⟩)) ?qq_4bz_11 (fun _ _ => ?qr_4bz_11)
                    case qr_4bz_11 => exact (rfl : (Value.pointer (some ⟨b3, 0, none⟩)) = (Value.pointer (some ⟨b3, 0, none⟩)))
                    with_reducible refine quietAt_field 69 (.tmp 3) 0 ?h0_4bz_11 ⟨b3, 0, none⟩ ⟨b3, 0, none⟩ ?h1_4bz_11 ?h2_4bz_11
                    case h0_4bz_11 => rfl
                    case h1_4bz_11 => exact e3
                    case h2_4bz_11 => kernel_rfl
                  · intro A u hu hpu hsz hout hdeps
                    have e94 : A.eval (.tmp 94) = (.bool false) := by have h := depL hdeps 5 (by kernel_rfl) 94 (by kernel_rfl); exact h
                    have e100 : A.eval (.tmp 100) = (.pointer (some ⟨b3, 0, none⟩)) := by have h := depL hdeps 11 (by kernel_rfl) 100 (by kernel_rfl); exact h
                    refine ifw_want 5 false 94 rfl rfl e94 ?_
                    with_reducible refine shown_q (Value.slice (some ⟨gr, orr, none⟩) n c) ?qq_4bz_12 (fun _ _ => ?qr_4bz_12)
                    case qr_4bz_12 => exact (rfl : (Value.slice (some ⟨gr, orr, none⟩) n c) = (Value.slice (some ⟨gr, orr, none⟩) n c))
                    with_reducible refine quietAt_ld 55 (.tmp 100) (Value.pointer (some ⟨b3, 0, none⟩)) (Value.slice (some ⟨gr, orr, none⟩) n c) ?h0_4bz_12 ?h1_4bz_12 ?h2_4bz_12
                    case h0_4bz_12 => rfl
                    case h1_4bz_12 => exact e100
                    case h2_4bz_12 => exact ld55 b3 0 n c _ u ((HB3e.out.keep hu).cell 0)
                  · intro A u hu hpu hsz hout hdeps
                    have e94 : A.eval (.tmp 94) = (.bool false) := by have h := depL hdeps 5 (by kernel_rfl) 94 (by kernel_rfl); exact h
                    have e10 : A.eval (.tmp 10) = (.int .i64 (i : Nat)) := (hout 10 (by kernel_rfl)).trans rfl
                    refine ifw_want 5 false 94 rfl rfl e94 ?_
                    with_reducible refine shown_q (Value.int .i64 (i : Nat)) ?qq_4bz_13 (fun _ _ => ?qr_4bz_13)
                    case qr_4bz_13 => exact (rfl : (Value.int .i64 (i : Nat)) = (Value.int .i64 (i : Nat)))
                    with_reducible refine quietAt_mv (.tmp 10) (Value.int .i64 (i : Nat)) ?h0_4bz_13 ?h1_4bz_13
                    case h0_4bz_13 => rfl
                    case h1_4bz_13 => exact e10
                  · intro A u hu hpu hsz hout hdeps
                    have e94 : A.eval (.tmp 94) = (.bool false) := by have h := depL hdeps 5 (by kernel_rfl) 94 (by kernel_rfl); exact h
                    have e101 : A.eval (.tmp 101) = (.slice (some ⟨gr, orr, none⟩) n c) := by have h := depL hdeps 12 (by kernel_rfl) 101 (by kernel_rfl); exact h
                    have e102 : A.eval (.tmp 102) = (.int .i64 (i : Nat)) := by have h := depL hdeps 13 (by kernel_rfl) 102 (by kernel_rfl); exact h
                    refine ifw_want 5 false 94 rfl rfl e94 ?_
                    with_reducible refine shown_q (Value.pointer (some ⟨gr, orr + i * 34, none⟩)) ?qq_4bz_14 (fun _ _ => ?qr_4bz_14)
                    case qr_4bz_14 => exact (rfl : (Value.pointer (some ⟨gr, orr + i * 34, none⟩)) = (Value.pointer (some ⟨gr, orr + i * 34, none⟩)))
                    with_reducible refine quietAt_idx 55 (.tmp 101) (.tmp 102) (Value.slice (some ⟨gr, orr, none⟩) n c) (Value.int .i64 (i : Nat)) (Value.pointer (some ⟨gr, orr + i * 34, none⟩)) ?h0_4bz_14 ?h1_4bz_14 ?h2_4bz_14 ?h3_4bz_14
                    case h0_4bz_14 => rfl
                    case h1_4bz_14 => exact e101
                    case h2_4bz_14 => exact e102
                    case h3_4bz_14 => exact idx55 gr orr n c i hi u
                  · intro A u hu hpu hsz hout hdeps
                    have e94 : A.eval (.tmp 94) = (.bool false) := by have h := depL hdeps 5 (by kernel_rfl) 94 (by kernel_rfl); exact h
                    have e103 : A.eval (.tmp 103) = (.pointer (some ⟨gr, orr + i * 34, none⟩)) := by have h := depL hdeps 14 (by kernel_rfl) 103 (by kernel_rfl); exact h
                    refine ifw_want 5 false 94 rfl rfl e94 ?_
                    with_reducible refine shown_q (Value.agg K.cells.toArray) ?qq_4bz_15 (fun _ _ => ?qr_4bz_15)
                    case qr_4bz_15 => exact (rfl : (Value.agg K.cells.toArray) = (Value.agg K.cells.toArray))
                    with_reducible refine quietAt_load 107 (.tmp 103) ?h0_4bz_15 gr (orr + i * 34) K.cells (.struct (Try.prog.fieldsOf 107)) ?h1_4bz_15 ?h2_4bz_15 ?h3_4bz_15 ?h4_4bz_15 ?h5_4bz_15
                    case h0_4bz_15 => rfl
                    case h1_4bz_15 => exact e103
                    case h2_4bz_15 => exact (HRr.out u hu)
                    case h3_4bz_15 => exact Try.under107
                    case h4_4bz_15 => rfl
                    case h5_4bz_15 => exact (by rw [HKL.out]; exact Try.size107)
                  · intro A u hu hpu hsz hout hdeps
                    have e94 : A.eval (.tmp 94) = (.bool false) := by have h := depL hdeps 5 (by kernel_rfl) 94 (by kernel_rfl); exact h
                    have e99 : A.eval (.tmp 99) = (.agg K.cells.toArray) := by have h := depL hdeps 10 (by kernel_rfl) 99 (by kernel_rfl); exact h
                    have e104 : A.eval (.tmp 104) = (.agg K.cells.toArray) := by have h := depL hdeps 15 (by kernel_rfl) 104 (by kernel_rfl); exact h
                    refine ifw_want 5 false 94 rfl rfl e94 ?_
                    with_reducible refine shown_q (Value.bool false) ?qq_4bz_16 (fun _ _ => ?qr_4bz_16)
                    case qr_4bz_16 => exact (rfl : (Value.bool false) = (Value.bool false))
                    with_reducible refine quietAt_bin .neq 107 (.tmp 99) (.tmp 104) 107 (Value.agg K.cells.toArray) (Value.agg K.cells.toArray) (Value.bool false) ?h0_4bz_16 ?h1_4bz_16 ?h2_4bz_16 ?h3_4bz_16
                    case h0_4bz_16 => rfl
                    case h1_4bz_16 => exact e99
                    case h2_4bz_16 => exact e104
                    case h3_4bz_16 => exact HNe.out _ _ u
                  · intro A u hu hpu hsz hout hdeps
                    have e94 : A.eval (.tmp 94) = (.bool false) := by have h := depL hdeps 5 (by kernel_rfl) 94 (by kernel_rfl); exact h
                    have e105 : A.eval (.tmp 105) = (.bool false) := by have h := depL hdeps 16 (by kernel_rfl) 105 (by kernel_rfl); exact h
                    refine ifw_none rfl ?_
                    with_reducible refine shown_q (Value.bool false) ?qq_4bz_17 (fun _ _ => ?qr_4bz_17)
                    case qr_4bz_17 => exact (rfl : (Value.bool false) = (Value.bool false))
                    with_reducible refine quietAt_pick (.tmp 94) (.const (.bool true)) (.tmp 105) false (Value.bool false) ?h0_4bz_17 ?h1_4bz_17 ?h2_4bz_17
                    case h0_4bz_17 => rfl
                    case h1_4bz_17 => exact e94
                    case h2_4bz_17 => rw [if_neg (by decide)]; exact e105
                  · intro A u17 listed hh hall
                    have hA := hh.frame
                    have HU := hid hh.grown
                    obtain ⟨x89, hx89⟩ : ∃ x, A.eval (.tmp 89) = x := ⟨_, rfl⟩
                    have f89 : (fun v _ => v = (Value.int .i64 (k : Nat))) x89 u17 := by rw [← hx89]; exact hh.got 0 _ 89 rfl rfl (hall 0 (by decide))
                    obtain ⟨x90, hx90⟩ : ∃ x, A.eval (.tmp 90) = x := ⟨_, rfl⟩
                    have f90 : (fun v _ => v = (Value.pointer (some ⟨b8, 0, none⟩))) x90 u17 := by rw [← hx90]; exact hh.got 1 _ 90 rfl rfl (hall 1 (by decide))
                    obtain ⟨x91, hx91⟩ : ∃ x, A.eval (.tmp 91) = x := ⟨_, rfl⟩
                    have f91 : (fun v _ => v = (Value.slice (some ⟨gw, ow, none⟩) m cw)) x91 u17 := by rw [← hx91]; exact hh.got 2 _ 91 rfl rfl (hall 2 (by decide))
                    obtain ⟨x92, hx92⟩ : ∃ x, A.eval (.tmp 92) = x := ⟨_, rfl⟩
                    have f92 : (fun v _ => v = (Value.int .i64 (m : Nat))) x92 u17 := by rw [← hx92]; exact hh.got 3 _ 92 rfl rfl (hall 3 (by decide))
                    obtain ⟨x93, hx93⟩ : ∃ x, A.eval (.tmp 93) = x := ⟨_, rfl⟩
                    have f93 : (fun v _ => v = (Value.bool false)) x93 u17 := by rw [← hx93]; exact hh.got 4 _ 93 rfl rfl (hall 4 (by decide))
                    obtain ⟨x94, hx94⟩ : ∃ x, A.eval (.tmp 94) = x := ⟨_, rfl⟩
                    have f94 : (fun v _ => v = (Value.bool false)) x94 u17 := by rw [← hx94]; exact hh.got 5 _ 94 rfl rfl (hall 5 (by decide))
                    obtain ⟨x95, hx95⟩ : ∃ x, A.eval (.tmp 95) = x := ⟨_, rfl⟩
                    have f95 : (fun v _ => v = (Value.pointer (some ⟨b8, 0, none⟩))) x95 u17 := by rw [← hx95]; exact hh.got 6 _ 95 rfl rfl (hall 6 (by decide))
                    obtain ⟨x96, hx96⟩ : ∃ x, A.eval (.tmp 96) = x := ⟨_, rfl⟩
                    have f96 : (fun v _ => v = (Value.slice (some ⟨gw, ow, none⟩) m cw)) x96 u17 := by rw [← hx96]; exact hh.got 7 _ 96 rfl rfl (hall 7 (by decide))
                    obtain ⟨x97, hx97⟩ : ∃ x, A.eval (.tmp 97) = x := ⟨_, rfl⟩
                    have f97 : (fun v _ => v = (Value.int .i64 (k : Nat))) x97 u17 := by rw [← hx97]; exact hh.got 8 _ 97 rfl rfl (hall 8 (by decide))
                    obtain ⟨x98, hx98⟩ : ∃ x, A.eval (.tmp 98) = x := ⟨_, rfl⟩
                    have f98 : (fun v _ => v = (Value.pointer (some ⟨gw, ow + k * 34, none⟩))) x98 u17 := by rw [← hx98]; exact hh.got 9 _ 98 rfl rfl (hall 9 (by decide))
                    obtain ⟨x99, hx99⟩ : ∃ x, A.eval (.tmp 99) = x := ⟨_, rfl⟩
                    have f99 : (fun v _ => v = (Value.agg K.cells.toArray)) x99 u17 := by rw [← hx99]; exact hh.got 10 _ 99 rfl rfl (hall 10 (by decide))
                    obtain ⟨x100, hx100⟩ : ∃ x, A.eval (.tmp 100) = x := ⟨_, rfl⟩
                    have f100 : (fun v _ => v = (Value.pointer (some ⟨b3, 0, none⟩))) x100 u17 := by rw [← hx100]; exact hh.got 11 _ 100 rfl rfl (hall 11 (by decide))
                    obtain ⟨x101, hx101⟩ : ∃ x, A.eval (.tmp 101) = x := ⟨_, rfl⟩
                    have f101 : (fun v _ => v = (Value.slice (some ⟨gr, orr, none⟩) n c)) x101 u17 := by rw [← hx101]; exact hh.got 12 _ 101 rfl rfl (hall 12 (by decide))
                    obtain ⟨x102, hx102⟩ : ∃ x, A.eval (.tmp 102) = x := ⟨_, rfl⟩
                    have f102 : (fun v _ => v = (Value.int .i64 (i : Nat))) x102 u17 := by rw [← hx102]; exact hh.got 13 _ 102 rfl rfl (hall 13 (by decide))
                    obtain ⟨x103, hx103⟩ : ∃ x, A.eval (.tmp 103) = x := ⟨_, rfl⟩
                    have f103 : (fun v _ => v = (Value.pointer (some ⟨gr, orr + i * 34, none⟩))) x103 u17 := by rw [← hx103]; exact hh.got 14 _ 103 rfl rfl (hall 14 (by decide))
                    obtain ⟨x104, hx104⟩ : ∃ x, A.eval (.tmp 104) = x := ⟨_, rfl⟩
                    have f104 : (fun v _ => v = (Value.agg K.cells.toArray)) x104 u17 := by rw [← hx104]; exact hh.got 15 _ 104 rfl rfl (hall 15 (by decide))
                    obtain ⟨x105, hx105⟩ : ∃ x, A.eval (.tmp 105) = x := ⟨_, rfl⟩
                    have f105 : (fun v _ => v = (Value.bool false)) x105 u17 := by rw [← hx105]; exact hh.got 16 _ 105 rfl rfl (hall 16 (by decide))
                    obtain ⟨x106, hx106⟩ : ∃ x, A.eval (.tmp 106) = x := ⟨_, rfl⟩
                    have f106 : (fun v _ => v = (Value.bool false)) x106 u17 := by rw [← hx106]; exact hh.got 17 _ 106 rfl rfl (hall 17 (by decide))
                    dsimp only [wrote, List.foldl] at hA
                    rw [hx89, hx90, hx91, hx92, hx93, hx94, hx95, hx96, hx97, hx98, hx99, hx100, hx101, hx102, hx103, hx104, hx105, hx106] at hA
                    clear hh hall hx89 hx90 hx91 hx92 hx93 hx94 hx95 hx96 hx97 hx98 hx99 hx100 hx101 hx102 hx103 hx104 hx105 hx106
                    replace f89 := (f89 : x89 = (.int .i64 (k : Nat)))
                    subst f89
                    replace f90 := (f90 : x90 = (.pointer (some ⟨b8, 0, none⟩)))
                    subst f90
                    replace f91 := (f91 : x91 = (.slice (some ⟨gw, ow, none⟩) m cw))
                    subst f91
                    replace f92 := (f92 : x92 = (.int .i64 (m : Nat)))
                    subst f92
                    replace f93 := (f93 : x93 = (.bool false))
                    subst f93
                    replace f94 := (f94 : x94 = (.bool false))
                    subst f94
                    replace f95 := (f95 : x95 = (.pointer (some ⟨b8, 0, none⟩)))
                    subst f95
                    replace f96 := (f96 : x96 = (.slice (some ⟨gw, ow, none⟩) m cw))
                    subst f96
                    replace f97 := (f97 : x97 = (.int .i64 (k : Nat)))
                    subst f97
                    replace f98 := (f98 : x98 = (.pointer (some ⟨gw, ow + k * 34, none⟩)))
                    subst f98
                    replace f99 := (f99 : x99 = (.agg K.cells.toArray))
                    subst f99
                    replace f100 := (f100 : x100 = (.pointer (some ⟨b3, 0, none⟩)))
                    subst f100
                    replace f101 := (f101 : x101 = (.slice (some ⟨gr, orr, none⟩) n c))
                    subst f101
                    replace f102 := (f102 : x102 = (.int .i64 (i : Nat)))
                    subst f102
                    replace f103 := (f103 : x103 = (.pointer (some ⟨gr, orr + i * 34, none⟩)))
                    subst f103
                    replace f104 := (f104 : x104 = (.agg K.cells.toArray))
                    subst f104
                    replace f105 := (f105 : x105 = (.bool false))
                    subst f105
                    replace f106 := (f106 : x106 = (.bool false))
                    subst f106
                    subst hA
                    show wpList _ _ _ [] _ _
                    unfold wpList
                    simp only [Act.put, List.setIfInBounds_toArray, List.set_cons_succ, List.set_cons_zero]
                    have HGn := hid (gtrans HG.out HU.out)
                    go_wp2_with fail
                    go_roundw
                    case rel => exact ⟨i + 1, by go_num, by rw [HSn.out]; go_num, by omega, HGn⟩
                    case measure => simp [intOf]; omega
            · have hge : ¬ (i : Int) < (n : Int) := by omega
              obtain rfl : i = n := by omega
              rw [HEnd2.out]
              go_wp2_with (go_at_call 26; (with_reducible refine (HWk.out _).mono ?_); rintro e w9 ⟨rfl, hg9⟩; have HG9 := hid hg9; clear hg9)
              go_ret
              exact ⟨rfl, gtrans (gtrans HG12.out HG.out) HG9.out⟩
end Go.Proofs.Ytmpcpakdocaieaa
