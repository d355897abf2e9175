/- asks. -/
import Derived.Test.YtmpcpakdocaieaaRfF
namespace Go.Proofs.Ytmpcpakdocaieaa
open Go Go.RowKit
open Go.RowKit (wrap32 wrap64)

theorem Try.under69 : Try.prog.underlying 69 = some (.struct (Try.prog.fieldsOf 69)) := by kernel_rfl
set_option maxRecDepth 100000 in
set_option maxHeartbeats 3200000 in
theorem asks_any (w : World) (v : Value) (F : Nat → Prop) (l : List Ky) (nx kid : Nat) (hv : RdK w F v l) (hl : l.length ≤ 1000000) :
    Calls Try.prog 17 #[.agg #[v, .int .u64 nx], .int .u64 kid] w fun e w' => e = .returned (.bool true) ∧ w.grownBy w' none := by
  have HV := hid hv
  obtain ⟨ho, a, b, off, c, rfl, hc, Ha, Hc⟩ := hv.open
  obtain ⟨n, HN⟩ : ∃ n, Hid (l.length = n) := ⟨_, hid rfl⟩
  have HOk := hid ho
  have HLe : Hid (l.length ≤ 1000000) := hid hl
  have HLn : Hid (∀ u, w.grownBy u none → Calls Try.prog 8 #[.agg #[.slice a n c, .int .u64 nx]] u fun e w' => ∃ g c, e = .returned (.agg #[.slice (some ⟨g, 0, none⟩) n c, .int .u64 nx]) ∧ LentK u.heap.size w' g c l ∧ u.grownBy w' none) := fun u hu => by
    have := lent_any u _ F l nx (HV.out.keep hu) HLe.out
    rw [HN.out] at this
    exact this
  rw [HN.out]
  rw [HN.out] at HV
  clear hv hc ho Ha Hc hl
  go_enter Try.func17, Try.ntmps17
  go_upto_region 2 with (first
    | ((with_reducible refine wpList_box_row (by with_unfolding_all rfl) 69 _ (by with_unfolding_all rfl) [.slice a n c, .int .u64 nx] (by with_unfolding_all rfl) ?_); intro w1 B1 s1 g1; have HB1 := hid B1; have HG1 := hid g1; clear B1 s1 g1)
    | (with_reducible refine wpList_load_part (by with_unfolding_all rfl) 69 _ (by with_unfolding_all rfl) w.heap.size 0 [.slice a n c, .int .u64 nx] _ (by with_unfolding_all rfl) HB1.out.whole Try.underlying69 (by with_unfolding_all rfl) (by with_unfolding_all exact Try.size69) ?_)
    | (go_at_call 8; (with_reducible refine (HLn.out _ HG1.out).mono ?_); rintro e w2 ⟨g, cg, rfl, hL2, hg2⟩; have HL2 := hid (show LentK w.heap.size w2 g cg l from ⟨hL2.1.below HG1.out.size, hL2.2⟩); have HB2 := hid (HB1.out.keep hg2); have HG2 := hid (gtrans HG1.out hg2); clear hL2 hg2)
    | ((with_reducible refine wpList_alloc_row (by with_unfolding_all rfl) 69 (by with_unfolding_all rfl) [.slice none 0 0, .int .u64 0] Try.zero69 ?_); intro w3 B3 s3 g3; have HX3 := hid B3; have HL3 := hid (HL2.out.keep g3); have HB3 := hid (HB2.out.keep g3); have HG3 := hid (gtrans HG2.out g3); clear B3 s3 g3)
    | ((with_reducible refine wpList_store_all (by with_unfolding_all rfl) 69 _ _ (by with_unfolding_all rfl) _ [.slice none 0 0, .int .u64 0] [.slice (some ⟨g, 0, none⟩) n cg, .int .u64 nx] 69 (by with_unfolding_all rfl) (by with_unfolding_all rfl) HX3.out (by with_unfolding_all rfl) (by with_unfolding_all exact Try.size69) (ring_one _ _ _ _) ?_); intro w4 B4 g4 s4; have HX4 := hid B4; have HL4 := hid (show LentK w.heap.size w4 g cg l from ⟨HL3.out.1.offB g4 HX3.out (by decide), HL3.out.2⟩); have HB4 := hid (HB3.out.on g4 (by have := HB2.out.lt; simp; omega)); have HG4 := hid (HG3.out.andThen g4 (fun j hj => .inl (by injection hj with hj; have := HG2.out.size; omega))); clear B4 g4 s4))
  obtain ⟨p2, hp2⟩ : ∃ x, w.heap.size = x := ⟨_, rfl⟩
  obtain ⟨p5, hp5⟩ : ∃ x, w2.heap.size = x := ⟨_, rfl⟩
  rw [hp2] at HB4
  rw [hp5] at HX4
  simp only [hp2, hp5]
  clear hp2 hp5 HB1 HB2 HB3 HX3 HL2 HL3 HG1 HG2 HG3 HLn
  obtain ⟨CK, HCKe⟩ : ∃ x, Hid (chk l nx = x) := ⟨_, hid rfl⟩
  obtain ⟨KC, HKCe⟩ : ∃ x, Hid ((if isRing l nx = true then lastK l else zky).cells = x) := ⟨_, hid rfl⟩
  obtain ⟨KB, HKBe⟩ : ∃ x, Hid (isRing l nx = x) := ⟨_, hid rfl⟩
  obtain ⟨FC, HFCe⟩ : ∃ x, Hid ((keyOr (fnd l nx kid)).cells = x) := ⟨_, hid rfl⟩
  obtain ⟨FB, HFBe⟩ : ∃ x, Hid ((fnd l nx kid).isSome = x) := ⟨_, hid rfl⟩
  have HKok : Hid ((if isRing l nx = true then lastK l else zky).sec.length = 32) := hid (by
    by_cases h : isRing l nx = true
    · rw [if_pos h]
      have hp := goodL_pos (isRing_good h).1
      obtain ⟨m, hm⟩ : ∃ m, l.length = m + 1 := ⟨l.length - 1, by omega⟩
      exact (HOk.out _ (List.mem_of_getElem? (last_at hm))).2.1
    · rw [if_neg h]; exact zky_ok.2.1)
  have HFok : Hid ((keyOr (fnd l nx kid)).sec.length = 32) := hid (keyOr_ok HOk.out nx kid).2.1
  have HLKC : Hid (KC.length = 34) := hid (by rw [← HKCe.out]; exact Ky.cells_length HKok.out)
  have HLFC : Hid (FC.length = 34) := hid (by rw [← HFCe.out]; exact Ky.cells_length HFok.out)
  have H1KC : Hid (∀ v ∈ KC, v.oneCell' = true) := hid (by rw [← HKCe.out]; exact Ky.one _)
  have H1FC : Hid (∀ v ∈ FC, v.oneCell' = true) := hid (by rw [← HFCe.out]; exact Ky.one _)
  have HNk : Hid (∀ (x y : Operand) (u : World), (do eqGuard .neq 107 x y (.agg KC.toArray) (.agg KC.toArray); binOp .neq 107 (.agg KC.toArray) (.agg KC.toArray) : Sem Value).run Try.prog u = .ok (.bool false) u) := fun x y u => by
    have := neq_key HKok.out HKok.out (x := x) (y := y) u
    rw [beq_self_eq_true, HKCe.out] at this
    exact this
  have HNf : Hid (∀ (x y : Operand) (u : World), (do eqGuard .neq 107 x y (.agg FC.toArray) (.agg FC.toArray); binOp .neq 107 (.agg FC.toArray) (.agg FC.toArray) : Sem Value).run Try.prog u = .ok (.bool false) u) := fun x y u => by
    have := neq_key HFok.out HFok.out (x := x) (y := y) u
    rw [beq_self_eq_true, HFCe.out] at this
    exact this
  have HNz : Hid (∀ (x y : Operand) (u : World), (do eqGuard .neq 3 x y (.int .i64 CK) (.int .i64 CK); binOp .neq 3 (.int .i64 CK) (.int .i64 CK) : Sem Value).run Try.prog u = .ok (.bool false) u) := fun x y u => by go_simp
  have HNu : Hid (∀ u : World, Calls Try.prog 22 #[.int .i64 CK] u fun r w' => r = .returned (.int .i64 CK) ∧ w' = u) := fun u => num_any CK u
  have HNq : Hid (∀ u : World, Calls Try.prog 22 #[.int .i64 CK] u fun r w' => r = .returned (.int .i64 CK) ∧ u.grownBy w' none) := fun u => (num_any CK u).mono fun e w' ⟨h1, h2⟩ => ⟨h1, by rw [h2]; exact grefl _ _⟩
  have HRx : Hid (∀ u, w4.grownBy u none → RdK u (fun k => w.heap.size ≤ k) (.slice (some ⟨g, 0, none⟩) n cg) l) := hid (fun u hu => by have := (HL4.out.keep hu).rd; rw [HN.out] at this; exact this)
  have HRv : Hid (∀ u, w4.grownBy u none → RdK u F (.slice a n c) l) := hid (fun u hu => HV.out.keep (gtrans HG4.out hu))
  have HLb : Hid (l.length ≤ 1099511627776) := hid (by have := HLe.out; omega)
  have HC31 : Hid (∀ u, w4.grownBy u none → Calls Try.prog 31 #[.agg #[.slice (some ⟨g, 0, none⟩) n cg, .int .u64 nx]] u fun e w' => ∃ v, e = .returned v ∧ u.grownBy w' none ∧ v = Value.int .i64 CK) := fun u hu => by
    have h := check_any u _ _ l nx (HRx.out u hu) HLb.out
    rw [HCKe.out] at h
    exact h.mono fun e w' ⟨he, hg⟩ => ⟨_, he, hg, rfl⟩
  have HC34 : Hid (∀ u, w4.grownBy u none → Calls Try.prog 34 #[.agg #[.slice a n c, .int .u64 nx]] u fun e w' => ∃ v, e = .returned v ∧ u.grownBy w' none ∧ v = Value.int .i64 CK) := fun u hu => by
    have h := rchk_any u _ _ l nx (HRv.out u hu) HLb.out
    rw [HCKe.out] at h
    exact h.mono fun e w' ⟨he, hg⟩ => ⟨_, he, hg, rfl⟩
  have HCu : Hid (∀ u, w4.grownBy u none → Calls Try.prog 29 #[.agg #[.slice (some ⟨g, 0, none⟩) n cg, .int .u64 nx]] u fun e w' => e = .returned (.tuple #[.agg KC.toArray, .bool KB]) ∧ u.grownBy w' none) := fun u hu => by
    have h := current_any u _ _ l nx (HRx.out u hu) HLb.out
    rw [HKCe.out, HKBe.out] at h
    exact h
  have HCr : Hid (∀ u, w4.grownBy u none → Calls Try.prog 41 #[.agg #[.slice a n c, .int .u64 nx]] u fun e w' => e = .returned (.tuple #[.agg KC.toArray, .bool KB]) ∧ u.grownBy w' none) := fun u hu => by
    have h := rcur_any u _ _ l nx (HRv.out u hu) HLb.out
    rw [HKCe.out, HKBe.out] at h
    exact h
  have HFi : Hid (∀ u, w4.grownBy u none → Calls Try.prog 30 #[.agg #[.slice (some ⟨g, 0, none⟩) n cg, .int .u64 nx], .int .u64 kid] u fun e w' => e = .returned (.tuple #[.agg FC.toArray, .bool FB]) ∧ u.grownBy w' none) := fun u hu => by
    have h := rfind_any u _ _ l nx kid (HRx.out u hu) HLb.out
    rw [HFCe.out, HFBe.out] at h
    exact h
  have HFr : Hid (∀ u, w4.grownBy u none → Calls Try.prog 38 #[.agg #[.slice a n c, .int .u64 nx], .int .u64 kid] u fun e w' => e = .returned (.tuple #[.agg FC.toArray, .bool FB]) ∧ u.grownBy w' none) := fun u hu => by
    have h := rfnd_any u _ _ l nx kid (HRv.out u hu) HLb.out
    rw [HFCe.out, HFBe.out] at h
    exact h
  have HBk : Hid (∀ u, w4.grownBy u none → Calls Try.prog 19 #[.slice (some ⟨g, 0, none⟩) n cg, .slice a n c] u fun e w' => e = .returned (.bool true) ∧ u.grownBy w' none) := fun u hu => by
    have h := backK_any u _ F _ g cg l (HL4.out.keep hu) (HRv.out u hu) HLe.out
    rw [HN.out] at h
    exact h
  clear HKok HFok HKCe HFCe HCKe HKBe HFBe HRx HRv HV HOk
  go_wp2_with fail
  go_loopw [6] (fun iv wr => ∃ i : Nat, iv = .int .i64 i ∧ i ≤ 2 ∧ Hid (w4.grownBy wr none)) (fun iv _ => 2 - (intOf iv).toNat)
  case atStart => exact ⟨0, rfl, by omega, hid (grefl _ _)⟩
  case round =>
    obtain ⟨i, rfl, hi, HGr0⟩ := hrel
    have HX := hid (HX4.out.keep HGr0.out)
    have HB := hid (HB4.out.keep HGr0.out)
    by_cases hlt : i < 2
    · as_aux_lemma =>
      have hlt' : (i : Int) < 2 := by omega
      have HC31' := hid (fun u (hu : wr.grownBy u none) => HC31.out u (gtrans HGr0.out hu))
      have HC34' := hid (fun u (hu : wr.grownBy u none) => HC34.out u (gtrans HGr0.out hu))
      go_upto_region 5 with fail
      refine wp_region_listX (by kernel_rfl) [fun v _ => v = (Value.agg [Value.slice (some ⟨g, 0, none⟩) n cg, Value.int .u64 nx].toArray), fun v _ => v = Value.int .i64 CK, fun v _ => v = (Value.int .i64 CK), fun v _ => v = (Value.agg [Value.slice a n c, Value.int .u64 nx].toArray), fun v _ => v = Value.int .i64 CK, fun v _ => v = (Value.bool false)] (none) (fun _ => none) 6 (by kernel_rfl) (by kernel_rfl) (by kernel_rfl) (by kernel_rfl) (by decide) noRow_one (fun _ => .inl rfl) ⟨fun i v u u' hki h hg => h, fun i v u u' hki h hg => h, fun i v u u' hki h hg => h, fun i v u u' hki h hg => h, fun i v u u' hki h hg => h, fun i v u u' hki h hg => h, trivial⟩ ⟨?_, ?_, ?_, ?_, ?_, ?_, trivial⟩ ?_
      · intro A u hu hpu hsz hout hdeps
        have e5 : A.eval (.tmp 5) = (.pointer (some ⟨p5, 0, none⟩)) := (hout 5 (by kernel_rfl)).trans rfl
        refine ifw_none rfl ?_
        with_reducible refine shown_q (Value.agg [Value.slice (some ⟨g, 0, none⟩) n cg, Value.int .u64 nx].toArray) ?qq_7q1_0 (fun _ _ => ?qr_7q1_0)
        case qr_7q1_0 => exact (rfl : (Value.agg [Value.slice (some ⟨g, 0, none⟩) n cg, Value.int .u64 nx].toArray) = (Value.agg [Value.slice (some ⟨g, 0, none⟩) n cg, Value.int .u64 nx].toArray))
        with_reducible refine quietAt_load 69 (.tmp 5) ?h0_7q1_0 p5 0 [Value.slice (some ⟨g, 0, none⟩) n cg, Value.int .u64 nx] (.struct (Try.prog.fieldsOf 69)) ?h1_7q1_0 ?h2_7q1_0 ?h3_7q1_0 ?h4_7q1_0 ?h5_7q1_0
        case h0_7q1_0 => rfl
        case h1_7q1_0 => exact e5
        case h2_7q1_0 => exact (HX.out.keep hu).whole
        case h3_7q1_0 => exact Try.under69
        case h4_7q1_0 => rfl
        case h5_7q1_0 => exact Try.size69
      · intro A u hu hpu hsz hout hdeps
        have e21 : A.eval (.tmp 21) = (.agg [.slice (some ⟨g, 0, none⟩) n cg, .int .u64 nx].toArray) := by have h := depL hdeps 0 (by kernel_rfl) 21 (by kernel_rfl); exact h
        refine ifw_none rfl ?_
        with_reducible refine shown_call 31 Try.f31 ?h0_7q1_1 ?h1_7q1_1 ?h2_7q1_1 #[.tmp 21] #[69] ?h3_7q1_1 #[(Value.agg [Value.slice (some ⟨g, 0, none⟩) n cg, Value.int .u64 nx].toArray)] ?h4_7q1_1 ?h5_7q1_1
        case h0_7q1_1 => exact Try.func31
        case h1_7q1_1 => kernel_rfl
        case h2_7q1_1 => kernel_rfl
        case h3_7q1_1 => rfl
        case h4_7q1_1 => exact map1 _ _ _ e21
        case h5_7q1_1 => exact HC31'.out u hu
      · intro A u hu hpu hsz hout hdeps
        have f22 : (fun v _ => v = Value.int .i64 CK) (A.eval (.tmp 22)) u := by have h := depL hdeps 1 (by kernel_rfl) 22 (by kernel_rfl); exact h
        have e22 := (f22 : _ = Value.int .i64 CK)
        refine ifw_none rfl ?_
        with_reducible refine shown_q (Value.int .i64 CK) ?qq_7q1_2 (fun _ _ => ?qr_7q1_2)
        case qr_7q1_2 => exact (rfl : (Value.int .i64 CK) = (Value.int .i64 CK))
        with_reducible refine quietAt_call 22 Try.f22 ?h0_7q1_2 ?h1_7q1_2 ?h2_7q1_2 #[.tmp 22] #[74] ?h3_7q1_2 (Value.int .i64 CK) #[(Value.int .i64 CK)] ?h4_7q1_2 ?h5_7q1_2
        case h0_7q1_2 => exact Try.func22
        case h1_7q1_2 => kernel_rfl
        case h2_7q1_2 => kernel_rfl
        case h3_7q1_2 => rfl
        case h4_7q1_2 => exact map1 _ _ _ e22
        case h5_7q1_2 => exact HNq.out u
      · intro A u hu hpu hsz hout hdeps
        have e2 : A.eval (.tmp 2) = (.pointer (some ⟨p2, 0, none⟩)) := (hout 2 (by kernel_rfl)).trans rfl
        refine ifw_none rfl ?_
        with_reducible refine shown_q (Value.agg [Value.slice a n c, Value.int .u64 nx].toArray) ?qq_7q1_3 (fun _ _ => ?qr_7q1_3)
        case qr_7q1_3 => exact (rfl : (Value.agg [Value.slice a n c, Value.int .u64 nx].toArray) = (Value.agg [Value.slice a n c, Value.int .u64 nx].toArray))
        with_reducible refine quietAt_load 69 (.tmp 2) ?h0_7q1_3 p2 0 [Value.slice a n c, Value.int .u64 nx] (.struct (Try.prog.fieldsOf 69)) ?h1_7q1_3 ?h2_7q1_3 ?h3_7q1_3 ?h4_7q1_3 ?h5_7q1_3
        case h0_7q1_3 => rfl
        case h1_7q1_3 => exact e2
        case h2_7q1_3 => exact (HB.out.keep hu).whole
        case h3_7q1_3 => exact Try.under69
        case h4_7q1_3 => rfl
        case h5_7q1_3 => exact Try.size69
      · intro A u hu hpu hsz hout hdeps
        have e24 : A.eval (.tmp 24) = (.agg [.slice a n c, .int .u64 nx].toArray) := by have h := depL hdeps 3 (by kernel_rfl) 24 (by kernel_rfl); exact h
        refine ifw_none rfl ?_
        with_reducible refine shown_call 34 Try.f34 ?h0_7q1_4 ?h1_7q1_4 ?h2_7q1_4 #[.tmp 24] #[69] ?h3_7q1_4 #[(Value.agg [Value.slice a n c, Value.int .u64 nx].toArray)] ?h4_7q1_4 ?h5_7q1_4
        case h0_7q1_4 => exact Try.func34
        case h1_7q1_4 => kernel_rfl
        case h2_7q1_4 => kernel_rfl
        case h3_7q1_4 => rfl
        case h4_7q1_4 => exact map1 _ _ _ e24
        case h5_7q1_4 => exact HC34'.out u hu
      · intro A u hu hpu hsz hout hdeps
        have e23 : A.eval (.tmp 23) = (.int .i64 CK) := by have h := depL hdeps 2 (by kernel_rfl) 23 (by kernel_rfl); exact h
        have f25 : (fun v _ => v = Value.int .i64 CK) (A.eval (.tmp 25)) u := by have h := depL hdeps 4 (by kernel_rfl) 25 (by kernel_rfl); exact h
        have e25 := (f25 : _ = Value.int .i64 CK)
        refine ifw_none rfl ?_
        with_reducible refine shown_q (Value.bool false) ?qq_7q1_5 (fun _ _ => ?qr_7q1_5)
        case qr_7q1_5 => exact (rfl : (Value.bool false) = (Value.bool false))
        with_reducible refine quietAt_bin .neq 3 (.tmp 23) (.tmp 25) 3 (Value.int .i64 CK) (Value.int .i64 CK) (Value.bool false) ?h0_7q1_5 ?h1_7q1_5 ?h2_7q1_5 ?h3_7q1_5
        case h0_7q1_5 => rfl
        case h1_7q1_5 => exact e23
        case h2_7q1_5 => exact e25
        case h3_7q1_5 => exact HNz.out _ _ u
      · intro A u8 listed hh hall
        have hA := hh.frame
        have HU := hid hh.grown
        obtain ⟨x21, hx21⟩ : ∃ x, A.eval (.tmp 21) = x := ⟨_, rfl⟩
        have f21 : (fun v _ => v = (Value.agg [Value.slice (some ⟨g, 0, none⟩) n cg, Value.int .u64 nx].toArray)) x21 u8 := by rw [← hx21]; exact hh.got 0 _ 21 rfl rfl (hall 0 (by decide))
        obtain ⟨x22, hx22⟩ : ∃ x, A.eval (.tmp 22) = x := ⟨_, rfl⟩
        have f22 : (fun v _ => v = Value.int .i64 CK) x22 u8 := by rw [← hx22]; exact hh.got 1 _ 22 rfl rfl (hall 1 (by decide))
        obtain ⟨x23, hx23⟩ : ∃ x, A.eval (.tmp 23) = x := ⟨_, rfl⟩
        have f23 : (fun v _ => v = (Value.int .i64 CK)) x23 u8 := by rw [← hx23]; exact hh.got 2 _ 23 rfl rfl (hall 2 (by decide))
        obtain ⟨x24, hx24⟩ : ∃ x, A.eval (.tmp 24) = x := ⟨_, rfl⟩
        have f24 : (fun v _ => v = (Value.agg [Value.slice a n c, Value.int .u64 nx].toArray)) x24 u8 := by rw [← hx24]; exact hh.got 3 _ 24 rfl rfl (hall 3 (by decide))
        obtain ⟨x25, hx25⟩ : ∃ x, A.eval (.tmp 25) = x := ⟨_, rfl⟩
        have f25 : (fun v _ => v = Value.int .i64 CK) x25 u8 := by rw [← hx25]; exact hh.got 4 _ 25 rfl rfl (hall 4 (by decide))
        obtain ⟨x26, hx26⟩ : ∃ x, A.eval (.tmp 26) = x := ⟨_, rfl⟩
        have f26 : (fun v _ => v = (Value.bool false)) x26 u8 := by rw [← hx26]; exact hh.got 5 _ 26 rfl rfl (hall 5 (by decide))
        dsimp only [wrote, List.foldl] at hA
        rw [hx21, hx22, hx23, hx24, hx25, hx26] at hA
        clear hh hall hx21 hx22 hx23 hx24 hx25 hx26
        replace f21 := (f21 : x21 = (.agg [.slice (some ⟨g, 0, none⟩) n cg, .int .u64 nx].toArray))
        subst f21
        have e22 := (f22 : _ = Value.int .i64 CK)
        subst e22
        replace f23 := (f23 : x23 = (.int .i64 CK))
        subst f23
        replace f24 := (f24 : x24 = (.agg [.slice a n c, .int .u64 nx].toArray))
        subst f24
        have e25 := (f25 : _ = Value.int .i64 CK)
        subst e25
        replace f26 := (f26 : x26 = (.bool false))
        subst f26
        subst hA
        show wpList _ _ _ [] _ _
        unfold wpList
        simp only [Act.put, List.setIfInBounds_toArray, List.set_cons_succ, List.set_cons_zero]
        have HXr := hid (HX.out.keep HU.out)
        have HBr := hid (HB.out.keep HU.out)
        have HGr := hid (gtrans HGr0.out HU.out)
        clear HX HB HU
        go_upto_region 8 with (first
          | ((with_reducible refine wpList_store_all (by with_unfolding_all rfl) 107 _ _ (by with_unfolding_all rfl) _ zky.cells KC 107 (by with_unfolding_all rfl) (by with_unfolding_all rfl) HZ7b.out (by rw [HLKC.out]; with_unfolding_all rfl) (by rw [HLKC.out]; exact Try.size107) H1KC.out ?_); intro w7c BB gg ss; have HK77c := hid BB; have HX7c := hid (HX7b.out.on gg (by have := HX7a.out.lt; simp; omega)); have HB7c := hid (HB7b.out.on gg (by have := HB7a.out.lt; simp; omega)); have HG7c := hid (HG7b.out.andThen gg (fun j hj => .inl (by injection hj with hj; have := HG7a.out.size; omega))); clear BB gg ss)
          | (have := HG7a; clear this; (with_reducible refine wpList_alloc_row (by with_unfolding_all rfl) 107 (by with_unfolding_all rfl) zky.cells Try.zero107 ?_); intro w7b BB ss gg; have HZ7b := hid BB; have HX7b := hid (HX7a.out.keep gg); have HB7b := hid (HB7a.out.keep gg); have HG7b := hid (gtrans HG7a.out gg); clear BB ss gg)
          | (with_reducible refine wpList_load_part (by with_unfolding_all rfl) 69 _ (by with_unfolding_all rfl) p5 0 [.slice (some ⟨g, 0, none⟩) n cg, .int .u64 nx] _ (by with_unfolding_all rfl) HXr.out.whole Try.underlying69 (by with_unfolding_all rfl) (by with_unfolding_all exact Try.size69) ?_)
          | (go_at_call 29; (with_reducible refine (HCu.out _ HGr.out).mono ?_); rintro e w7a ⟨rfl, gg⟩; have HX7a := hid (HXr.out.keep gg); have HB7a := hid (HBr.out.keep gg); have HG7a := hid (gtrans HGr.out gg); clear gg))
        obtain ⟨p107, hp107⟩ : ∃ x, w7a.heap.size = x := ⟨_, rfl⟩
        rw [hp107] at HK77c ⊢
        clear hp107
        go_upto_region 9 with (first
          | ((with_reducible refine wpList_store_all (by with_unfolding_all rfl) 107 _ _ (by with_unfolding_all rfl) _ zky.cells KC 107 (by with_unfolding_all rfl) (by with_unfolding_all rfl) HZ8b.out (by rw [HLKC.out]; with_unfolding_all rfl) (by rw [HLKC.out]; exact Try.size107) H1KC.out ?_); intro w8c BB gg ss; have HK88c := hid BB; have HX8c := hid (HX8b.out.on gg (by have := HX8a.out.lt; simp; omega)); have HB8c := hid (HB8b.out.on gg (by have := HB8a.out.lt; simp; omega)); have HK78c := hid (HK78b.out.on gg (by have := HK78a.out.lt; simp; omega)); have HG8c := hid (HG8b.out.andThen gg (fun j hj => .inl (by injection hj with hj; have := HG8a.out.size; omega))); clear BB gg ss)
          | (have := HG8a; clear this; (with_reducible refine wpList_alloc_row (by with_unfolding_all rfl) 107 (by with_unfolding_all rfl) zky.cells Try.zero107 ?_); intro w8b BB ss gg; have HZ8b := hid BB; have HX8b := hid (HX8a.out.keep gg); have HB8b := hid (HB8a.out.keep gg); have HK78b := hid (HK78a.out.keep gg); have HG8b := hid (gtrans HG8a.out gg); clear BB ss gg)
          | (with_reducible refine wpList_load_part (by with_unfolding_all rfl) 69 _ (by with_unfolding_all rfl) p2 0 [.slice a n c, .int .u64 nx] _ (by with_unfolding_all rfl) HB7c.out.whole Try.underlying69 (by with_unfolding_all rfl) (by with_unfolding_all exact Try.size69) ?_)
          | (go_at_call 41; (with_reducible refine (HCr.out _ HG7c.out).mono ?_); rintro e w8a ⟨rfl, gg⟩; have HX8a := hid (HX7c.out.keep gg); have HB8a := hid (HB7c.out.keep gg); have HK78a := hid (HK77c.out.keep gg); have HG8a := hid (gtrans HG7c.out gg); clear gg))
        obtain ⟨p109, hp109⟩ : ∃ x, w8a.heap.size = x := ⟨_, rfl⟩
        rw [hp109] at HK88c ⊢
        clear hp109
        go_upto_region 10 with (first
          | ((with_reducible refine wpList_store_all (by with_unfolding_all rfl) 107 _ _ (by with_unfolding_all rfl) _ zky.cells FC 107 (by with_unfolding_all rfl) (by with_unfolding_all rfl) HZ9b.out (by rw [HLFC.out]; with_unfolding_all rfl) (by rw [HLFC.out]; exact Try.size107) H1FC.out ?_); intro w9c BB gg ss; have HK99c := hid BB; have HX9c := hid (HX9b.out.on gg (by have := HX9a.out.lt; simp; omega)); have HB9c := hid (HB9b.out.on gg (by have := HB9a.out.lt; simp; omega)); have HK79c := hid (HK79b.out.on gg (by have := HK79a.out.lt; simp; omega)); have HK89c := hid (HK89b.out.on gg (by have := HK89a.out.lt; simp; omega)); have HG9c := hid (HG9b.out.andThen gg (fun j hj => .inl (by injection hj with hj; have := HG9a.out.size; omega))); clear BB gg ss)
          | (have := HG9a; clear this; (with_reducible refine wpList_alloc_row (by with_unfolding_all rfl) 107 (by with_unfolding_all rfl) zky.cells Try.zero107 ?_); intro w9b BB ss gg; have HZ9b := hid BB; have HX9b := hid (HX9a.out.keep gg); have HB9b := hid (HB9a.out.keep gg); have HK79b := hid (HK79a.out.keep gg); have HK89b := hid (HK89a.out.keep gg); have HG9b := hid (gtrans HG9a.out gg); clear BB ss gg)
          | (with_reducible refine wpList_load_part (by with_unfolding_all rfl) 69 _ (by with_unfolding_all rfl) p5 0 [.slice (some ⟨g, 0, none⟩) n cg, .int .u64 nx] _ (by with_unfolding_all rfl) HX8c.out.whole Try.underlying69 (by with_unfolding_all rfl) (by with_unfolding_all exact Try.size69) ?_)
          | (go_at_call 30; (with_reducible refine (HFi.out _ HG8c.out).mono ?_); rintro e w9a ⟨rfl, gg⟩; have HX9a := hid (HX8c.out.keep gg); have HB9a := hid (HB8c.out.keep gg); have HK79a := hid (HK78c.out.keep gg); have HK89a := hid (HK88c.out.keep gg); have HG9a := hid (gtrans HG8c.out gg); clear gg))
        obtain ⟨p111, hp111⟩ : ∃ x, w9a.heap.size = x := ⟨_, rfl⟩
        rw [hp111] at HK99c ⊢
        clear hp111
        go_upto_region 11 with (first
          | ((with_reducible refine wpList_store_all (by with_unfolding_all rfl) 107 _ _ (by with_unfolding_all rfl) _ zky.cells FC 107 (by with_unfolding_all rfl) (by with_unfolding_all rfl) HZ10b.out (by rw [HLFC.out]; with_unfolding_all rfl) (by rw [HLFC.out]; exact Try.size107) H1FC.out ?_); intro w10c BB gg ss; have HKz10c := hid BB; have HX10c := hid (HX10b.out.on gg (by have := HX10a.out.lt; simp; omega)); have HB10c := hid (HB10b.out.on gg (by have := HB10a.out.lt; simp; omega)); have HK710c := hid (HK710b.out.on gg (by have := HK710a.out.lt; simp; omega)); have HK810c := hid (HK810b.out.on gg (by have := HK810a.out.lt; simp; omega)); have HK910c := hid (HK910b.out.on gg (by have := HK910a.out.lt; simp; omega)); have HG10c := hid (HG10b.out.andThen gg (fun j hj => .inl (by injection hj with hj; have := HG10a.out.size; omega))); clear BB gg ss)
          | (have := HG10a; clear this; (with_reducible refine wpList_alloc_row (by with_unfolding_all rfl) 107 (by with_unfolding_all rfl) zky.cells Try.zero107 ?_); intro w10b BB ss gg; have HZ10b := hid BB; have HX10b := hid (HX10a.out.keep gg); have HB10b := hid (HB10a.out.keep gg); have HK710b := hid (HK710a.out.keep gg); have HK810b := hid (HK810a.out.keep gg); have HK910b := hid (HK910a.out.keep gg); have HG10b := hid (gtrans HG10a.out gg); clear BB ss gg)
          | (with_reducible refine wpList_load_part (by with_unfolding_all rfl) 69 _ (by with_unfolding_all rfl) p2 0 [.slice a n c, .int .u64 nx] _ (by with_unfolding_all rfl) HB9c.out.whole Try.underlying69 (by with_unfolding_all rfl) (by with_unfolding_all exact Try.size69) ?_)
          | (go_at_call 38; (with_reducible refine (HFr.out _ HG9c.out).mono ?_); rintro e w10a ⟨rfl, gg⟩; have HX10a := hid (HX9c.out.keep gg); have HB10a := hid (HB9c.out.keep gg); have HK710a := hid (HK79c.out.keep gg); have HK810a := hid (HK89c.out.keep gg); have HK910a := hid (HK99c.out.keep gg); have HG10a := hid (gtrans HG9c.out gg); clear gg))
        obtain ⟨p113, hp113⟩ : ∃ x, w10a.heap.size = x := ⟨_, rfl⟩
        rw [hp113] at HKz10c ⊢
        clear hp113
        go_wp2_with (first
          | (with_reducible refine wpList_load_part (by with_unfolding_all rfl) 107 _ (by with_unfolding_all rfl) p107 0 KC _ (by with_unfolding_all rfl) HK710c.out.whole Try.underlying107 (by with_unfolding_all rfl) (by rw [HLKC.out]; exact Try.size107) ?_)
          | (with_reducible refine wpList_load_part (by with_unfolding_all rfl) 107 _ (by with_unfolding_all rfl) p109 0 KC _ (by with_unfolding_all rfl) HK810c.out.whole Try.underlying107 (by with_unfolding_all rfl) (by rw [HLKC.out]; exact Try.size107) ?_)
          | (with_reducible refine wpList_load_partW (by with_unfolding_all rfl) 107 _ (by with_unfolding_all rfl) p111 0 FC _ (by with_unfolding_all rfl) HK910c.out.whole Try.underlying107 (by with_unfolding_all rfl) (by rw [HLFC.out]; exact Try.size107) ?_)
          | (with_reducible refine wpList_load_partW (by with_unfolding_all rfl) 107 _ (by with_unfolding_all rfl) p113 0 FC _ (by with_unfolding_all rfl) HKz10c.out.whole Try.underlying107 (by with_unfolding_all rfl) (by rw [HLFC.out]; exact Try.size107) ?_)
          | (with_reducible refine wpList_binW (by with_unfolding_all rfl) .neq 107 _ _ _ (by with_unfolding_all rfl) _ _ _ (by with_unfolding_all rfl) (by with_unfolding_all rfl) (HNk.out _ _ _) ?_)
          | (with_reducible refine wpList_binW (by with_unfolding_all rfl) .neq 107 _ _ _ (by with_unfolding_all rfl) _ _ _ (by with_unfolding_all rfl) (by with_unfolding_all rfl) (HNf.out _ _ _) ?_))
        go_roundw
        case rel => exact ⟨i + 1, by go_num, by omega, HG10c⟩
        case measure => simp [intOf]; omega
    · as_aux_lemma =>
      have hlt' : ¬ (i : Int) < 2 := by omega
      have y0 := HX.out.cell 0
      have y1 := HX.out.cell 1
      have x0 := HB.out.cell 0
      have x1 := HB.out.cell 1
      go_wp2_with (first
        | (go_at_call 19; (with_reducible refine (HBk.out _ HGr0.out).mono ?_); rintro e w9 ⟨rfl, hg9⟩; have HG9 := hid (gtrans (gtrans HG4.out HGr0.out) hg9); have y3 := (HX.out.keep hg9).cell 1; have x3 := (HB.out.keep hg9).cell 1; clear hg9))
      go_ret
      exact ⟨rfl, HG9.out⟩
end Go.Proofs.Ytmpcpakdocaieaa
