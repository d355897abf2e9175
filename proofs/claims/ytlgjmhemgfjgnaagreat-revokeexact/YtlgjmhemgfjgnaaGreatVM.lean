/- Has, Add. -/
import Derived.Test.YtlgjmhemgfjgnaaGreatVL
namespace Go.Proofs.YtlgjmhemgfjgnaaGreat
open Go Go.RowKit
open Go.RowKit (wrap32 wrap64)

set_option maxRecDepth 100000 in
theorem range_sub {w : World} {b o : Nat} {A B C : List Value} (h : w.rangeAt b o (A ++ (B ++ C))) : w.rangeAt b (o + A.length) B := fun j v hv => by
  have hj : j < B.length := (List.getElem?_eq_some_iff.1 hv).1
  have := h (A.length + j) v (by rw [List.getElem?_append_right (by omega), Nat.add_sub_cancel_left, List.getElem?_append_left hj]; exact hv)
  rw [Nat.add_assoc]
  exact this
set_option maxRecDepth 100000 in
theorem range_id {w : World} {b o : Nat} {k : Ky} (h : w.rangeAt b o k.cells) : w.rangeAt b (o + 2) (Lib.byteCells k.id) := range_sub (A := [.bool k.wh, .int .u64 k.g]) (C := [.int .i64 k.ex]) h
set_option maxRecDepth 100000 in
theorem own_at {l : List Ky} (hk : okL l) (h : chk l = true) (g : Nat) {id : List UInt8} (hid : id.length = 16) :
    (ahd (own l g) id).length ≤ (own l g).length ∧ (∀ i (h : i < (own l g).length), ltB (own l g)[i].id id = decide (i < (ahd (own l g) id).length)) ∧
    (∀ h : (ahd (own l g) id).length < (own l g).length, ((own l g)[(ahd (own l g) id).length].id == id) = !(eqs (own l g) id).isEmpty) ∧ ((eqs (own l g) id).isEmpty = false → (ahd (own l g) id).length < (own l g).length) ∧
    (∀ h : (ahd (own l g) id).length < (own l g).length, (eqs (own l g) id).isEmpty = false → eqs (own l g) id = [(own l g)[(ahd (own l g) id).length]]) := by
  obtain ⟨h1, h2, h3⟩ := own_ids hk h g hid
  have hp : (own l g).Pairwise (fun x y => ltB x.id y.id = true) := (((chk_iff l).1 h).2.filter _).imp_of_mem (fun hx hy hxy => by
    have a := (List.mem_filter.1 hx).2
    have b := (List.mem_filter.1 hy).2
    exact (mf_own hxy (by simp only [beq_iff_eq] at a b; omega)).2.2)
  obtain ⟨p1, p2⟩ := part (p := fun r => ltB r.id id) (fun x y hxy hy => ltB_trans hxy hy) _ hp
  have e : (ahd (own l g) id).length = (own l g).countP (fun r => ltB r.id id) := List.countP_eq_length_filter.symm
  have hle : (ahd (own l g) id).length ≤ (own l g).length := List.length_filter_le _ _
  have hat : ∀ h : (ahd (own l g) id).length < (own l g).length, (own l g).drop (ahd (own l g) id).length = (own l g)[(ahd (own l g) id).length] :: (own l g).drop ((ahd (own l g) id).length + 1) := fun h => List.drop_eq_getElem_cons h
  refine ⟨hle, fun i hi => by rw [e]; exact part_at p1 p2 i hi, fun hlt => ?_, fun hne => ?_, fun hlt hne => ?_⟩
  · have := hat hlt
    rw [h2] at this
    cases he : eqs (own l g) id with
    | nil =>
      rw [he, List.nil_append] at this
      have hm : (own l g)[(ahd (own l g) id).length] ∈ bhd (own l g) id := by rw [this]; exact List.mem_cons_self
      have hlt2 := (List.mem_filter.1 hm).2
      show _ = false
      rw [beq_eq_false_iff_ne]
      exact fun e => ltB_ne hlt2 e.symm
    | cons q t =>
      rw [he, List.cons_append] at this
      have hq : q ∈ eqs (own l g) id := by rw [he]; exact List.mem_cons_self
      rw [← (List.cons.inj this).1]
      exact (List.mem_filter.1 hq).2
  · rcases Nat.lt_or_ge (ahd (own l g) id).length (own l g).length with hlt | hge
    · exact hlt
    · rw [List.drop_of_length_le hge] at h2
      have := (List.append_eq_nil_iff.1 h2.symm).1
      rw [this] at hne
      cases hne
  · have := hat hlt
    rw [h2] at this
    cases he : eqs (own l g) id with
    | nil => rw [he] at hne; cases hne
    | cons q t =>
      rw [he] at h3 this
      rw [← (List.cons.inj this).1]
      have : t = [] := List.eq_nil_of_length_eq_zero (by rw [List.length_cons] at h3; omega)
      rw [this]
set_option maxRecDepth 100000 in
theorem hasL_own {l : List Ky} (h : chk l = true) (g : Nat) (id : List UInt8) : hasL l g id = if wholeIn l g = true then true else !(eqs (own l g) id).isEmpty := by
  unfold hasL
  rw [h, Bool.true_and]
  by_cases hw : wholeIn l g = true
  · rw [if_pos hw]
    obtain ⟨r, e, hr, _⟩ := own_one h hw
    rw [e]
    simp [hr]
  · rw [if_neg hw]
    have hn : ∀ r ∈ own l g, r.wh = false := fun r hr => by
      cases hq : r.wh with
      | false => rfl
      | true => exact absurd (List.any_eq_true.2 ⟨r, hr, hq⟩) hw
    unfold eqs
    generalize own l g = o at hn
    induction o with
    | nil => rfl
    | cons r o ih =>
      rw [List.any_cons, hn r List.mem_cons_self, Bool.false_or, ih (fun q hq => hn q (List.mem_cons_of_mem _ hq))]
      cases hq : (r.id == id) with
      | true => rw [List.filter_cons_of_pos (p := fun r : Ky => r.id == id) hq]; simp
      | false => rw [List.filter_cons_of_neg (p := fun r : Ky => r.id == id) (by simp [hq])]; simp
set_option maxRecDepth 100000 in
set_option maxHeartbeats 3200000 in
theorem has_any (w : World) (v : Value) (F : Nat → Prop) (l : List Ky) (g : Nat) (id : List UInt8) (hv : RdK w F v l) (hl : l.length ≤ 1000000) (hidl : id.length = 16) :
    Calls Tryz.prog 19 #[v, .int .u64 g, .agg (Lib.byteCells id).toArray] w fun e w' => e = .returned (.bool (hasL l g id)) ∧ w.grownBy w' none := by
  have HV := hid hv
  obtain ⟨ho, a, b, off, c, rfl, hc, Ha, Hc⟩ := hv.open
  obtain ⟨n, HN⟩ : ∃ n, Hid (l.length = n) := ⟨_, hid rfl⟩
  have HO := hid ho
  obtain ⟨gk, HGk⟩ : ∃ x, Hid (chk l = x) := ⟨_, hid rfl⟩
  have HCk : Hid (∀ u, w.grownBy u none → Calls Tryz.prog 17 #[.slice a n c] u fun e w' => e = .returned (.int .i64 (if gk = true then 0 else 140)) ∧ u.grownBy w' none) := hid (fun u hu => by
    have := check_any u _ F l (HV.out.keep hu) (by omega)
    rw [HGk.out, HN.out] at this
    exact this)
  cases gk with
  | false =>
    have HPr : Hid (hasL l g id = false) := hid (by unfold hasL; rw [HGk.out, Bool.false_and])
    obtain ⟨J, HJ⟩ : ∃ x, Hid (Lib.byteCells id = x) := ⟨_, hid rfl⟩
    rw [HPr.out, HN.out, HJ.out]
    rw [if_neg (by decide)] at HCk
    clear hv ho hc Ha Hc HPr hl HGk HJ
    go_enter Tryz.func19, Tryz.ntmps19
    go_wp2_with (first
      | ((with_reducible refine wpList_box_row (by with_unfolding_all rfl) 69 _ (by with_unfolding_all rfl) J (by with_unfolding_all rfl) ?_); intro w1 B1 s1 g1; have HB1 := hid B1; have HG1 := hid g1; clear B1 g1 s1)
      | (go_at_call 17; (with_reducible refine (HCk.out _ HG1.out).mono ?_); rintro e w2 ⟨rfl, hg2⟩; have HG2 := hid (gtrans HG1.out hg2); clear hg2))
    go_ret
    exact ⟨rfl, HG2.out⟩
  | true =>
    rw [if_pos rfl] at HCk
    have hck := HGk.out
    obtain ⟨hlo, hdr⟩ := chk_lo hck g
    have hle := lo_own_le hck g
    obtain ⟨hk1, hk2, hk3, hk4, hk5⟩ := own_at HO.out hck g hidl
    have HHs := hid (hasL_own hck g id)
    obtain ⟨f, HF⟩ : ∃ x, Hid ((lo l g).length = x) := ⟨_, hid rfl⟩
    obtain ⟨o, HOw⟩ : ∃ x, Hid ((own l g).length = x) := ⟨_, hid rfl⟩
    obtain ⟨t, HT⟩ : ∃ x, Hid (f + o = x) := ⟨_, hid rfl⟩
    obtain ⟨k, HKk⟩ : ∃ x, Hid ((ahd (own l g) id).length = x) := ⟨_, hid rfl⟩
    rw [HF.out] at hlo hdr hle
    rw [HOw.out] at hle
    rw [HT.out, HN.out] at hle
    rw [HN.out] at HV hc
    have hmi : (l.drop f).take (t - f) = own l g := by
      rw [hdr, ← HT.out, Nat.add_sub_cancel_left, ← HOw.out, List.take_left]
    have HSp : Hid (∀ u, w.grownBy u none → Calls Tryz.prog 33 #[.slice a n c, .int .u64 g] u fun e w' => e = .returned (.tuple #[.int .i64 f, .int .i64 t]) ∧ u.grownBy w' none) := hid (fun u hu => by
      have := span_any u _ F l g (HV.out.keep hu) (by omega) hck
      rw [HF.out, HOw.out, HT.out] at this
      exact this)
    have hft : f ≤ t := by rw [← HT.out]; omega
    obtain ⟨a2, hs2, hr2⟩ := HV.out.cut f t hft hle hc
    rw [hmi] at hr2
    have hD : t - f = o := by have := HT.out; omega
    obtain ⟨C2, HC2⟩ : ∃ x, Hid (c - f = x) := ⟨_, hid rfl⟩
    rw [hD, HC2.out] at hs2 hr2
    have HS2 := hid hs2
    have HR2 := hid hr2
    obtain ⟨WB, HWB⟩ : ∃ x, Hid (wholeIn l g = x) := ⟨_, hid rfl⟩
    obtain ⟨EB, HEB⟩ : ∃ x, Hid ((eqs (own l g) id).isEmpty = x) := ⟨_, hid rfl⟩
    have HWh : Hid (∀ u, w.grownBy u none → Calls Tryz.prog 35 #[.slice a2 o C2] u fun e w' => e = .returned (.bool WB) ∧ u.grownBy w' none) := hid (fun u hu => by
      have := isWhole_any u _ F (own l g) (HR2.out.keep hu) (by rw [HOw.out]; have := HT.out; have := HN.out; omega)
      rw [isWh_own hck g, HWB.out] at this
      exact this)
    obtain ⟨J, HJ⟩ : ∃ x, Hid (Lib.byteCells id = x) := ⟨_, hid rfl⟩
    have HJL : Hid ((Tryz.prog.info? 69).map (·.size) = some J.length) := hid (by rw [← HJ.out, byteCells_length, hidl]; exact Tryz.size69)
    have HPl : Hid (∀ u, w.grownBy u none → Calls Tryz.prog 34 #[.slice a2 o C2, .agg J.toArray] u fun e w' => e = .returned (.int .i64 k) ∧ u.grownBy w' none) := hid (fun u hu => by
      have := placeOf_any u _ F (own l g) id k (HR2.out.keep hu) (by rw [HOw.out]; have := HT.out; have := HN.out; omega) hidl (by rw [← HKk.out]; exact hk1) (fun i hi => by rw [← HKk.out]; exact hk2 i hi)
      rw [HJ.out] at this
      exact this)
    have hko : k ≤ o := by rw [← HKk.out, ← HOw.out]; exact hk1
    have hEk : EB = false → k < o := fun h => by rw [← HKk.out, ← HOw.out]; exact hk4 (by rw [HEB.out]; exact h)
    obtain ⟨Rz, HRz⟩ : ∃ x, Hid (hasL l g id = x) := ⟨_, hid rfl⟩
    have HRe : Hid (Rz = if WB = true then true else !EB) := hid (by rw [← HRz.out, HHs.out, HWB.out, HEB.out])
    have HQ : Hid (∀ h : k < o, ∃ b2 off2, a2 = some ⟨b2, off2, none⟩ ∧ ∃ q : Ky, q.id.length = 16 ∧ (q.id == id) = !EB ∧ ∀ u, w.grownBy u none → u.rangeAt b2 (off2 + k * 19) q.cells) := hid (fun h => by
      obtain ⟨ho2, a2', b2, off2, c2, hv2, hc2, Ha2, Hcc⟩ := HR2.out.open
      injection hv2 with e1 e2 e3
      have hkl : k < (own l g).length := by rw [HOw.out]; exact h
      refine ⟨b2, off2, e1.trans (Ha2.out (by omega)).1, (own l g)[k], (ho2.len _ (List.getElem_mem hkl)), ?_, fun u hu => (Hcc.out u hu k hkl).1⟩
      have := hk3 (by rw [HKk.out]; exact hkl)
      rw [HEB.out] at this
      simp only [HKk.out] at this
      exact this)
    rw [HN.out, HRz.out, HJ.out]
    have hb1 : (t : Int) ≤ (n : Int) := by omega
    have hb2 : (f : Int) ≤ (t : Int) := by omega
    have hb3 : (n : Int) ≤ (c : Int) := by omega
    have HIdl := hid hidl
    have HJe := hid HJ.out
    clear hv ho hc Ha Hc hl HGk hck hlo hdr hle hmi hft hs2 hr2 HV HWB HO HF HT hk1 hk2 hk3 hk4 hk5 HHs HKk HEB hD hidl HJ
    have go : ∀ WB' : Bool, True := fun _ => trivial
    clear go
    cases WB with
    | true =>
      as_aux_lemma =>
      have HRes : Hid (Rz = true) := hid (by rw [HRe.out, if_pos rfl])
      clear HRe HQ hEk hko
      go_enter Tryz.func19, Tryz.ntmps19
      go_upto_region 6 with (first
        | ((with_reducible refine wpList_box_row (by with_unfolding_all rfl) 69 _ (by with_unfolding_all rfl) J (by with_unfolding_all rfl) ?_); intro w1 B1 s1 g1; have HB1 := hid B1; have HG1 := hid g1; clear B1 g1 s1)
        | (go_at_call 17; (with_reducible refine (HCk.out _ HG1.out).mono ?_); rintro e w2 ⟨rfl, hg2⟩; have HG2 := hid (gtrans HG1.out hg2); have HB2 := hid (HB1.out.keep hg2); clear hg2)
        | (go_at_call 33; (with_reducible refine (HSp.out _ HG2.out).mono ?_); rintro e w3 ⟨rfl, hg3⟩; have HG3 := hid (gtrans HG2.out hg3); have HB3 := hid (HB2.out.keep hg3); clear hg3)
        | (with_reducible refine wpList_slice_lh (by with_unfolding_all rfl) 57 _ _ _ (by with_unfolding_all rfl) _ _ _ _ (by with_unfolding_all rfl) (by with_unfolding_all rfl) (by with_unfolding_all rfl) (HS2.out _) ?_)
        | (with_reducible refine wpList_load_part (by with_unfolding_all rfl) 69 _ (by with_unfolding_all rfl) w.heap.size 0 J _ (by with_unfolding_all rfl) HB3.out.whole Tryz.underlying69 (by with_unfolding_all rfl) HJL.out ?_)
        | (go_at_call 34; (with_reducible refine (HPl.out _ HG3.out).mono ?_); rintro e w9 ⟨rfl, hg9⟩; have HU9 := hid (gtrans HG3.out hg9); have HB9 := hid (HB3.out.keep hg9); clear hg9))
      obtain ⟨p5, hp5⟩ : ∃ x, w.heap.size = x := ⟨_, rfl⟩
      rw [hp5] at HB9
      simp only [hp5]
      clear hp5 HB1 HB2 HB3
      refine wp_region_listX (by kernel_rfl) [fun v _ => v = (Value.slice a2 o C2), fun v _ => v = (Value.bool true), fun v _ => v = (Value.bool true), fun v _ => v = undef, fun v _ => v = undef, fun v _ => v = undef, fun v _ => v = undef, fun v _ => v = undef, fun v _ => v = undef, fun v _ => v = undef, fun v _ => v = undef, fun v _ => v = undef, fun v _ => v = undef, fun v _ => v = undef, fun v _ => v = undef, fun v _ => v = undef, fun v _ => v = (Value.bool true), fun v _ => v = (Value.bool true)] (none) (fun _ => none) 18 (by kernel_rfl) (by kernel_rfl) (by kernel_rfl) (by kernel_rfl) (by decide) noRow_one (fun _ => .inl rfl) ⟨fun i v u u' hki h hg => h, fun i v u u' hki h hg => h, fun i v u u' hki h hg => h, fun i v u u' hki h hg => h, fun i v u u' hki h hg => h, fun i v u u' hki h hg => h, fun i v u u' hki h hg => h, fun i v u u' hki h hg => h, fun i v u u' hki h hg => h, fun i v u u' hki h hg => h, fun i v u u' hki h hg => h, fun i v u u' hki h hg => h, fun i v u u' hki h hg => h, fun i v u u' hki h hg => h, fun i v u u' hki h hg => h, fun i v u u' hki h hg => h, fun i v u u' hki h hg => h, fun i v u u' hki h hg => h, trivial⟩ ⟨?_, ?_, ?_, ?_, ?_, ?_, ?_, ?_, ?_, ?_, ?_, ?_, ?_, ?_, ?_, ?_, ?_, ?_, trivial⟩ ?_
      · intro A u hu hpu hsz hout hdeps
        have e9 : A.eval (.tmp 9) = (.slice a2 o C2) := (hout 9 (by kernel_rfl)).trans rfl
        refine ifw_none rfl ?_
        with_reducible refine shown_q (Value.slice a2 o C2) ?qq_1h1_0 (fun _ _ => ?qr_1h1_0)
        case qr_1h1_0 => exact (rfl : (Value.slice a2 o C2) = (Value.slice a2 o C2))
        with_reducible refine quietAt_mv (.tmp 9) (Value.slice a2 o C2) ?h0_1h1_0 ?h1_1h1_0
        case h0_1h1_0 => rfl
        case h1_1h1_0 => exact e9
      · intro A u hu hpu hsz hout hdeps
        have e27 : A.eval (.tmp 27) = (.slice a2 o C2) := by have h := depL hdeps 0 (by kernel_rfl) 27 (by kernel_rfl); exact h
        refine ifw_none rfl ?_
        with_reducible refine shown_q (Value.bool true) ?qq_1h1_1 (fun _ _ => ?qr_1h1_1)
        case qr_1h1_1 => exact (rfl : (Value.bool true) = (Value.bool true))
        with_reducible refine quietAt_call 35 Tryz.f35 ?h0_1h1_1 ?h1_1h1_1 ?h2_1h1_1 #[.tmp 27] #[57] ?h3_1h1_1 (Value.bool true) #[(Value.slice a2 o C2)] ?h4_1h1_1 ?h5_1h1_1
        case h0_1h1_1 => exact Tryz.func35
        case h1_1h1_1 => kernel_rfl
        case h2_1h1_1 => kernel_rfl
        case h3_1h1_1 => rfl
        case h4_1h1_1 => exact map1 _ _ _ e27
        case h5_1h1_1 => exact HWh.out u (gtrans HU9.out hu)
      · intro A u hu hpu hsz hout hdeps
        have e28 : A.eval (.tmp 28) = (.bool true) := by have h := depL hdeps 1 (by kernel_rfl) 28 (by kernel_rfl); exact h
        refine ifw_none rfl ?_
        with_reducible refine shown_q (Value.bool true) ?qq_1h1_2 (fun _ _ => ?qr_1h1_2)
        case qr_1h1_2 => exact (rfl : (Value.bool true) = (Value.bool true))
        with_reducible refine quietAt_mv (.tmp 28) (Value.bool true) ?h0_1h1_2 ?h1_1h1_2
        case h0_1h1_2 => rfl
        case h1_1h1_2 => exact e28
      · intro A u hu hpu hsz hout hdeps
        have e29 : A.eval (.tmp 29) = (.bool true) := by have h := depL hdeps 2 (by kernel_rfl) 29 (by kernel_rfl); exact h
        refine ifw_pass 2 false true 29 rfl rfl e29 (by decide) ?_
        exact rfl
      · intro A u hu hpu hsz hout hdeps
        have e29 : A.eval (.tmp 29) = (.bool true) := by have h := depL hdeps 2 (by kernel_rfl) 29 (by kernel_rfl); exact h
        refine ifw_pass 2 false true 29 rfl rfl e29 (by decide) ?_
        exact rfl
      · intro A u hu hpu hsz hout hdeps
        have e29 : A.eval (.tmp 29) = (.bool true) := by have h := depL hdeps 2 (by kernel_rfl) 29 (by kernel_rfl); exact h
        refine ifw_pass 2 false true 29 rfl rfl e29 (by decide) ?_
        exact rfl
      · intro A u hu hpu hsz hout hdeps
        have e29 : A.eval (.tmp 29) = (.bool true) := by have h := depL hdeps 2 (by kernel_rfl) 29 (by kernel_rfl); exact h
        refine ifw_pass 2 false true 29 rfl rfl e29 (by decide) ?_
        exact rfl
      · intro A u hu hpu hsz hout hdeps
        have e29 : A.eval (.tmp 29) = (.bool true) := by have h := depL hdeps 2 (by kernel_rfl) 29 (by kernel_rfl); exact h
        refine ifw_pass 2 false true 29 rfl rfl e29 (by decide) ?_
        exact rfl
      · intro A u hu hpu hsz hout hdeps
        have e34 : A.eval (.tmp 34) = undef := by have h := depL hdeps 7 (by kernel_rfl) 34 (by kernel_rfl); exact h
        refine ifw_undef 7 true 34 rfl rfl e34 ?_
        exact rfl
      · intro A u hu hpu hsz hout hdeps
        have e34 : A.eval (.tmp 34) = undef := by have h := depL hdeps 7 (by kernel_rfl) 34 (by kernel_rfl); exact h
        refine ifw_undef 7 true 34 rfl rfl e34 ?_
        exact rfl
      · intro A u hu hpu hsz hout hdeps
        have e34 : A.eval (.tmp 34) = undef := by have h := depL hdeps 7 (by kernel_rfl) 34 (by kernel_rfl); exact h
        refine ifw_undef 7 true 34 rfl rfl e34 ?_
        exact rfl
      · intro A u hu hpu hsz hout hdeps
        have e34 : A.eval (.tmp 34) = undef := by have h := depL hdeps 7 (by kernel_rfl) 34 (by kernel_rfl); exact h
        refine ifw_undef 7 true 34 rfl rfl e34 ?_
        exact rfl
      · intro A u hu hpu hsz hout hdeps
        have e34 : A.eval (.tmp 34) = undef := by have h := depL hdeps 7 (by kernel_rfl) 34 (by kernel_rfl); exact h
        refine ifw_undef 7 true 34 rfl rfl e34 ?_
        exact rfl
      · intro A u hu hpu hsz hout hdeps
        have e34 : A.eval (.tmp 34) = undef := by have h := depL hdeps 7 (by kernel_rfl) 34 (by kernel_rfl); exact h
        refine ifw_undef 7 true 34 rfl rfl e34 ?_
        exact rfl
      · intro A u hu hpu hsz hout hdeps
        have e34 : A.eval (.tmp 34) = undef := by have h := depL hdeps 7 (by kernel_rfl) 34 (by kernel_rfl); exact h
        refine ifw_undef 7 true 34 rfl rfl e34 ?_
        exact rfl
      · intro A u hu hpu hsz hout hdeps
        have e29 : A.eval (.tmp 29) = (.bool true) := by have h := depL hdeps 2 (by kernel_rfl) 29 (by kernel_rfl); exact h
        refine ifw_pass 2 false true 29 rfl rfl e29 (by decide) ?_
        exact rfl
      · intro A u hu hpu hsz hout hdeps
        have e29 : A.eval (.tmp 29) = (.bool true) := by have h := depL hdeps 2 (by kernel_rfl) 29 (by kernel_rfl); exact h
        refine ifw_none rfl ?_
        with_reducible refine shown_q (Value.bool true) ?qq_1h1_16 (fun _ _ => ?qr_1h1_16)
        case qr_1h1_16 => exact (rfl : (Value.bool true) = (Value.bool true))
        with_reducible refine quietAt_pick (.tmp 29) (.const (.bool true)) (.tmp 42) true (Value.bool true) ?h0_1h1_16 ?h1_1h1_16 ?h2_1h1_16
        case h0_1h1_16 => rfl
        case h1_1h1_16 => exact e29
        case h2_1h1_16 => rw [if_pos rfl]; exact rfl
      · intro A u hu hpu hsz hout hdeps
        have e43 : A.eval (.tmp 43) = (.bool true) := by have h := depL hdeps 16 (by kernel_rfl) 43 (by kernel_rfl); exact h
        refine ifw_none rfl ?_
        with_reducible refine shown_q (Value.bool true) ?qq_1h1_17 (fun _ _ => ?qr_1h1_17)
        case qr_1h1_17 => exact (rfl : (Value.bool true) = (Value.bool true))
        with_reducible refine quietAt_as (.tmp 43) (Value.bool true) ?h0_1h1_17 ?h1_1h1_17
        case h0_1h1_17 => rfl
        case h1_1h1_17 => exact e43
      · intro A u8 listed hh hall
        have hA := hh.frame
        have HU := hid hh.grown
        obtain ⟨x27, hx27⟩ : ∃ x, A.eval (.tmp 27) = x := ⟨_, rfl⟩
        have f27 : (fun v _ => v = (Value.slice a2 o C2)) x27 u8 := by rw [← hx27]; exact hh.got 0 _ 27 rfl rfl (hall 0 (by decide))
        obtain ⟨x28, hx28⟩ : ∃ x, A.eval (.tmp 28) = x := ⟨_, rfl⟩
        have f28 : (fun v _ => v = (Value.bool true)) x28 u8 := by rw [← hx28]; exact hh.got 1 _ 28 rfl rfl (hall 1 (by decide))
        obtain ⟨x29, hx29⟩ : ∃ x, A.eval (.tmp 29) = x := ⟨_, rfl⟩
        have f29 : (fun v _ => v = (Value.bool true)) x29 u8 := by rw [← hx29]; exact hh.got 2 _ 29 rfl rfl (hall 2 (by decide))
        obtain ⟨x30, hx30⟩ : ∃ x, A.eval (.tmp 30) = x := ⟨_, rfl⟩
        have f30 : (fun v _ => v = undef) x30 u8 := by rw [← hx30]; exact hh.got 3 _ 30 rfl rfl (hall 3 (by decide))
        obtain ⟨x31, hx31⟩ : ∃ x, A.eval (.tmp 31) = x := ⟨_, rfl⟩
        have f31 : (fun v _ => v = undef) x31 u8 := by rw [← hx31]; exact hh.got 4 _ 31 rfl rfl (hall 4 (by decide))
        obtain ⟨x32, hx32⟩ : ∃ x, A.eval (.tmp 32) = x := ⟨_, rfl⟩
        have f32 : (fun v _ => v = undef) x32 u8 := by rw [← hx32]; exact hh.got 5 _ 32 rfl rfl (hall 5 (by decide))
        obtain ⟨x33, hx33⟩ : ∃ x, A.eval (.tmp 33) = x := ⟨_, rfl⟩
        have f33 : (fun v _ => v = undef) x33 u8 := by rw [← hx33]; exact hh.got 6 _ 33 rfl rfl (hall 6 (by decide))
        obtain ⟨x34, hx34⟩ : ∃ x, A.eval (.tmp 34) = x := ⟨_, rfl⟩
        have f34 : (fun v _ => v = undef) x34 u8 := by rw [← hx34]; exact hh.got 7 _ 34 rfl rfl (hall 7 (by decide))
        obtain ⟨x35, hx35⟩ : ∃ x, A.eval (.tmp 35) = x := ⟨_, rfl⟩
        have f35 : (fun v _ => v = undef) x35 u8 := by rw [← hx35]; exact hh.got 8 _ 35 rfl rfl (hall 8 (by decide))
        obtain ⟨x36, hx36⟩ : ∃ x, A.eval (.tmp 36) = x := ⟨_, rfl⟩
        have f36 : (fun v _ => v = undef) x36 u8 := by rw [← hx36]; exact hh.got 9 _ 36 rfl rfl (hall 9 (by decide))
        obtain ⟨x37, hx37⟩ : ∃ x, A.eval (.tmp 37) = x := ⟨_, rfl⟩
        have f37 : (fun v _ => v = undef) x37 u8 := by rw [← hx37]; exact hh.got 10 _ 37 rfl rfl (hall 10 (by decide))
        obtain ⟨x38, hx38⟩ : ∃ x, A.eval (.tmp 38) = x := ⟨_, rfl⟩
        have f38 : (fun v _ => v = undef) x38 u8 := by rw [← hx38]; exact hh.got 11 _ 38 rfl rfl (hall 11 (by decide))
        obtain ⟨x39, hx39⟩ : ∃ x, A.eval (.tmp 39) = x := ⟨_, rfl⟩
        have f39 : (fun v _ => v = undef) x39 u8 := by rw [← hx39]; exact hh.got 12 _ 39 rfl rfl (hall 12 (by decide))
        obtain ⟨x40, hx40⟩ : ∃ x, A.eval (.tmp 40) = x := ⟨_, rfl⟩
        have f40 : (fun v _ => v = undef) x40 u8 := by rw [← hx40]; exact hh.got 13 _ 40 rfl rfl (hall 13 (by decide))
        obtain ⟨x41, hx41⟩ : ∃ x, A.eval (.tmp 41) = x := ⟨_, rfl⟩
        have f41 : (fun v _ => v = undef) x41 u8 := by rw [← hx41]; exact hh.got 14 _ 41 rfl rfl (hall 14 (by decide))
        obtain ⟨x42, hx42⟩ : ∃ x, A.eval (.tmp 42) = x := ⟨_, rfl⟩
        have f42 : (fun v _ => v = undef) x42 u8 := by rw [← hx42]; exact hh.got 15 _ 42 rfl rfl (hall 15 (by decide))
        obtain ⟨x43, hx43⟩ : ∃ x, A.eval (.tmp 43) = x := ⟨_, rfl⟩
        have f43 : (fun v _ => v = (Value.bool true)) x43 u8 := by rw [← hx43]; exact hh.got 16 _ 43 rfl rfl (hall 16 (by decide))
        obtain ⟨x6, hx6⟩ : ∃ x, A.eval (.tmp 6) = x := ⟨_, rfl⟩
        have f6 : (fun v _ => v = (Value.bool true)) x6 u8 := by rw [← hx6]; exact hh.got 17 _ 6 rfl rfl (hall 17 (by decide))
        dsimp only [wrote, List.foldl] at hA
        rw [hx27, hx28, hx29, hx30, hx31, hx32, hx33, hx34, hx35, hx36, hx37, hx38, hx39, hx40, hx41, hx42, hx43, hx6] at hA
        clear hh hall hx27 hx28 hx29 hx30 hx31 hx32 hx33 hx34 hx35 hx36 hx37 hx38 hx39 hx40 hx41 hx42 hx43 hx6
        replace f27 := (f27 : x27 = (.slice a2 o C2))
        subst f27
        replace f28 := (f28 : x28 = (.bool true))
        subst f28
        replace f29 := (f29 : x29 = (.bool true))
        subst f29
        replace f30 := (f30 : x30 = undef)
        subst f30
        replace f31 := (f31 : x31 = undef)
        subst f31
        replace f32 := (f32 : x32 = undef)
        subst f32
        replace f33 := (f33 : x33 = undef)
        subst f33
        replace f34 := (f34 : x34 = undef)
        subst f34
        replace f35 := (f35 : x35 = undef)
        subst f35
        replace f36 := (f36 : x36 = undef)
        subst f36
        replace f37 := (f37 : x37 = undef)
        subst f37
        replace f38 := (f38 : x38 = undef)
        subst f38
        replace f39 := (f39 : x39 = undef)
        subst f39
        replace f40 := (f40 : x40 = undef)
        subst f40
        replace f41 := (f41 : x41 = undef)
        subst f41
        replace f42 := (f42 : x42 = undef)
        subst f42
        replace f43 := (f43 : x43 = (.bool true))
        subst f43
        replace f6 := (f6 : x6 = (.bool true))
        subst f6
        subst hA
        show wpList _ _ _ [] _ _
        unfold wpList
        simp only [Act.put, List.setIfInBounds_toArray, List.set_cons_succ, List.set_cons_zero]
        have HUz := hid (gtrans HU9.out HU.out)
        go_wp2_with fail
        go_ret
        exact ⟨by rw [HRes.out]; rfl, HUz.out⟩
    | false =>
      by_cases hko2 : k < o
      · obtain ⟨b2, off2, rfl, q, hq1, hq2, hq3⟩ := HQ.out hko2
        have HKo := hid hko2
        have HLt : Hid (∀ (x y : Operand) (u : World), (do eqGuard .lss 3 x y (.int .i64 (k : Nat)) (.int .i64 (o : Nat)); binOp .lss 3 (.int .i64 (k : Nat)) (.int .i64 (o : Nat)) : Sem Value).run Tryz.prog u = .ok (.bool true) u) := hid (fun x y u => by
          have h : (k : Int) < (o : Int) := by omega
          go_simp)
        have hne := fun x y u => eql_id q.id id hq1 HIdl.out (x := x) (y := y) u
        rw [hq2] at hne
        obtain ⟨JQ, HJQe⟩ : ∃ x, Hid (Lib.byteCells q.id = x) := ⟨_, hid rfl⟩
        have HJQ : Hid (∀ u, w.grownBy u none → u.rangeAt b2 (off2 + k * 19 + 2) JQ) := hid (fun u hu => by rw [← HJQe.out]; exact range_id (hq3 u hu))
        have HJQL : Hid ((Tryz.prog.info? 69).map (·.size) = some JQ.length) := hid (by rw [← HJQe.out, byteCells_length, hq1]; exact Tryz.size69)
        rw [HJQe.out, HJe.out] at hne
        have HQe := hid hne
        clear hne HQ hEk hko hq1 hq2 hq3 HJQe hko2
        cases EB with
        | false =>
          as_aux_lemma =>
          have HRes : Hid (Rz = true) := hid HRe.out
          clear HRe
          go_enter Tryz.func19, Tryz.ntmps19
          go_upto_region 6 with (first
            | ((with_reducible refine wpList_box_row (by with_unfolding_all rfl) 69 _ (by with_unfolding_all rfl) J (by with_unfolding_all rfl) ?_); intro w1 B1 s1 g1; have HB1 := hid B1; have HG1 := hid g1; clear B1 g1 s1)
            | (go_at_call 17; (with_reducible refine (HCk.out _ HG1.out).mono ?_); rintro e w2 ⟨rfl, hg2⟩; have HG2 := hid (gtrans HG1.out hg2); have HB2 := hid (HB1.out.keep hg2); clear hg2)
            | (go_at_call 33; (with_reducible refine (HSp.out _ HG2.out).mono ?_); rintro e w3 ⟨rfl, hg3⟩; have HG3 := hid (gtrans HG2.out hg3); have HB3 := hid (HB2.out.keep hg3); clear hg3)
            | (with_reducible refine wpList_slice_lh (by with_unfolding_all rfl) 57 _ _ _ (by with_unfolding_all rfl) _ _ _ _ (by with_unfolding_all rfl) (by with_unfolding_all rfl) (by with_unfolding_all rfl) (HS2.out _) ?_)
            | (with_reducible refine wpList_load_part (by with_unfolding_all rfl) 69 _ (by with_unfolding_all rfl) w.heap.size 0 J _ (by with_unfolding_all rfl) HB3.out.whole Tryz.underlying69 (by with_unfolding_all rfl) HJL.out ?_)
            | (go_at_call 34; (with_reducible refine (HPl.out _ HG3.out).mono ?_); rintro e w9 ⟨rfl, hg9⟩; have HU9 := hid (gtrans HG3.out hg9); have HB9 := hid (HB3.out.keep hg9); clear hg9))
          obtain ⟨p5, hp5⟩ : ∃ x, w.heap.size = x := ⟨_, rfl⟩
          rw [hp5] at HB9
          simp only [hp5]
          clear hp5 HB1 HB2 HB3
          refine wp_region_listX (by kernel_rfl) [fun v _ => v = (Value.slice (some ⟨b2, off2, none⟩) o C2), fun v _ => v = (Value.bool false), fun v _ => v = (Value.bool false), fun v _ => v = (Value.int .i64 (k : Nat)), fun v _ => v = (Value.slice (some ⟨b2, off2, none⟩) o C2), fun v _ => v = (Value.int .i64 (o : Nat)), fun v _ => v = (Value.bool true), fun v _ => v = (Value.bool true), fun v _ => v = (Value.slice (some ⟨b2, off2, none⟩) o C2), fun v _ => v = (Value.int .i64 (k : Nat)), fun v _ => v = (Value.pointer (some ⟨b2, off2 + k * 19, none⟩)), fun v _ => v = (Value.pointer (some ⟨b2, off2 + k * 19 + 2, none⟩)), fun v _ => v = (Value.agg JQ.toArray), fun v _ => v = (Value.agg J.toArray), fun v _ => v = (Value.bool true), fun v _ => v = (Value.bool true), fun v _ => v = (Value.bool true), fun v _ => v = (Value.bool true)] (none) (fun _ => none) 18 (by kernel_rfl) (by kernel_rfl) (by kernel_rfl) (by kernel_rfl) (by decide) noRow_one (fun _ => .inl rfl) ⟨fun i v u u' hki h hg => h, fun i v u u' hki h hg => h, fun i v u u' hki h hg => h, fun i v u u' hki h hg => h, fun i v u u' hki h hg => h, fun i v u u' hki h hg => h, fun i v u u' hki h hg => h, fun i v u u' hki h hg => h, fun i v u u' hki h hg => h, fun i v u u' hki h hg => h, fun i v u u' hki h hg => h, fun i v u u' hki h hg => h, fun i v u u' hki h hg => h, fun i v u u' hki h hg => h, fun i v u u' hki h hg => h, fun i v u u' hki h hg => h, fun i v u u' hki h hg => h, fun i v u u' hki h hg => h, trivial⟩ ⟨?_, ?_, ?_, ?_, ?_, ?_, ?_, ?_, ?_, ?_, ?_, ?_, ?_, ?_, ?_, ?_, ?_, ?_, trivial⟩ ?_
          · intro A u hu hpu hsz hout hdeps
            have e9 : A.eval (.tmp 9) = (.slice (some ⟨b2, off2, none⟩) o C2) := (hout 9 (by kernel_rfl)).trans rfl
            refine ifw_none rfl ?_
            with_reducible refine shown_q (Value.slice (some ⟨b2, off2, none⟩) o C2) ?qq_2h2_0 (fun _ _ => ?qr_2h2_0)
            case qr_2h2_0 => exact (rfl : (Value.slice (some ⟨b2, off2, none⟩) o C2) = (Value.slice (some ⟨b2, off2, none⟩) o C2))
            with_reducible refine quietAt_mv (.tmp 9) (Value.slice (some ⟨b2, off2, none⟩) o C2) ?h0_2h2_0 ?h1_2h2_0
            case h0_2h2_0 => rfl
            case h1_2h2_0 => exact e9
          · intro A u hu hpu hsz hout hdeps
            have e27 : A.eval (.tmp 27) = (.slice (some ⟨b2, off2, none⟩) o C2) := by have h := depL hdeps 0 (by kernel_rfl) 27 (by kernel_rfl); exact h
            refine ifw_none rfl ?_
            with_reducible refine shown_q (Value.bool false) ?qq_2h2_1 (fun _ _ => ?qr_2h2_1)
            case qr_2h2_1 => exact (rfl : (Value.bool false) = (Value.bool false))
            with_reducible refine quietAt_call 35 Tryz.f35 ?h0_2h2_1 ?h1_2h2_1 ?h2_2h2_1 #[.tmp 27] #[57] ?h3_2h2_1 (Value.bool false) #[(Value.slice (some ⟨b2, off2, none⟩) o C2)] ?h4_2h2_1 ?h5_2h2_1
            case h0_2h2_1 => exact Tryz.func35
            case h1_2h2_1 => kernel_rfl
            case h2_2h2_1 => kernel_rfl
            case h3_2h2_1 => rfl
            case h4_2h2_1 => exact map1 _ _ _ e27
            case h5_2h2_1 => exact HWh.out u (gtrans HU9.out hu)
          · intro A u hu hpu hsz hout hdeps
            have e28 : A.eval (.tmp 28) = (.bool false) := by have h := depL hdeps 1 (by kernel_rfl) 28 (by kernel_rfl); exact h
            refine ifw_none rfl ?_
            with_reducible refine shown_q (Value.bool false) ?qq_2h2_2 (fun _ _ => ?qr_2h2_2)
            case qr_2h2_2 => exact (rfl : (Value.bool false) = (Value.bool false))
            with_reducible refine quietAt_mv (.tmp 28) (Value.bool false) ?h0_2h2_2 ?h1_2h2_2
            case h0_2h2_2 => rfl
            case h1_2h2_2 => exact e28
          · intro A u hu hpu hsz hout hdeps
            have e29 : A.eval (.tmp 29) = (.bool false) := by have h := depL hdeps 2 (by kernel_rfl) 29 (by kernel_rfl); exact h
            have e10 : A.eval (.tmp 10) = (.int .i64 (k : Nat)) := (hout 10 (by kernel_rfl)).trans rfl
            refine ifw_want 2 false 29 rfl rfl e29 ?_
            with_reducible refine shown_q (Value.int .i64 (k : Nat)) ?qq_2h2_3 (fun _ _ => ?qr_2h2_3)
            case qr_2h2_3 => exact (rfl : (Value.int .i64 (k : Nat)) = (Value.int .i64 (k : Nat)))
            with_reducible refine quietAt_mv (.tmp 10) (Value.int .i64 (k : Nat)) ?h0_2h2_3 ?h1_2h2_3
            case h0_2h2_3 => rfl
            case h1_2h2_3 => exact e10
          · intro A u hu hpu hsz hout hdeps
            have e29 : A.eval (.tmp 29) = (.bool false) := by have h := depL hdeps 2 (by kernel_rfl) 29 (by kernel_rfl); exact h
            have e9 : A.eval (.tmp 9) = (.slice (some ⟨b2, off2, none⟩) o C2) := (hout 9 (by kernel_rfl)).trans rfl
            refine ifw_want 2 false 29 rfl rfl e29 ?_
            with_reducible refine shown_q (Value.slice (some ⟨b2, off2, none⟩) o C2) ?qq_2h2_4 (fun _ _ => ?qr_2h2_4)
            case qr_2h2_4 => exact (rfl : (Value.slice (some ⟨b2, off2, none⟩) o C2) = (Value.slice (some ⟨b2, off2, none⟩) o C2))
            with_reducible refine quietAt_mv (.tmp 9) (Value.slice (some ⟨b2, off2, none⟩) o C2) ?h0_2h2_4 ?h1_2h2_4
            case h0_2h2_4 => rfl
            case h1_2h2_4 => exact e9
          · intro A u hu hpu hsz hout hdeps
            have e29 : A.eval (.tmp 29) = (.bool false) := by have h := depL hdeps 2 (by kernel_rfl) 29 (by kernel_rfl); exact h
            have e31 : A.eval (.tmp 31) = (.slice (some ⟨b2, off2, none⟩) o C2) := by have h := depL hdeps 4 (by kernel_rfl) 31 (by kernel_rfl); exact h
            refine ifw_want 2 false 29 rfl rfl e29 ?_
            with_reducible refine shown_q (Value.int .i64 (o : Nat)) ?qq_2h2_5 (fun _ _ => ?qr_2h2_5)
            case qr_2h2_5 => exact (rfl : (Value.int .i64 (o : Nat)) = (Value.int .i64 (o : Nat)))
            with_reducible refine quietAt_len (.tmp 31) 57 ?h0_2h2_5 (some ⟨b2, off2, none⟩) o C2 ?h1_2h2_5 ?h2_2h2_5
            case h0_2h2_5 => rfl
            case h1_2h2_5 => exact e31
            case h2_2h2_5 => kernel_rfl
          · intro A u hu hpu hsz hout hdeps
            have e29 : A.eval (.tmp 29) = (.bool false) := by have h := depL hdeps 2 (by kernel_rfl) 29 (by kernel_rfl); exact h
            have e30 : A.eval (.tmp 30) = (.int .i64 (k : Nat)) := by have h := depL hdeps 3 (by kernel_rfl) 30 (by kernel_rfl); exact h
            have e32 : A.eval (.tmp 32) = (.int .i64 (o : Nat)) := by have h := depL hdeps 5 (by kernel_rfl) 32 (by kernel_rfl); exact h
            refine ifw_want 2 false 29 rfl rfl e29 ?_
            with_reducible refine shown_q (Value.bool true) ?qq_2h2_6 (fun _ _ => ?qr_2h2_6)
            case qr_2h2_6 => exact (rfl : (Value.bool true) = (Value.bool true))
            with_reducible refine quietAt_bin .lss 3 (.tmp 30) (.tmp 32) 3 (Value.int .i64 (k : Nat)) (Value.int .i64 (o : Nat)) (Value.bool true) ?h0_2h2_6 ?h1_2h2_6 ?h2_2h2_6 ?h3_2h2_6
            case h0_2h2_6 => rfl
            case h1_2h2_6 => exact e30
            case h2_2h2_6 => exact e32
            case h3_2h2_6 => exact HLt.out _ _ u
          · intro A u hu hpu hsz hout hdeps
            have e29 : A.eval (.tmp 29) = (.bool false) := by have h := depL hdeps 2 (by kernel_rfl) 29 (by kernel_rfl); exact h
            have e33 : A.eval (.tmp 33) = (.bool true) := by have h := depL hdeps 6 (by kernel_rfl) 33 (by kernel_rfl); exact h
            refine ifw_want 2 false 29 rfl rfl e29 ?_
            with_reducible refine shown_q (Value.bool true) ?qq_2h2_7 (fun _ _ => ?qr_2h2_7)
            case qr_2h2_7 => exact (rfl : (Value.bool true) = (Value.bool true))
            with_reducible refine quietAt_mv (.tmp 33) (Value.bool true) ?h0_2h2_7 ?h1_2h2_7
            case h0_2h2_7 => rfl
            case h1_2h2_7 => exact e33
          · intro A u hu hpu hsz hout hdeps
            have e34 : A.eval (.tmp 34) = (.bool true) := by have h := depL hdeps 7 (by kernel_rfl) 34 (by kernel_rfl); exact h
            have e9 : A.eval (.tmp 9) = (.slice (some ⟨b2, off2, none⟩) o C2) := (hout 9 (by kernel_rfl)).trans rfl
            refine ifw_want 7 true 34 rfl rfl e34 ?_
            with_reducible refine shown_q (Value.slice (some ⟨b2, off2, none⟩) o C2) ?qq_2h2_8 (fun _ _ => ?qr_2h2_8)
            case qr_2h2_8 => exact (rfl : (Value.slice (some ⟨b2, off2, none⟩) o C2) = (Value.slice (some ⟨b2, off2, none⟩) o C2))
            with_reducible refine quietAt_mv (.tmp 9) (Value.slice (some ⟨b2, off2, none⟩) o C2) ?h0_2h2_8 ?h1_2h2_8
            case h0_2h2_8 => rfl
            case h1_2h2_8 => exact e9
          · intro A u hu hpu hsz hout hdeps
            have e34 : A.eval (.tmp 34) = (.bool true) := by have h := depL hdeps 7 (by kernel_rfl) 34 (by kernel_rfl); exact h
            have e10 : A.eval (.tmp 10) = (.int .i64 (k : Nat)) := (hout 10 (by kernel_rfl)).trans rfl
            refine ifw_want 7 true 34 rfl rfl e34 ?_
            with_reducible refine shown_q (Value.int .i64 (k : Nat)) ?qq_2h2_9 (fun _ _ => ?qr_2h2_9)
            case qr_2h2_9 => exact (rfl : (Value.int .i64 (k : Nat)) = (Value.int .i64 (k : Nat)))
            with_reducible refine quietAt_mv (.tmp 10) (Value.int .i64 (k : Nat)) ?h0_2h2_9 ?h1_2h2_9
            case h0_2h2_9 => rfl
            case h1_2h2_9 => exact e10
          · intro A u hu hpu hsz hout hdeps
            have e34 : A.eval (.tmp 34) = (.bool true) := by have h := depL hdeps 7 (by kernel_rfl) 34 (by kernel_rfl); exact h
            have e35 : A.eval (.tmp 35) = (.slice (some ⟨b2, off2, none⟩) o C2) := by have h := depL hdeps 8 (by kernel_rfl) 35 (by kernel_rfl); exact h
            have e36 : A.eval (.tmp 36) = (.int .i64 (k : Nat)) := by have h := depL hdeps 9 (by kernel_rfl) 36 (by kernel_rfl); exact h
            refine ifw_want 7 true 34 rfl rfl e34 ?_
            with_reducible refine shown_q (Value.pointer (some ⟨b2, off2 + k * 19, none⟩)) ?qq_2h2_10 (fun _ _ => ?qr_2h2_10)
            case qr_2h2_10 => exact (rfl : (Value.pointer (some ⟨b2, off2 + k * 19, none⟩)) = (Value.pointer (some ⟨b2, off2 + k * 19, none⟩)))
            with_reducible refine quietAt_idx 57 (.tmp 35) (.tmp 36) (Value.slice (some ⟨b2, off2, none⟩) o C2) (Value.int .i64 (k : Nat)) (Value.pointer (some ⟨b2, off2 + k * 19, none⟩)) ?h0_2h2_10 ?h1_2h2_10 ?h2_2h2_10 ?h3_2h2_10
            case h0_2h2_10 => rfl
            case h1_2h2_10 => exact e35
            case h2_2h2_10 => exact e36
            case h3_2h2_10 => exact (idx23 b2 off2 o C2 k HKo.out u)
          · intro A u hu hpu hsz hout hdeps
            have e34 : A.eval (.tmp 34) = (.bool true) := by have h := depL hdeps 7 (by kernel_rfl) 34 (by kernel_rfl); exact h
            have e37 : A.eval (.tmp 37) = (.pointer (some ⟨b2, off2 + k * 19, none⟩)) := by have h := depL hdeps 10 (by kernel_rfl) 37 (by kernel_rfl); exact h
            refine ifw_want 7 true 34 rfl rfl e34 ?_
            with_reducible refine shown_q (Value.pointer (some ⟨b2, off2 + k * 19 + 2, none⟩)) ?qq_2h2_11 (fun _ _ => ?qr_2h2_11)
            case qr_2h2_11 => exact (rfl : (Value.pointer (some ⟨b2, off2 + k * 19 + 2, none⟩)) = (Value.pointer (some ⟨b2, off2 + k * 19 + 2, none⟩)))
            with_reducible refine quietAt_field 85 (.tmp 37) 2 ?h0_2h2_11 ⟨b2, off2 + k * 19, none⟩ ⟨b2, off2 + k * 19 + 2, none⟩ ?h1_2h2_11 ?h2_2h2_11
            case h0_2h2_11 => rfl
            case h1_2h2_11 => exact e37
            case h2_2h2_11 => kernel_rfl
          · intro A u hu hpu hsz hout hdeps
            have e34 : A.eval (.tmp 34) = (.bool true) := by have h := depL hdeps 7 (by kernel_rfl) 34 (by kernel_rfl); exact h
            have e38 : A.eval (.tmp 38) = (.pointer (some ⟨b2, off2 + k * 19 + 2, none⟩)) := by have h := depL hdeps 11 (by kernel_rfl) 38 (by kernel_rfl); exact h
            refine ifw_want 7 true 34 rfl rfl e34 ?_
            with_reducible refine shown_q (Value.agg JQ.toArray) ?qq_2h2_12 (fun _ _ => ?qr_2h2_12)
            case qr_2h2_12 => exact (rfl : (Value.agg JQ.toArray) = (Value.agg JQ.toArray))
            with_reducible refine quietAt_load 69 (.tmp 38) ?h0_2h2_12 b2 (off2 + k * 19 + 2) JQ (.array 16 5) ?h1_2h2_12 ?h2_2h2_12 ?h3_2h2_12 ?h4_2h2_12 ?h5_2h2_12
            case h0_2h2_12 => rfl
            case h1_2h2_12 => exact e38
            case h2_2h2_12 => exact (HJQ.out u (gtrans HU9.out hu))
            case h3_2h2_12 => exact Tryz.underlying69
            case h4_2h2_12 => rfl
            case h5_2h2_12 => exact HJQL.out
          · intro A u hu hpu hsz hout hdeps
            have e34 : A.eval (.tmp 34) = (.bool true) := by have h := depL hdeps 7 (by kernel_rfl) 34 (by kernel_rfl); exact h
            have e5 : A.eval (.tmp 5) = (.pointer (some ⟨p5, 0, none⟩)) := (hout 5 (by kernel_rfl)).trans rfl
            refine ifw_want 7 true 34 rfl rfl e34 ?_
            with_reducible refine shown_q (Value.agg J.toArray) ?qq_2h2_13 (fun _ _ => ?qr_2h2_13)
            case qr_2h2_13 => exact (rfl : (Value.agg J.toArray) = (Value.agg J.toArray))
            with_reducible refine quietAt_load 69 (.tmp 5) ?h0_2h2_13 p5 0 J (.array 16 5) ?h1_2h2_13 ?h2_2h2_13 ?h3_2h2_13 ?h4_2h2_13 ?h5_2h2_13
            case h0_2h2_13 => rfl
            case h1_2h2_13 => exact e5
            case h2_2h2_13 => exact (HB9.out.keep hu).whole
            case h3_2h2_13 => exact Tryz.underlying69
            case h4_2h2_13 => rfl
            case h5_2h2_13 => exact HJL.out
          · intro A u hu hpu hsz hout hdeps
            have e34 : A.eval (.tmp 34) = (.bool true) := by have h := depL hdeps 7 (by kernel_rfl) 34 (by kernel_rfl); exact h
            have e39 : A.eval (.tmp 39) = (.agg JQ.toArray) := by have h := depL hdeps 12 (by kernel_rfl) 39 (by kernel_rfl); exact h
            have e40 : A.eval (.tmp 40) = (.agg J.toArray) := by have h := depL hdeps 13 (by kernel_rfl) 40 (by kernel_rfl); exact h
            refine ifw_want 7 true 34 rfl rfl e34 ?_
            with_reducible refine shown_q (Value.bool true) ?qq_2h2_14 (fun _ _ => ?qr_2h2_14)
            case qr_2h2_14 => exact (rfl : (Value.bool true) = (Value.bool true))
            with_reducible refine quietAt_bin .eql 69 (.tmp 39) (.tmp 40) 69 (Value.agg JQ.toArray) (Value.agg J.toArray) (Value.bool true) ?h0_2h2_14 ?h1_2h2_14 ?h2_2h2_14 ?h3_2h2_14
            case h0_2h2_14 => rfl
            case h1_2h2_14 => exact e39
            case h2_2h2_14 => exact e40
            case h3_2h2_14 => exact HQe.out _ _ u
          · intro A u hu hpu hsz hout hdeps
            have e29 : A.eval (.tmp 29) = (.bool false) := by have h := depL hdeps 2 (by kernel_rfl) 29 (by kernel_rfl); exact h
            have e34 : A.eval (.tmp 34) = (.bool true) := by have h := depL hdeps 7 (by kernel_rfl) 34 (by kernel_rfl); exact h
            have e41 : A.eval (.tmp 41) = (.bool true) := by have h := depL hdeps 14 (by kernel_rfl) 41 (by kernel_rfl); exact h
            refine ifw_want 2 false 29 rfl rfl e29 ?_
            with_reducible refine shown_q (Value.bool true) ?qq_2h2_15 (fun _ _ => ?qr_2h2_15)
            case qr_2h2_15 => exact (rfl : (Value.bool true) = (Value.bool true))
            with_reducible refine quietAt_pick (.tmp 34) (.tmp 41) (.const (.bool false)) true (Value.bool true) ?h0_2h2_15 ?h1_2h2_15 ?h2_2h2_15
            case h0_2h2_15 => rfl
            case h1_2h2_15 => exact e34
            case h2_2h2_15 => rw [if_pos rfl]; exact e41
          · intro A u hu hpu hsz hout hdeps
            have e29 : A.eval (.tmp 29) = (.bool false) := by have h := depL hdeps 2 (by kernel_rfl) 29 (by kernel_rfl); exact h
            have e42 : A.eval (.tmp 42) = (.bool true) := by have h := depL hdeps 15 (by kernel_rfl) 42 (by kernel_rfl); exact h
            refine ifw_none rfl ?_
            with_reducible refine shown_q (Value.bool true) ?qq_2h2_16 (fun _ _ => ?qr_2h2_16)
            case qr_2h2_16 => exact (rfl : (Value.bool true) = (Value.bool true))
            with_reducible refine quietAt_pick (.tmp 29) (.const (.bool true)) (.tmp 42) false (Value.bool true) ?h0_2h2_16 ?h1_2h2_16 ?h2_2h2_16
            case h0_2h2_16 => rfl
            case h1_2h2_16 => exact e29
            case h2_2h2_16 => rw [if_neg (by decide)]; exact e42
          · intro A u hu hpu hsz hout hdeps
            have e43 : A.eval (.tmp 43) = (.bool true) := by have h := depL hdeps 16 (by kernel_rfl) 43 (by kernel_rfl); exact h
            refine ifw_none rfl ?_
            with_reducible refine shown_q (Value.bool true) ?qq_2h2_17 (fun _ _ => ?qr_2h2_17)
            case qr_2h2_17 => exact (rfl : (Value.bool true) = (Value.bool true))
            with_reducible refine quietAt_as (.tmp 43) (Value.bool true) ?h0_2h2_17 ?h1_2h2_17
            case h0_2h2_17 => rfl
            case h1_2h2_17 => exact e43
          · intro A u8 listed hh hall
            have hA := hh.frame
            have HU := hid hh.grown
            obtain ⟨x27, hx27⟩ : ∃ x, A.eval (.tmp 27) = x := ⟨_, rfl⟩
            have f27 : (fun v _ => v = (Value.slice (some ⟨b2, off2, none⟩) o C2)) x27 u8 := by rw [← hx27]; exact hh.got 0 _ 27 rfl rfl (hall 0 (by decide))
            obtain ⟨x28, hx28⟩ : ∃ x, A.eval (.tmp 28) = x := ⟨_, rfl⟩
            have f28 : (fun v _ => v = (Value.bool false)) x28 u8 := by rw [← hx28]; exact hh.got 1 _ 28 rfl rfl (hall 1 (by decide))
            obtain ⟨x29, hx29⟩ : ∃ x, A.eval (.tmp 29) = x := ⟨_, rfl⟩
            have f29 : (fun v _ => v = (Value.bool false)) x29 u8 := by rw [← hx29]; exact hh.got 2 _ 29 rfl rfl (hall 2 (by decide))
            obtain ⟨x30, hx30⟩ : ∃ x, A.eval (.tmp 30) = x := ⟨_, rfl⟩
            have f30 : (fun v _ => v = (Value.int .i64 (k : Nat))) x30 u8 := by rw [← hx30]; exact hh.got 3 _ 30 rfl rfl (hall 3 (by decide))
            obtain ⟨x31, hx31⟩ : ∃ x, A.eval (.tmp 31) = x := ⟨_, rfl⟩
            have f31 : (fun v _ => v = (Value.slice (some ⟨b2, off2, none⟩) o C2)) x31 u8 := by rw [← hx31]; exact hh.got 4 _ 31 rfl rfl (hall 4 (by decide))
            obtain ⟨x32, hx32⟩ : ∃ x, A.eval (.tmp 32) = x := ⟨_, rfl⟩
            have f32 : (fun v _ => v = (Value.int .i64 (o : Nat))) x32 u8 := by rw [← hx32]; exact hh.got 5 _ 32 rfl rfl (hall 5 (by decide))
            obtain ⟨x33, hx33⟩ : ∃ x, A.eval (.tmp 33) = x := ⟨_, rfl⟩
            have f33 : (fun v _ => v = (Value.bool true)) x33 u8 := by rw [← hx33]; exact hh.got 6 _ 33 rfl rfl (hall 6 (by decide))
            obtain ⟨x34, hx34⟩ : ∃ x, A.eval (.tmp 34) = x := ⟨_, rfl⟩
            have f34 : (fun v _ => v = (Value.bool true)) x34 u8 := by rw [← hx34]; exact hh.got 7 _ 34 rfl rfl (hall 7 (by decide))
            obtain ⟨x35, hx35⟩ : ∃ x, A.eval (.tmp 35) = x := ⟨_, rfl⟩
            have f35 : (fun v _ => v = (Value.slice (some ⟨b2, off2, none⟩) o C2)) x35 u8 := by rw [← hx35]; exact hh.got 8 _ 35 rfl rfl (hall 8 (by decide))
            obtain ⟨x36, hx36⟩ : ∃ x, A.eval (.tmp 36) = x := ⟨_, rfl⟩
            have f36 : (fun v _ => v = (Value.int .i64 (k : Nat))) x36 u8 := by rw [← hx36]; exact hh.got 9 _ 36 rfl rfl (hall 9 (by decide))
            obtain ⟨x37, hx37⟩ : ∃ x, A.eval (.tmp 37) = x := ⟨_, rfl⟩
            have f37 : (fun v _ => v = (Value.pointer (some ⟨b2, off2 + k * 19, none⟩))) x37 u8 := by rw [← hx37]; exact hh.got 10 _ 37 rfl rfl (hall 10 (by decide))
            obtain ⟨x38, hx38⟩ : ∃ x, A.eval (.tmp 38) = x := ⟨_, rfl⟩
            have f38 : (fun v _ => v = (Value.pointer (some ⟨b2, off2 + k * 19 + 2, none⟩))) x38 u8 := by rw [← hx38]; exact hh.got 11 _ 38 rfl rfl (hall 11 (by decide))
            obtain ⟨x39, hx39⟩ : ∃ x, A.eval (.tmp 39) = x := ⟨_, rfl⟩
            have f39 : (fun v _ => v = (Value.agg JQ.toArray)) x39 u8 := by rw [← hx39]; exact hh.got 12 _ 39 rfl rfl (hall 12 (by decide))
            obtain ⟨x40, hx40⟩ : ∃ x, A.eval (.tmp 40) = x := ⟨_, rfl⟩
            have f40 : (fun v _ => v = (Value.agg J.toArray)) x40 u8 := by rw [← hx40]; exact hh.got 13 _ 40 rfl rfl (hall 13 (by decide))
            obtain ⟨x41, hx41⟩ : ∃ x, A.eval (.tmp 41) = x := ⟨_, rfl⟩
            have f41 : (fun v _ => v = (Value.bool true)) x41 u8 := by rw [← hx41]; exact hh.got 14 _ 41 rfl rfl (hall 14 (by decide))
            obtain ⟨x42, hx42⟩ : ∃ x, A.eval (.tmp 42) = x := ⟨_, rfl⟩
            have f42 : (fun v _ => v = (Value.bool true)) x42 u8 := by rw [← hx42]; exact hh.got 15 _ 42 rfl rfl (hall 15 (by decide))
            obtain ⟨x43, hx43⟩ : ∃ x, A.eval (.tmp 43) = x := ⟨_, rfl⟩
            have f43 : (fun v _ => v = (Value.bool true)) x43 u8 := by rw [← hx43]; exact hh.got 16 _ 43 rfl rfl (hall 16 (by decide))
            obtain ⟨x6, hx6⟩ : ∃ x, A.eval (.tmp 6) = x := ⟨_, rfl⟩
            have f6 : (fun v _ => v = (Value.bool true)) x6 u8 := by rw [← hx6]; exact hh.got 17 _ 6 rfl rfl (hall 17 (by decide))
            dsimp only [wrote, List.foldl] at hA
            rw [hx27, hx28, hx29, hx30, hx31, hx32, hx33, hx34, hx35, hx36, hx37, hx38, hx39, hx40, hx41, hx42, hx43, hx6] at hA
            clear hh hall hx27 hx28 hx29 hx30 hx31 hx32 hx33 hx34 hx35 hx36 hx37 hx38 hx39 hx40 hx41 hx42 hx43 hx6
            replace f27 := (f27 : x27 = (.slice (some ⟨b2, off2, none⟩) o C2))
            subst f27
            replace f28 := (f28 : x28 = (.bool false))
            subst f28
            replace f29 := (f29 : x29 = (.bool false))
            subst f29
            replace f30 := (f30 : x30 = (.int .i64 (k : Nat)))
            subst f30
            replace f31 := (f31 : x31 = (.slice (some ⟨b2, off2, none⟩) o C2))
            subst f31
            replace f32 := (f32 : x32 = (.int .i64 (o : Nat)))
            subst f32
            replace f33 := (f33 : x33 = (.bool true))
            subst f33
            replace f34 := (f34 : x34 = (.bool true))
            subst f34
            replace f35 := (f35 : x35 = (.slice (some ⟨b2, off2, none⟩) o C2))
            subst f35
            replace f36 := (f36 : x36 = (.int .i64 (k : Nat)))
            subst f36
            replace f37 := (f37 : x37 = (.pointer (some ⟨b2, off2 + k * 19, none⟩)))
            subst f37
            replace f38 := (f38 : x38 = (.pointer (some ⟨b2, off2 + k * 19 + 2, none⟩)))
            subst f38
            replace f39 := (f39 : x39 = (.agg JQ.toArray))
            subst f39
            replace f40 := (f40 : x40 = (.agg J.toArray))
            subst f40
            replace f41 := (f41 : x41 = (.bool true))
            subst f41
            replace f42 := (f42 : x42 = (.bool true))
            subst f42
            replace f43 := (f43 : x43 = (.bool true))
            subst f43
            replace f6 := (f6 : x6 = (.bool true))
            subst f6
            subst hA
            show wpList _ _ _ [] _ _
            unfold wpList
            simp only [Act.put, List.setIfInBounds_toArray, List.set_cons_succ, List.set_cons_zero]
            have HUz := hid (gtrans HU9.out HU.out)
            go_wp2_with fail
            go_ret
            exact ⟨by rw [HRes.out]; rfl, HUz.out⟩
        | true =>
          as_aux_lemma =>
          have HRes : Hid (Rz = false) := hid HRe.out
          clear HRe
          go_enter Tryz.func19, Tryz.ntmps19
          go_upto_region 6 with (first
            | ((with_reducible refine wpList_box_row (by with_unfolding_all rfl) 69 _ (by with_unfolding_all rfl) J (by with_unfolding_all rfl) ?_); intro w1 B1 s1 g1; have HB1 := hid B1; have HG1 := hid g1; clear B1 g1 s1)
            | (go_at_call 17; (with_reducible refine (HCk.out _ HG1.out).mono ?_); rintro e w2 ⟨rfl, hg2⟩; have HG2 := hid (gtrans HG1.out hg2); have HB2 := hid (HB1.out.keep hg2); clear hg2)
            | (go_at_call 33; (with_reducible refine (HSp.out _ HG2.out).mono ?_); rintro e w3 ⟨rfl, hg3⟩; have HG3 := hid (gtrans HG2.out hg3); have HB3 := hid (HB2.out.keep hg3); clear hg3)
            | (with_reducible refine wpList_slice_lh (by with_unfolding_all rfl) 57 _ _ _ (by with_unfolding_all rfl) _ _ _ _ (by with_unfolding_all rfl) (by with_unfolding_all rfl) (by with_unfolding_all rfl) (HS2.out _) ?_)
            | (with_reducible refine wpList_load_part (by with_unfolding_all rfl) 69 _ (by with_unfolding_all rfl) w.heap.size 0 J _ (by with_unfolding_all rfl) HB3.out.whole Tryz.underlying69 (by with_unfolding_all rfl) HJL.out ?_)
            | (go_at_call 34; (with_reducible refine (HPl.out _ HG3.out).mono ?_); rintro e w9 ⟨rfl, hg9⟩; have HU9 := hid (gtrans HG3.out hg9); have HB9 := hid (HB3.out.keep hg9); clear hg9))
          obtain ⟨p5, hp5⟩ : ∃ x, w.heap.size = x := ⟨_, rfl⟩
          rw [hp5] at HB9
          simp only [hp5]
          clear hp5 HB1 HB2 HB3
          refine wp_region_listX (by kernel_rfl) [fun v _ => v = (Value.slice (some ⟨b2, off2, none⟩) o C2), fun v _ => v = (Value.bool false), fun v _ => v = (Value.bool false), fun v _ => v = (Value.int .i64 (k : Nat)), fun v _ => v = (Value.slice (some ⟨b2, off2, none⟩) o C2), fun v _ => v = (Value.int .i64 (o : Nat)), fun v _ => v = (Value.bool true), fun v _ => v = (Value.bool true), fun v _ => v = (Value.slice (some ⟨b2, off2, none⟩) o C2), fun v _ => v = (Value.int .i64 (k : Nat)), fun v _ => v = (Value.pointer (some ⟨b2, off2 + k * 19, none⟩)), fun v _ => v = (Value.pointer (some ⟨b2, off2 + k * 19 + 2, none⟩)), fun v _ => v = (Value.agg JQ.toArray), fun v _ => v = (Value.agg J.toArray), fun v _ => v = (Value.bool false), fun v _ => v = (Value.bool false), fun v _ => v = (Value.bool false), fun v _ => v = (Value.bool false)] (none) (fun _ => none) 18 (by kernel_rfl) (by kernel_rfl) (by kernel_rfl) (by kernel_rfl) (by decide) noRow_one (fun _ => .inl rfl) ⟨fun i v u u' hki h hg => h, fun i v u u' hki h hg => h, fun i v u u' hki h hg => h, fun i v u u' hki h hg => h, fun i v u u' hki h hg => h, fun i v u u' hki h hg => h, fun i v u u' hki h hg => h, fun i v u u' hki h hg => h, fun i v u u' hki h hg => h, fun i v u u' hki h hg => h, fun i v u u' hki h hg => h, fun i v u u' hki h hg => h, fun i v u u' hki h hg => h, fun i v u u' hki h hg => h, fun i v u u' hki h hg => h, fun i v u u' hki h hg => h, fun i v u u' hki h hg => h, fun i v u u' hki h hg => h, trivial⟩ ⟨?_, ?_, ?_, ?_, ?_, ?_, ?_, ?_, ?_, ?_, ?_, ?_, ?_, ?_, ?_, ?_, ?_, ?_, trivial⟩ ?_
          · intro A u hu hpu hsz hout hdeps
            have e9 : A.eval (.tmp 9) = (.slice (some ⟨b2, off2, none⟩) o C2) := (hout 9 (by kernel_rfl)).trans rfl
            refine ifw_none rfl ?_
            with_reducible refine shown_q (Value.slice (some ⟨b2, off2, none⟩) o C2) ?qq_3h3_0 (fun _ _ => ?qr_3h3_0)
            case qr_3h3_0 => exact (rfl : (Value.slice (some ⟨b2, off2, none⟩) o C2) = (Value.slice (some ⟨b2, off2, none⟩) o C2))
            with_reducible refine quietAt_mv (.tmp 9) (Value.slice (some ⟨b2, off2, none⟩) o C2) ?h0_3h3_0 ?h1_3h3_0
            case h0_3h3_0 => rfl
            case h1_3h3_0 => exact e9
          · intro A u hu hpu hsz hout hdeps
            have e27 : A.eval (.tmp 27) = (.slice (some ⟨b2, off2, none⟩) o C2) := by have h := depL hdeps 0 (by kernel_rfl) 27 (by kernel_rfl); exact h
            refine ifw_none rfl ?_
            with_reducible refine shown_q (Value.bool false) ?qq_3h3_1 (fun _ _ => ?qr_3h3_1)
            case qr_3h3_1 => exact (rfl : (Value.bool false) = (Value.bool false))
            with_reducible refine quietAt_call 35 Tryz.f35 ?h0_3h3_1 ?h1_3h3_1 ?h2_3h3_1 #[.tmp 27] #[57] ?h3_3h3_1 (Value.bool false) #[(Value.slice (some ⟨b2, off2, none⟩) o C2)] ?h4_3h3_1 ?h5_3h3_1
            case h0_3h3_1 => exact Tryz.func35
            case h1_3h3_1 => kernel_rfl
            case h2_3h3_1 => kernel_rfl
            case h3_3h3_1 => rfl
            case h4_3h3_1 => exact map1 _ _ _ e27
            case h5_3h3_1 => exact HWh.out u (gtrans HU9.out hu)
          · intro A u hu hpu hsz hout hdeps
            have e28 : A.eval (.tmp 28) = (.bool false) := by have h := depL hdeps 1 (by kernel_rfl) 28 (by kernel_rfl); exact h
            refine ifw_none rfl ?_
            with_reducible refine shown_q (Value.bool false) ?qq_3h3_2 (fun _ _ => ?qr_3h3_2)
            case qr_3h3_2 => exact (rfl : (Value.bool false) = (Value.bool false))
            with_reducible refine quietAt_mv (.tmp 28) (Value.bool false) ?h0_3h3_2 ?h1_3h3_2
            case h0_3h3_2 => rfl
            case h1_3h3_2 => exact e28
          · intro A u hu hpu hsz hout hdeps
            have e29 : A.eval (.tmp 29) = (.bool false) := by have h := depL hdeps 2 (by kernel_rfl) 29 (by kernel_rfl); exact h
            have e10 : A.eval (.tmp 10) = (.int .i64 (k : Nat)) := (hout 10 (by kernel_rfl)).trans rfl
            refine ifw_want 2 false 29 rfl rfl e29 ?_
            with_reducible refine shown_q (Value.int .i64 (k : Nat)) ?qq_3h3_3 (fun _ _ => ?qr_3h3_3)
            case qr_3h3_3 => exact (rfl : (Value.int .i64 (k : Nat)) = (Value.int .i64 (k : Nat)))
            with_reducible refine quietAt_mv (.tmp 10) (Value.int .i64 (k : Nat)) ?h0_3h3_3 ?h1_3h3_3
            case h0_3h3_3 => rfl
            case h1_3h3_3 => exact e10
          · intro A u hu hpu hsz hout hdeps
            have e29 : A.eval (.tmp 29) = (.bool false) := by have h := depL hdeps 2 (by kernel_rfl) 29 (by kernel_rfl); exact h
            have e9 : A.eval (.tmp 9) = (.slice (some ⟨b2, off2, none⟩) o C2) := (hout 9 (by kernel_rfl)).trans rfl
            refine ifw_want 2 false 29 rfl rfl e29 ?_
            with_reducible refine shown_q (Value.slice (some ⟨b2, off2, none⟩) o C2) ?qq_3h3_4 (fun _ _ => ?qr_3h3_4)
            case qr_3h3_4 => exact (rfl : (Value.slice (some ⟨b2, off2, none⟩) o C2) = (Value.slice (some ⟨b2, off2, none⟩) o C2))
            with_reducible refine quietAt_mv (.tmp 9) (Value.slice (some ⟨b2, off2, none⟩) o C2) ?h0_3h3_4 ?h1_3h3_4
            case h0_3h3_4 => rfl
            case h1_3h3_4 => exact e9
          · intro A u hu hpu hsz hout hdeps
            have e29 : A.eval (.tmp 29) = (.bool false) := by have h := depL hdeps 2 (by kernel_rfl) 29 (by kernel_rfl); exact h
            have e31 : A.eval (.tmp 31) = (.slice (some ⟨b2, off2, none⟩) o C2) := by have h := depL hdeps 4 (by kernel_rfl) 31 (by kernel_rfl); exact h
            refine ifw_want 2 false 29 rfl rfl e29 ?_
            with_reducible refine shown_q (Value.int .i64 (o : Nat)) ?qq_3h3_5 (fun _ _ => ?qr_3h3_5)
            case qr_3h3_5 => exact (rfl : (Value.int .i64 (o : Nat)) = (Value.int .i64 (o : Nat)))
            with_reducible refine quietAt_len (.tmp 31) 57 ?h0_3h3_5 (some ⟨b2, off2, none⟩) o C2 ?h1_3h3_5 ?h2_3h3_5
            case h0_3h3_5 => rfl
            case h1_3h3_5 => exact e31
            case h2_3h3_5 => kernel_rfl
          · intro A u hu hpu hsz hout hdeps
            have e29 : A.eval (.tmp 29) = (.bool false) := by have h := depL hdeps 2 (by kernel_rfl) 29 (by kernel_rfl); exact h
            have e30 : A.eval (.tmp 30) = (.int .i64 (k : Nat)) := by have h := depL hdeps 3 (by kernel_rfl) 30 (by kernel_rfl); exact h
            have e32 : A.eval (.tmp 32) = (.int .i64 (o : Nat)) := by have h := depL hdeps 5 (by kernel_rfl) 32 (by kernel_rfl); exact h
            refine ifw_want 2 false 29 rfl rfl e29 ?_
            with_reducible refine shown_q (Value.bool true) ?qq_3h3_6 (fun _ _ => ?qr_3h3_6)
            case qr_3h3_6 => exact (rfl : (Value.bool true) = (Value.bool true))
            with_reducible refine quietAt_bin .lss 3 (.tmp 30) (.tmp 32) 3 (Value.int .i64 (k : Nat)) (Value.int .i64 (o : Nat)) (Value.bool true) ?h0_3h3_6 ?h1_3h3_6 ?h2_3h3_6 ?h3_3h3_6
            case h0_3h3_6 => rfl
            case h1_3h3_6 => exact e30
            case h2_3h3_6 => exact e32
            case h3_3h3_6 => exact HLt.out _ _ u
          · intro A u hu hpu hsz hout hdeps
            have e29 : A.eval (.tmp 29) = (.bool false) := by have h := depL hdeps 2 (by kernel_rfl) 29 (by kernel_rfl); exact h
            have e33 : A.eval (.tmp 33) = (.bool true) := by have h := depL hdeps 6 (by kernel_rfl) 33 (by kernel_rfl); exact h
            refine ifw_want 2 false 29 rfl rfl e29 ?_
            with_reducible refine shown_q (Value.bool true) ?qq_3h3_7 (fun _ _ => ?qr_3h3_7)
            case qr_3h3_7 => exact (rfl : (Value.bool true) = (Value.bool true))
            with_reducible refine quietAt_mv (.tmp 33) (Value.bool true) ?h0_3h3_7 ?h1_3h3_7
            case h0_3h3_7 => rfl
            case h1_3h3_7 => exact e33
          · intro A u hu hpu hsz hout hdeps
            have e34 : A.eval (.tmp 34) = (.bool true) := by have h := depL hdeps 7 (by kernel_rfl) 34 (by kernel_rfl); exact h
            have e9 : A.eval (.tmp 9) = (.slice (some ⟨b2, off2, none⟩) o C2) := (hout 9 (by kernel_rfl)).trans rfl
            refine ifw_want 7 true 34 rfl rfl e34 ?_
            with_reducible refine shown_q (Value.slice (some ⟨b2, off2, none⟩) o C2) ?qq_3h3_8 (fun _ _ => ?qr_3h3_8)
            case qr_3h3_8 => exact (rfl : (Value.slice (some ⟨b2, off2, none⟩) o C2) = (Value.slice (some ⟨b2, off2, none⟩) o C2))
            with_reducible refine quietAt_mv (.tmp 9) (Value.slice (some ⟨b2, off2, none⟩) o C2) ?h0_3h3_8 ?h1_3h3_8
            case h0_3h3_8 => rfl
            case h1_3h3_8 => exact e9
          · intro A u hu hpu hsz hout hdeps
            have e34 : A.eval (.tmp 34) = (.bool true) := by have h := depL hdeps 7 (by kernel_rfl) 34 (by kernel_rfl); exact h
            have e10 : A.eval (.tmp 10) = (.int .i64 (k : Nat)) := (hout 10 (by kernel_rfl)).trans rfl
            refine ifw_want 7 true 34 rfl rfl e34 ?_
            with_reducible refine shown_q (Value.int .i64 (k : Nat)) ?qq_3h3_9 (fun _ _ => ?qr_3h3_9)
            case qr_3h3_9 => exact (rfl : (Value.int .i64 (k : Nat)) = (Value.int .i64 (k : Nat)))
            with_reducible refine quietAt_mv (.tmp 10) (Value.int .i64 (k : Nat)) ?h0_3h3_9 ?h1_3h3_9
            case h0_3h3_9 => rfl
            case h1_3h3_9 => exact e10
          · intro A u hu hpu hsz hout hdeps
            have e34 : A.eval (.tmp 34) = (.bool true) := by have h := depL hdeps 7 (by kernel_rfl) 34 (by kernel_rfl); exact h
            have e35 : A.eval (.tmp 35) = (.slice (some ⟨b2, off2, none⟩) o C2) := by have h := depL hdeps 8 (by kernel_rfl) 35 (by kernel_rfl); exact h
            have e36 : A.eval (.tmp 36) = (.int .i64 (k : Nat)) := by have h := depL hdeps 9 (by kernel_rfl) 36 (by kernel_rfl); exact h
            refine ifw_want 7 true 34 rfl rfl e34 ?_
            with_reducible refine shown_q (Value.pointer (some ⟨b2, off2 + k * 19, none⟩)) ?qq_3h3_10 (fun _ _ => ?qr_3h3_10)
            case qr_3h3_10 => exact (rfl : (Value.pointer (some ⟨b2, off2 + k * 19, none⟩)) = (Value.pointer (some ⟨b2, off2 + k * 19, none⟩)))
            with_reducible refine quietAt_idx 57 (.tmp 35) (.tmp 36) (Value.slice (some ⟨b2, off2, none⟩) o C2) (Value.int .i64 (k : Nat)) (Value.pointer (some ⟨b2, off2 + k * 19, none⟩)) ?h0_3h3_10 ?h1_3h3_10 ?h2_3h3_10 ?h3_3h3_10
            case h0_3h3_10 => rfl
            case h1_3h3_10 => exact e35
            case h2_3h3_10 => exact e36
            case h3_3h3_10 => exact (idx23 b2 off2 o C2 k HKo.out u)
          · intro A u hu hpu hsz hout hdeps
            have e34 : A.eval (.tmp 34) = (.bool true) := by have h := depL hdeps 7 (by kernel_rfl) 34 (by kernel_rfl); exact h
            have e37 : A.eval (.tmp 37) = (.pointer (some ⟨b2, off2 + k * 19, none⟩)) := by have h := depL hdeps 10 (by kernel_rfl) 37 (by kernel_rfl); exact h
            refine ifw_want 7 true 34 rfl rfl e34 ?_
            with_reducible refine shown_q (Value.pointer (some ⟨b2, off2 + k * 19 + 2, none⟩)) ?qq_3h3_11 (fun _ _ => ?qr_3h3_11)
            case qr_3h3_11 => exact (rfl : (Value.pointer (some ⟨b2, off2 + k * 19 + 2, none⟩)) = (Value.pointer (some ⟨b2, off2 + k * 19 + 2, none⟩)))
            with_reducible refine quietAt_field 85 (.tmp 37) 2 ?h0_3h3_11 ⟨b2, off2 + k * 19, none⟩ ⟨b2, off2 + k * 19 + 2, none⟩ ?h1_3h3_11 ?h2_3h3_11
            case h0_3h3_11 => rfl
            case h1_3h3_11 => exact e37
            case h2_3h3_11 => kernel_rfl
          · intro A u hu hpu hsz hout hdeps
            have e34 : A.eval (.tmp 34) = (.bool true) := by have h := depL hdeps 7 (by kernel_rfl) 34 (by kernel_rfl); exact h
            have e38 : A.eval (.tmp 38) = (.pointer (some ⟨b2, off2 + k * 19 + 2, none⟩)) := by have h := depL hdeps 11 (by kernel_rfl) 38 (by kernel_rfl); exact h
            refine ifw_want 7 true 34 rfl rfl e34 ?_
            with_reducible refine shown_q (Value.agg JQ.toArray) ?qq_3h3_12 (fun _ _ => ?qr_3h3_12)
            case qr_3h3_12 => exact (rfl : (Value.agg JQ.toArray) = (Value.agg JQ.toArray))
            with_reducible refine quietAt_load 69 (.tmp 38) ?h0_3h3_12 b2 (off2 + k * 19 + 2) JQ (.array 16 5) ?h1_3h3_12 ?h2_3h3_12 ?h3_3h3_12 ?h4_3h3_12 ?h5_3h3_12
            case h0_3h3_12 => rfl
            case h1_3h3_12 => exact e38
            case h2_3h3_12 => exact (HJQ.out u (gtrans HU9.out hu))
            case h3_3h3_12 => exact Tryz.underlying69
            case h4_3h3_12 => rfl
            case h5_3h3_12 => exact HJQL.out
          · intro A u hu hpu hsz hout hdeps
            have e34 : A.eval (.tmp 34) = (.bool true) := by have h := depL hdeps 7 (by kernel_rfl) 34 (by kernel_rfl); exact h
            have e5 : A.eval (.tmp 5) = (.pointer (some ⟨p5, 0, none⟩)) := (hout 5 (by kernel_rfl)).trans rfl
            refine ifw_want 7 true 34 rfl rfl e34 ?_
            with_reducible refine shown_q (Value.agg J.toArray) ?qq_3h3_13 (fun _ _ => ?qr_3h3_13)
            case qr_3h3_13 => exact (rfl : (Value.agg J.toArray) = (Value.agg J.toArray))
            with_reducible refine quietAt_load 69 (.tmp 5) ?h0_3h3_13 p5 0 J (.array 16 5) ?h1_3h3_13 ?h2_3h3_13 ?h3_3h3_13 ?h4_3h3_13 ?h5_3h3_13
            case h0_3h3_13 => rfl
            case h1_3h3_13 => exact e5
            case h2_3h3_13 => exact (HB9.out.keep hu).whole
            case h3_3h3_13 => exact Tryz.underlying69
            case h4_3h3_13 => rfl
            case h5_3h3_13 => exact HJL.out
          · intro A u hu hpu hsz hout hdeps
            have e34 : A.eval (.tmp 34) = (.bool true) := by have h := depL hdeps 7 (by kernel_rfl) 34 (by kernel_rfl); exact h
            have e39 : A.eval (.tmp 39) = (.agg JQ.toArray) := by have h := depL hdeps 12 (by kernel_rfl) 39 (by kernel_rfl); exact h
            have e40 : A.eval (.tmp 40) = (.agg J.toArray) := by have h := depL hdeps 13 (by kernel_rfl) 40 (by kernel_rfl); exact h
            refine ifw_want 7 true 34 rfl rfl e34 ?_
            with_reducible refine shown_q (Value.bool false) ?qq_3h3_14 (fun _ _ => ?qr_3h3_14)
            case qr_3h3_14 => exact (rfl : (Value.bool false) = (Value.bool false))
            with_reducible refine quietAt_bin .eql 69 (.tmp 39) (.tmp 40) 69 (Value.agg JQ.toArray) (Value.agg J.toArray) (Value.bool false) ?h0_3h3_14 ?h1_3h3_14 ?h2_3h3_14 ?h3_3h3_14
            case h0_3h3_14 => rfl
            case h1_3h3_14 => exact e39
            case h2_3h3_14 => exact e40
            case h3_3h3_14 => exact HQe.out _ _ u
          · intro A u hu hpu hsz hout hdeps
            have e29 : A.eval (.tmp 29) = (.bool false) := by have h := depL hdeps 2 (by kernel_rfl) 29 (by kernel_rfl); exact h
            have e34 : A.eval (.tmp 34) = (.bool true) := by have h := depL hdeps 7 (by kernel_rfl) 34 (by kernel_rfl); exact h
            have e41 : A.eval (.tmp 41) = (.bool false) := by have h := depL hdeps 14 (by kernel_rfl) 41 (by kernel_rfl); exact h
            refine ifw_want 2 false 29 rfl rfl e29 ?_
            with_reducible refine shown_q (Value.bool false) ?qq_3h3_15 (fun _ _ => ?qr_3h3_15)
            case qr_3h3_15 => exact (rfl : (Value.bool false) = (Value.bool false))
            with_reducible refine quietAt_pick (.tmp 34) (.tmp 41) (.const (.bool false)) true (Value.bool false) ?h0_3h3_15 ?h1_3h3_15 ?h2_3h3_15
            case h0_3h3_15 => rfl
            case h1_3h3_15 => exact e34
            case h2_3h3_15 => rw [if_pos rfl]; exact e41
          · intro A u hu hpu hsz hout hdeps
            have e29 : A.eval (.tmp 29) = (.bool false) := by have h := depL hdeps 2 (by kernel_rfl) 29 (by kernel_rfl); exact h
            have e42 : A.eval (.tmp 42) = (.bool false) := by have h := depL hdeps 15 (by kernel_rfl) 42 (by kernel_rfl); exact h
            refine ifw_none rfl ?_
            with_reducible refine shown_q (Value.bool false) ?qq_3h3_16 (fun _ _ => ?qr_3h3_16)
            case qr_3h3_16 => exact (rfl : (Value.bool false) = (Value.bool false))
            with_reducible refine quietAt_pick (.tmp 29) (.const (.bool true)) (.tmp 42) false (Value.bool false) ?h0_3h3_16 ?h1_3h3_16 ?h2_3h3_16
            case h0_3h3_16 => rfl
            case h1_3h3_16 => exact e29
            case h2_3h3_16 => rw [if_neg (by decide)]; exact e42
          · intro A u hu hpu hsz hout hdeps
            have e43 : A.eval (.tmp 43) = (.bool false) := by have h := depL hdeps 16 (by kernel_rfl) 43 (by kernel_rfl); exact h
            refine ifw_none rfl ?_
            with_reducible refine shown_q (Value.bool false) ?qq_3h3_17 (fun _ _ => ?qr_3h3_17)
            case qr_3h3_17 => exact (rfl : (Value.bool false) = (Value.bool false))
            with_reducible refine quietAt_as (.tmp 43) (Value.bool false) ?h0_3h3_17 ?h1_3h3_17
            case h0_3h3_17 => rfl
            case h1_3h3_17 => exact e43
          · intro A u8 listed hh hall
            have hA := hh.frame
            have HU := hid hh.grown
            obtain ⟨x27, hx27⟩ : ∃ x, A.eval (.tmp 27) = x := ⟨_, rfl⟩
            have f27 : (fun v _ => v = (Value.slice (some ⟨b2, off2, none⟩) o C2)) x27 u8 := by rw [← hx27]; exact hh.got 0 _ 27 rfl rfl (hall 0 (by decide))
            obtain ⟨x28, hx28⟩ : ∃ x, A.eval (.tmp 28) = x := ⟨_, rfl⟩
            have f28 : (fun v _ => v = (Value.bool false)) x28 u8 := by rw [← hx28]; exact hh.got 1 _ 28 rfl rfl (hall 1 (by decide))
            obtain ⟨x29, hx29⟩ : ∃ x, A.eval (.tmp 29) = x := ⟨_, rfl⟩
            have f29 : (fun v _ => v = (Value.bool false)) x29 u8 := by rw [← hx29]; exact hh.got 2 _ 29 rfl rfl (hall 2 (by decide))
            obtain ⟨x30, hx30⟩ : ∃ x, A.eval (.tmp 30) = x := ⟨_, rfl⟩
            have f30 : (fun v _ => v = (Value.int .i64 (k : Nat))) x30 u8 := by rw [← hx30]; exact hh.got 3 _ 30 rfl rfl (hall 3 (by decide))
            obtain ⟨x31, hx31⟩ : ∃ x, A.eval (.tmp 31) = x := ⟨_, rfl⟩
            have f31 : (fun v _ => v = (Value.slice (some ⟨b2, off2, none⟩) o C2)) x31 u8 := by rw [← hx31]; exact hh.got 4 _ 31 rfl rfl (hall 4 (by decide))
            obtain ⟨x32, hx32⟩ : ∃ x, A.eval (.tmp 32) = x := ⟨_, rfl⟩
            have f32 : (fun v _ => v = (Value.int .i64 (o : Nat))) x32 u8 := by rw [← hx32]; exact hh.got 5 _ 32 rfl rfl (hall 5 (by decide))
            obtain ⟨x33, hx33⟩ : ∃ x, A.eval (.tmp 33) = x := ⟨_, rfl⟩
            have f33 : (fun v _ => v = (Value.bool true)) x33 u8 := by rw [← hx33]; exact hh.got 6 _ 33 rfl rfl (hall 6 (by decide))
            obtain ⟨x34, hx34⟩ : ∃ x, A.eval (.tmp 34) = x := ⟨_, rfl⟩
            have f34 : (fun v _ => v = (Value.bool true)) x34 u8 := by rw [← hx34]; exact hh.got 7 _ 34 rfl rfl (hall 7 (by decide))
            obtain ⟨x35, hx35⟩ : ∃ x, A.eval (.tmp 35) = x := ⟨_, rfl⟩
            have f35 : (fun v _ => v = (Value.slice (some ⟨b2, off2, none⟩) o C2)) x35 u8 := by rw [← hx35]; exact hh.got 8 _ 35 rfl rfl (hall 8 (by decide))
            obtain ⟨x36, hx36⟩ : ∃ x, A.eval (.tmp 36) = x := ⟨_, rfl⟩
            have f36 : (fun v _ => v = (Value.int .i64 (k : Nat))) x36 u8 := by rw [← hx36]; exact hh.got 9 _ 36 rfl rfl (hall 9 (by decide))
            obtain ⟨x37, hx37⟩ : ∃ x, A.eval (.tmp 37) = x := ⟨_, rfl⟩
            have f37 : (fun v _ => v = (Value.pointer (some ⟨b2, off2 + k * 19, none⟩))) x37 u8 := by rw [← hx37]; exact hh.got 10 _ 37 rfl rfl (hall 10 (by decide))
            obtain ⟨x38, hx38⟩ : ∃ x, A.eval (.tmp 38) = x := ⟨_, rfl⟩
            have f38 : (fun v _ => v = (Value.pointer (some ⟨b2, off2 + k * 19 + 2, none⟩))) x38 u8 := by rw [← hx38]; exact hh.got 11 _ 38 rfl rfl (hall 11 (by decide))
            obtain ⟨x39, hx39⟩ : ∃ x, A.eval (.tmp 39) = x := ⟨_, rfl⟩
            have f39 : (fun v _ => v = (Value.agg JQ.toArray)) x39 u8 := by rw [← hx39]; exact hh.got 12 _ 39 rfl rfl (hall 12 (by decide))
            obtain ⟨x40, hx40⟩ : ∃ x, A.eval (.tmp 40) = x := ⟨_, rfl⟩
            have f40 : (fun v _ => v = (Value.agg J.toArray)) x40 u8 := by rw [← hx40]; exact hh.got 13 _ 40 rfl rfl (hall 13 (by decide))
            obtain ⟨x41, hx41⟩ : ∃ x, A.eval (.tmp 41) = x := ⟨_, rfl⟩
            have f41 : (fun v _ => v = (Value.bool false)) x41 u8 := by rw [← hx41]; exact hh.got 14 _ 41 rfl rfl (hall 14 (by decide))
            obtain ⟨x42, hx42⟩ : ∃ x, A.eval (.tmp 42) = x := ⟨_, rfl⟩
            have f42 : (fun v _ => v = (Value.bool false)) x42 u8 := by rw [← hx42]; exact hh.got 15 _ 42 rfl rfl (hall 15 (by decide))
            obtain ⟨x43, hx43⟩ : ∃ x, A.eval (.tmp 43) = x := ⟨_, rfl⟩
            have f43 : (fun v _ => v = (Value.bool false)) x43 u8 := by rw [← hx43]; exact hh.got 16 _ 43 rfl rfl (hall 16 (by decide))
            obtain ⟨x6, hx6⟩ : ∃ x, A.eval (.tmp 6) = x := ⟨_, rfl⟩
            have f6 : (fun v _ => v = (Value.bool false)) x6 u8 := by rw [← hx6]; exact hh.got 17 _ 6 rfl rfl (hall 17 (by decide))
            dsimp only [wrote, List.foldl] at hA
            rw [hx27, hx28, hx29, hx30, hx31, hx32, hx33, hx34, hx35, hx36, hx37, hx38, hx39, hx40, hx41, hx42, hx43, hx6] at hA
            clear hh hall hx27 hx28 hx29 hx30 hx31 hx32 hx33 hx34 hx35 hx36 hx37 hx38 hx39 hx40 hx41 hx42 hx43 hx6
            replace f27 := (f27 : x27 = (.slice (some ⟨b2, off2, none⟩) o C2))
            subst f27
            replace f28 := (f28 : x28 = (.bool false))
            subst f28
            replace f29 := (f29 : x29 = (.bool false))
            subst f29
            replace f30 := (f30 : x30 = (.int .i64 (k : Nat)))
            subst f30
            replace f31 := (f31 : x31 = (.slice (some ⟨b2, off2, none⟩) o C2))
            subst f31
            replace f32 := (f32 : x32 = (.int .i64 (o : Nat)))
            subst f32
            replace f33 := (f33 : x33 = (.bool true))
            subst f33
            replace f34 := (f34 : x34 = (.bool true))
            subst f34
            replace f35 := (f35 : x35 = (.slice (some ⟨b2, off2, none⟩) o C2))
            subst f35
            replace f36 := (f36 : x36 = (.int .i64 (k : Nat)))
            subst f36
            replace f37 := (f37 : x37 = (.pointer (some ⟨b2, off2 + k * 19, none⟩)))
            subst f37
            replace f38 := (f38 : x38 = (.pointer (some ⟨b2, off2 + k * 19 + 2, none⟩)))
            subst f38
            replace f39 := (f39 : x39 = (.agg JQ.toArray))
            subst f39
            replace f40 := (f40 : x40 = (.agg J.toArray))
            subst f40
            replace f41 := (f41 : x41 = (.bool false))
            subst f41
            replace f42 := (f42 : x42 = (.bool false))
            subst f42
            replace f43 := (f43 : x43 = (.bool false))
            subst f43
            replace f6 := (f6 : x6 = (.bool false))
            subst f6
            subst hA
            show wpList _ _ _ [] _ _
            unfold wpList
            simp only [Act.put, List.setIfInBounds_toArray, List.set_cons_succ, List.set_cons_zero]
            have HUz := hid (gtrans HU9.out HU.out)
            go_wp2_with fail
            go_ret
            exact ⟨by rw [HRes.out]; rfl, HUz.out⟩
      · as_aux_lemma =>
        have hE : EB = true := by
          cases EB with
          | true => rfl
          | false => exact absurd (hEk rfl) hko2
        have HRes : Hid (Rz = false) := hid (by rw [HRe.out, hE]; rfl)
        have HLt : Hid (∀ (x y : Operand) (u : World), (do eqGuard .lss 3 x y (.int .i64 (k : Nat)) (.int .i64 (o : Nat)); binOp .lss 3 (.int .i64 (k : Nat)) (.int .i64 (o : Nat)) : Sem Value).run Tryz.prog u = .ok (.bool false) u) := hid (fun x y u => by
          have h : ¬ (k : Int) < (o : Int) := by omega
          go_simp)
        clear HRe HQ hEk hko hE hko2
        go_enter Tryz.func19, Tryz.ntmps19
        go_upto_region 6 with (first
          | ((with_reducible refine wpList_box_row (by with_unfolding_all rfl) 69 _ (by with_unfolding_all rfl) J (by with_unfolding_all rfl) ?_); intro w1 B1 s1 g1; have HB1 := hid B1; have HG1 := hid g1; clear B1 g1 s1)
          | (go_at_call 17; (with_reducible refine (HCk.out _ HG1.out).mono ?_); rintro e w2 ⟨rfl, hg2⟩; have HG2 := hid (gtrans HG1.out hg2); have HB2 := hid (HB1.out.keep hg2); clear hg2)
          | (go_at_call 33; (with_reducible refine (HSp.out _ HG2.out).mono ?_); rintro e w3 ⟨rfl, hg3⟩; have HG3 := hid (gtrans HG2.out hg3); have HB3 := hid (HB2.out.keep hg3); clear hg3)
          | (with_reducible refine wpList_slice_lh (by with_unfolding_all rfl) 57 _ _ _ (by with_unfolding_all rfl) _ _ _ _ (by with_unfolding_all rfl) (by with_unfolding_all rfl) (by with_unfolding_all rfl) (HS2.out _) ?_)
          | (with_reducible refine wpList_load_part (by with_unfolding_all rfl) 69 _ (by with_unfolding_all rfl) w.heap.size 0 J _ (by with_unfolding_all rfl) HB3.out.whole Tryz.underlying69 (by with_unfolding_all rfl) HJL.out ?_)
          | (go_at_call 34; (with_reducible refine (HPl.out _ HG3.out).mono ?_); rintro e w9 ⟨rfl, hg9⟩; have HU9 := hid (gtrans HG3.out hg9); have HB9 := hid (HB3.out.keep hg9); clear hg9))
        obtain ⟨p5, hp5⟩ : ∃ x, w.heap.size = x := ⟨_, rfl⟩
        rw [hp5] at HB9
        simp only [hp5]
        clear hp5 HB1 HB2 HB3
        refine wp_region_listX (by kernel_rfl) [fun v _ => v = (Value.slice a2 o C2), fun v _ => v = (Value.bool false), fun v _ => v = (Value.bool false), fun v _ => v = (Value.int .i64 (k : Nat)), fun v _ => v = (Value.slice a2 o C2), fun v _ => v = (Value.int .i64 (o : Nat)), fun v _ => v = (Value.bool false), fun v _ => v = (Value.bool false), fun v _ => v = undef, fun v _ => v = undef, fun v _ => v = undef, fun v _ => v = undef, fun v _ => v = undef, fun v _ => v = undef, fun v _ => v = undef, fun v _ => v = (Value.bool false), fun v _ => v = (Value.bool false), fun v _ => v = (Value.bool false)] (none) (fun _ => none) 18 (by kernel_rfl) (by kernel_rfl) (by kernel_rfl) (by kernel_rfl) (by decide) noRow_one (fun _ => .inl rfl) ⟨fun i v u u' hki h hg => h, fun i v u u' hki h hg => h, fun i v u u' hki h hg => h, fun i v u u' hki h hg => h, fun i v u u' hki h hg => h, fun i v u u' hki h hg => h, fun i v u u' hki h hg => h, fun i v u u' hki h hg => h, fun i v u u' hki h hg => h, fun i v u u' hki h hg => h, fun i v u u' hki h hg => h, fun i v u u' hki h hg => h, fun i v u u' hki h hg => h, fun i v u u' hki h hg => h, fun i v u u' hki h hg => h, fun i v u u' hki h hg => h, fun i v u u' hki h hg => h, fun i v u u' hki h hg => h, trivial⟩ ⟨?_, ?_, ?_, ?_, ?_, ?_, ?_, ?_, ?_, ?_, ?_, ?_, ?_, ?_, ?_, ?_, ?_, ?_, trivial⟩ ?_
        · intro A u hu hpu hsz hout hdeps
          have e9 : A.eval (.tmp 9) = (.slice a2 o C2) := (hout 9 (by kernel_rfl)).trans rfl
          refine ifw_none rfl ?_
          with_reducible refine shown_q (Value.slice a2 o C2) ?qq_4h4_0 (fun _ _ => ?qr_4h4_0)
          case qr_4h4_0 => exact (rfl : (Value.slice a2 o C2) = (Value.slice a2 o C2))
          with_reducible refine quietAt_mv (.tmp 9) (Value.slice a2 o C2) ?h0_4h4_0 ?h1_4h4_0
          case h0_4h4_0 => rfl
          case h1_4h4_0 => exact e9
        · intro A u hu hpu hsz hout hdeps
          have e27 : A.eval (.tmp 27) = (.slice a2 o C2) := by have h := depL hdeps 0 (by kernel_rfl) 27 (by kernel_rfl); exact h
          refine ifw_none rfl ?_
          with_reducible refine shown_q (Value.bool false) ?qq_4h4_1 (fun _ _ => ?qr_4h4_1)
          case qr_4h4_1 => exact (rfl : (Value.bool false) = (Value.bool false))
          with_reducible refine quietAt_call 35 Tryz.f35 ?h0_4h4_1 ?h1_4h4_1 ?h2_4h4_1 #[.tmp 27] #[57] ?h3_4h4_1 (Value.bool false) #[(Value.slice a2 o C2)] ?h4_4h4_1 ?h5_4h4_1
          case h0_4h4_1 => exact Tryz.func35
          case h1_4h4_1 => kernel_rfl
          case h2_4h4_1 => kernel_rfl
          case h3_4h4_1 => rfl
          case h4_4h4_1 => exact map1 _ _ _ e27
          case h5_4h4_1 => exact HWh.out u (gtrans HU9.out hu)
        · intro A u hu hpu hsz hout hdeps
          have e28 : A.eval (.tmp 28) = (.bool false) := by have h := depL hdeps 1 (by kernel_rfl) 28 (by kernel_rfl); exact h
          refine ifw_none rfl ?_
          with_reducible refine shown_q (Value.bool false) ?qq_4h4_2 (fun _ _ => ?qr_4h4_2)
          case qr_4h4_2 => exact (rfl : (Value.bool false) = (Value.bool false))
          with_reducible refine quietAt_mv (.tmp 28) (Value.bool false) ?h0_4h4_2 ?h1_4h4_2
          case h0_4h4_2 => rfl
          case h1_4h4_2 => exact e28
        · intro A u hu hpu hsz hout hdeps
          have e29 : A.eval (.tmp 29) = (.bool false) := by have h := depL hdeps 2 (by kernel_rfl) 29 (by kernel_rfl); exact h
          have e10 : A.eval (.tmp 10) = (.int .i64 (k : Nat)) := (hout 10 (by kernel_rfl)).trans rfl
          refine ifw_want 2 false 29 rfl rfl e29 ?_
          with_reducible refine shown_q (Value.int .i64 (k : Nat)) ?qq_4h4_3 (fun _ _ => ?qr_4h4_3)
          case qr_4h4_3 => exact (rfl : (Value.int .i64 (k : Nat)) = (Value.int .i64 (k : Nat)))
          with_reducible refine quietAt_mv (.tmp 10) (Value.int .i64 (k : Nat)) ?h0_4h4_3 ?h1_4h4_3
          case h0_4h4_3 => rfl
          case h1_4h4_3 => exact e10
        · intro A u hu hpu hsz hout hdeps
          have e29 : A.eval (.tmp 29) = (.bool false) := by have h := depL hdeps 2 (by kernel_rfl) 29 (by kernel_rfl); exact h
          have e9 : A.eval (.tmp 9) = (.slice a2 o C2) := (hout 9 (by kernel_rfl)).trans rfl
          refine ifw_want 2 false 29 rfl rfl e29 ?_
          with_reducible refine shown_q (Value.slice a2 o C2) ?qq_4h4_4 (fun _ _ => ?qr_4h4_4)
          case qr_4h4_4 => exact (rfl : (Value.slice a2 o C2) = (Value.slice a2 o C2))
          with_reducible refine quietAt_mv (.tmp 9) (Value.slice a2 o C2) ?h0_4h4_4 ?h1_4h4_4
          case h0_4h4_4 => rfl
          case h1_4h4_4 => exact e9
        · intro A u hu hpu hsz hout hdeps
          have e29 : A.eval (.tmp 29) = (.bool false) := by have h := depL hdeps 2 (by kernel_rfl) 29 (by kernel_rfl); exact h
          have e31 : A.eval (.tmp 31) = (.slice a2 o C2) := by have h := depL hdeps 4 (by kernel_rfl) 31 (by kernel_rfl); exact h
          refine ifw_want 2 false 29 rfl rfl e29 ?_
          with_reducible refine shown_q (Value.int .i64 (o : Nat)) ?qq_4h4_5 (fun _ _ => ?qr_4h4_5)
          case qr_4h4_5 => exact (rfl : (Value.int .i64 (o : Nat)) = (Value.int .i64 (o : Nat)))
          with_reducible refine quietAt_len (.tmp 31) 57 ?h0_4h4_5 a2 o C2 ?h1_4h4_5 ?h2_4h4_5
          case h0_4h4_5 => rfl
          case h1_4h4_5 => exact e31
          case h2_4h4_5 => kernel_rfl
        · intro A u hu hpu hsz hout hdeps
          have e29 : A.eval (.tmp 29) = (.bool false) := by have h := depL hdeps 2 (by kernel_rfl) 29 (by kernel_rfl); exact h
          have e30 : A.eval (.tmp 30) = (.int .i64 (k : Nat)) := by have h := depL hdeps 3 (by kernel_rfl) 30 (by kernel_rfl); exact h
          have e32 : A.eval (.tmp 32) = (.int .i64 (o : Nat)) := by have h := depL hdeps 5 (by kernel_rfl) 32 (by kernel_rfl); exact h
          refine ifw_want 2 false 29 rfl rfl e29 ?_
          with_reducible refine shown_q (Value.bool false) ?qq_4h4_6 (fun _ _ => ?qr_4h4_6)
          case qr_4h4_6 => exact (rfl : (Value.bool false) = (Value.bool false))
          with_reducible refine quietAt_bin .lss 3 (.tmp 30) (.tmp 32) 3 (Value.int .i64 (k : Nat)) (Value.int .i64 (o : Nat)) (Value.bool false) ?h0_4h4_6 ?h1_4h4_6 ?h2_4h4_6 ?h3_4h4_6
          case h0_4h4_6 => rfl
          case h1_4h4_6 => exact e30
          case h2_4h4_6 => exact e32
          case h3_4h4_6 => exact HLt.out _ _ u
        · intro A u hu hpu hsz hout hdeps
          have e29 : A.eval (.tmp 29) = (.bool false) := by have h := depL hdeps 2 (by kernel_rfl) 29 (by kernel_rfl); exact h
          have e33 : A.eval (.tmp 33) = (.bool false) := by have h := depL hdeps 6 (by kernel_rfl) 33 (by kernel_rfl); exact h
          refine ifw_want 2 false 29 rfl rfl e29 ?_
          with_reducible refine shown_q (Value.bool false) ?qq_4h4_7 (fun _ _ => ?qr_4h4_7)
          case qr_4h4_7 => exact (rfl : (Value.bool false) = (Value.bool false))
          with_reducible refine quietAt_mv (.tmp 33) (Value.bool false) ?h0_4h4_7 ?h1_4h4_7
          case h0_4h4_7 => rfl
          case h1_4h4_7 => exact e33
        · intro A u hu hpu hsz hout hdeps
          have e34 : A.eval (.tmp 34) = (.bool false) := by have h := depL hdeps 7 (by kernel_rfl) 34 (by kernel_rfl); exact h
          refine ifw_pass 7 true false 34 rfl rfl e34 (by decide) ?_
          exact rfl
        · intro A u hu hpu hsz hout hdeps
          have e34 : A.eval (.tmp 34) = (.bool false) := by have h := depL hdeps 7 (by kernel_rfl) 34 (by kernel_rfl); exact h
          refine ifw_pass 7 true false 34 rfl rfl e34 (by decide) ?_
          exact rfl
        · intro A u hu hpu hsz hout hdeps
          have e34 : A.eval (.tmp 34) = (.bool false) := by have h := depL hdeps 7 (by kernel_rfl) 34 (by kernel_rfl); exact h
          refine ifw_pass 7 true false 34 rfl rfl e34 (by decide) ?_
          exact rfl
        · intro A u hu hpu hsz hout hdeps
          have e34 : A.eval (.tmp 34) = (.bool false) := by have h := depL hdeps 7 (by kernel_rfl) 34 (by kernel_rfl); exact h
          refine ifw_pass 7 true false 34 rfl rfl e34 (by decide) ?_
          exact rfl
        · intro A u hu hpu hsz hout hdeps
          have e34 : A.eval (.tmp 34) = (.bool false) := by have h := depL hdeps 7 (by kernel_rfl) 34 (by kernel_rfl); exact h
          refine ifw_pass 7 true false 34 rfl rfl e34 (by decide) ?_
          exact rfl
        · intro A u hu hpu hsz hout hdeps
          have e34 : A.eval (.tmp 34) = (.bool false) := by have h := depL hdeps 7 (by kernel_rfl) 34 (by kernel_rfl); exact h
          refine ifw_pass 7 true false 34 rfl rfl e34 (by decide) ?_
          exact rfl
        · intro A u hu hpu hsz hout hdeps
          have e34 : A.eval (.tmp 34) = (.bool false) := by have h := depL hdeps 7 (by kernel_rfl) 34 (by kernel_rfl); exact h
          refine ifw_pass 7 true false 34 rfl rfl e34 (by decide) ?_
          exact rfl
        · intro A u hu hpu hsz hout hdeps
          have e29 : A.eval (.tmp 29) = (.bool false) := by have h := depL hdeps 2 (by kernel_rfl) 29 (by kernel_rfl); exact h
          have e34 : A.eval (.tmp 34) = (.bool false) := by have h := depL hdeps 7 (by kernel_rfl) 34 (by kernel_rfl); exact h
          refine ifw_want 2 false 29 rfl rfl e29 ?_
          with_reducible refine shown_q (Value.bool false) ?qq_4h4_15 (fun _ _ => ?qr_4h4_15)
          case qr_4h4_15 => exact (rfl : (Value.bool false) = (Value.bool false))
          with_reducible refine quietAt_pick (.tmp 34) (.tmp 41) (.const (.bool false)) false (Value.bool false) ?h0_4h4_15 ?h1_4h4_15 ?h2_4h4_15
          case h0_4h4_15 => rfl
          case h1_4h4_15 => exact e34
          case h2_4h4_15 => rw [if_neg (by decide)]; exact rfl
        · intro A u hu hpu hsz hout hdeps
          have e29 : A.eval (.tmp 29) = (.bool false) := by have h := depL hdeps 2 (by kernel_rfl) 29 (by kernel_rfl); exact h
          have e42 : A.eval (.tmp 42) = (.bool false) := by have h := depL hdeps 15 (by kernel_rfl) 42 (by kernel_rfl); exact h
          refine ifw_none rfl ?_
          with_reducible refine shown_q (Value.bool false) ?qq_4h4_16 (fun _ _ => ?qr_4h4_16)
          case qr_4h4_16 => exact (rfl : (Value.bool false) = (Value.bool false))
          with_reducible refine quietAt_pick (.tmp 29) (.const (.bool true)) (.tmp 42) false (Value.bool false) ?h0_4h4_16 ?h1_4h4_16 ?h2_4h4_16
          case h0_4h4_16 => rfl
          case h1_4h4_16 => exact e29
          case h2_4h4_16 => rw [if_neg (by decide)]; exact e42
        · intro A u hu hpu hsz hout hdeps
          have e43 : A.eval (.tmp 43) = (.bool false) := by have h := depL hdeps 16 (by kernel_rfl) 43 (by kernel_rfl); exact h
          refine ifw_none rfl ?_
          with_reducible refine shown_q (Value.bool false) ?qq_4h4_17 (fun _ _ => ?qr_4h4_17)
          case qr_4h4_17 => exact (rfl : (Value.bool false) = (Value.bool false))
          with_reducible refine quietAt_as (.tmp 43) (Value.bool false) ?h0_4h4_17 ?h1_4h4_17
          case h0_4h4_17 => rfl
          case h1_4h4_17 => exact e43
        · intro A u8 listed hh hall
          have hA := hh.frame
          have HU := hid hh.grown
          obtain ⟨x27, hx27⟩ : ∃ x, A.eval (.tmp 27) = x := ⟨_, rfl⟩
          have f27 : (fun v _ => v = (Value.slice a2 o C2)) x27 u8 := by rw [← hx27]; exact hh.got 0 _ 27 rfl rfl (hall 0 (by decide))
          obtain ⟨x28, hx28⟩ : ∃ x, A.eval (.tmp 28) = x := ⟨_, rfl⟩
          have f28 : (fun v _ => v = (Value.bool false)) x28 u8 := by rw [← hx28]; exact hh.got 1 _ 28 rfl rfl (hall 1 (by decide))
          obtain ⟨x29, hx29⟩ : ∃ x, A.eval (.tmp 29) = x := ⟨_, rfl⟩
          have f29 : (fun v _ => v = (Value.bool false)) x29 u8 := by rw [← hx29]; exact hh.got 2 _ 29 rfl rfl (hall 2 (by decide))
          obtain ⟨x30, hx30⟩ : ∃ x, A.eval (.tmp 30) = x := ⟨_, rfl⟩
          have f30 : (fun v _ => v = (Value.int .i64 (k : Nat))) x30 u8 := by rw [← hx30]; exact hh.got 3 _ 30 rfl rfl (hall 3 (by decide))
          obtain ⟨x31, hx31⟩ : ∃ x, A.eval (.tmp 31) = x := ⟨_, rfl⟩
          have f31 : (fun v _ => v = (Value.slice a2 o C2)) x31 u8 := by rw [← hx31]; exact hh.got 4 _ 31 rfl rfl (hall 4 (by decide))
          obtain ⟨x32, hx32⟩ : ∃ x, A.eval (.tmp 32) = x := ⟨_, rfl⟩
          have f32 : (fun v _ => v = (Value.int .i64 (o : Nat))) x32 u8 := by rw [← hx32]; exact hh.got 5 _ 32 rfl rfl (hall 5 (by decide))
          obtain ⟨x33, hx33⟩ : ∃ x, A.eval (.tmp 33) = x := ⟨_, rfl⟩
          have f33 : (fun v _ => v = (Value.bool false)) x33 u8 := by rw [← hx33]; exact hh.got 6 _ 33 rfl rfl (hall 6 (by decide))
          obtain ⟨x34, hx34⟩ : ∃ x, A.eval (.tmp 34) = x := ⟨_, rfl⟩
          have f34 : (fun v _ => v = (Value.bool false)) x34 u8 := by rw [← hx34]; exact hh.got 7 _ 34 rfl rfl (hall 7 (by decide))
          obtain ⟨x35, hx35⟩ : ∃ x, A.eval (.tmp 35) = x := ⟨_, rfl⟩
          have f35 : (fun v _ => v = undef) x35 u8 := by rw [← hx35]; exact hh.got 8 _ 35 rfl rfl (hall 8 (by decide))
          obtain ⟨x36, hx36⟩ : ∃ x, A.eval (.tmp 36) = x := ⟨_, rfl⟩
          have f36 : (fun v _ => v = undef) x36 u8 := by rw [← hx36]; exact hh.got 9 _ 36 rfl rfl (hall 9 (by decide))
          obtain ⟨x37, hx37⟩ : ∃ x, A.eval (.tmp 37) = x := ⟨_, rfl⟩
          have f37 : (fun v _ => v = undef) x37 u8 := by rw [← hx37]; exact hh.got 10 _ 37 rfl rfl (hall 10 (by decide))
          obtain ⟨x38, hx38⟩ : ∃ x, A.eval (.tmp 38) = x := ⟨_, rfl⟩
          have f38 : (fun v _ => v = undef) x38 u8 := by rw [← hx38]; exact hh.got 11 _ 38 rfl rfl (hall 11 (by decide))
          obtain ⟨x39, hx39⟩ : ∃ x, A.eval (.tmp 39) = x := ⟨_, rfl⟩
          have f39 : (fun v _ => v = undef) x39 u8 := by rw [← hx39]; exact hh.got 12 _ 39 rfl rfl (hall 12 (by decide))
          obtain ⟨x40, hx40⟩ : ∃ x, A.eval (.tmp 40) = x := ⟨_, rfl⟩
          have f40 : (fun v _ => v = undef) x40 u8 := by rw [← hx40]; exact hh.got 13 _ 40 rfl rfl (hall 13 (by decide))
          obtain ⟨x41, hx41⟩ : ∃ x, A.eval (.tmp 41) = x := ⟨_, rfl⟩
          have f41 : (fun v _ => v = undef) x41 u8 := by rw [← hx41]; exact hh.got 14 _ 41 rfl rfl (hall 14 (by decide))
          obtain ⟨x42, hx42⟩ : ∃ x, A.eval (.tmp 42) = x := ⟨_, rfl⟩
          have f42 : (fun v _ => v = (Value.bool false)) x42 u8 := by rw [← hx42]; exact hh.got 15 _ 42 rfl rfl (hall 15 (by decide))
          obtain ⟨x43, hx43⟩ : ∃ x, A.eval (.tmp 43) = x := ⟨_, rfl⟩
          have f43 : (fun v _ => v = (Value.bool false)) x43 u8 := by rw [← hx43]; exact hh.got 16 _ 43 rfl rfl (hall 16 (by decide))
          obtain ⟨x6, hx6⟩ : ∃ x, A.eval (.tmp 6) = x := ⟨_, rfl⟩
          have f6 : (fun v _ => v = (Value.bool false)) x6 u8 := by rw [← hx6]; exact hh.got 17 _ 6 rfl rfl (hall 17 (by decide))
          dsimp only [wrote, List.foldl] at hA
          rw [hx27, hx28, hx29, hx30, hx31, hx32, hx33, hx34, hx35, hx36, hx37, hx38, hx39, hx40, hx41, hx42, hx43, hx6] at hA
          clear hh hall hx27 hx28 hx29 hx30 hx31 hx32 hx33 hx34 hx35 hx36 hx37 hx38 hx39 hx40 hx41 hx42 hx43 hx6
          replace f27 := (f27 : x27 = (.slice a2 o C2))
          subst f27
          replace f28 := (f28 : x28 = (.bool false))
          subst f28
          replace f29 := (f29 : x29 = (.bool false))
          subst f29
          replace f30 := (f30 : x30 = (.int .i64 (k : Nat)))
          subst f30
          replace f31 := (f31 : x31 = (.slice a2 o C2))
          subst f31
          replace f32 := (f32 : x32 = (.int .i64 (o : Nat)))
          subst f32
          replace f33 := (f33 : x33 = (.bool false))
          subst f33
          replace f34 := (f34 : x34 = (.bool false))
          subst f34
          replace f35 := (f35 : x35 = undef)
          subst f35
          replace f36 := (f36 : x36 = undef)
          subst f36
          replace f37 := (f37 : x37 = undef)
          subst f37
          replace f38 := (f38 : x38 = undef)
          subst f38
          replace f39 := (f39 : x39 = undef)
          subst f39
          replace f40 := (f40 : x40 = undef)
          subst f40
          replace f41 := (f41 : x41 = undef)
          subst f41
          replace f42 := (f42 : x42 = (.bool false))
          subst f42
          replace f43 := (f43 : x43 = (.bool false))
          subst f43
          replace f6 := (f6 : x6 = (.bool false))
          subst f6
          subst hA
          show wpList _ _ _ [] _ _
          unfold wpList
          simp only [Act.put, List.setIfInBounds_toArray, List.set_cons_succ, List.set_cons_zero]
          have HUz := hid (gtrans HU9.out HU.out)
          go_wp2_with fail
          go_ret
          exact ⟨by rw [HRes.out]; rfl, HUz.out⟩
end Go.Proofs.YtlgjmhemgfjgnaaGreat
