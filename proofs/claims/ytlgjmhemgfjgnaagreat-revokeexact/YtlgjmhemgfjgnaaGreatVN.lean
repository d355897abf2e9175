/- Add. -/
import Derived.Test.YtlgjmhemgfjgnaaGreatVM
namespace Go.Proofs.YtlgjmhemgfjgnaaGreat
open Go Go.RowKit
open Go.RowKit (wrap32 wrap64)

set_option maxRecDepth 100000 in
theorem isEmpty_nil {α : Type} {l : List α} (h : l.isEmpty = true) : l = [] := List.isEmpty_iff.1 h
set_option maxRecDepth 100000 in
set_option maxHeartbeats 6400000 in
theorem add_any (w : World) (v : Value) (F : Nat → Prop) (l : List Ky) (g : Nat) (id : List UInt8) (ex : Int) (hv : RdK w F v l) (hl : l.length ≤ 1000000) (hidl : id.length = 16) (hg : g < 18446744073709551616) (hex : -9223372036854775808 ≤ ex ∧ ex ≤ 9223372036854775807) :
    Calls Tryz.prog 24 #[v, .int .u64 g, .agg (Lib.byteCells id).toArray, .int .i64 ex] w fun e w' => ∃ v', e = .returned v' ∧ OutK w.heap.size w' v' (addL l g id ex) ∧ w.grownBy w' none := by
  have HV := hid hv
  obtain ⟨ho, a, b, off, c, rfl, hc, Ha, Hc⟩ := hv.open
  obtain ⟨n, HN⟩ : ∃ n, Hid (l.length = n) := ⟨_, hid rfl⟩
  have HO := hid ho
  obtain ⟨gk, HGk⟩ : ∃ x, Hid (chk l = x) := ⟨_, hid rfl⟩
  have HCk : Hid (∀ u, w.grownBy u none → Calls Tryz.prog 17 #[.slice a n c] u fun e w' => e = .returned (.int .i64 (if gk = true then 0 else 140)) ∧ u.grownBy w' none) := hid (fun u hu => by
    have := check_any u _ F l (HV.out.keep hu) (by omega)
    rw [HGk.out, HN.out] at this
    exact this)
  cases gk with
  | false =>
    have HPr : Hid (addL l g id ex = []) := hid (by unfold addL; rw [HGk.out, if_neg (by decide)])
    obtain ⟨J, HJ⟩ : ∃ x, Hid (Lib.byteCells id = x) := ⟨_, hid rfl⟩
    rw [HPr.out, HN.out, HJ.out]
    rw [if_neg (by decide)] at HCk
    clear hv ho hc Ha Hc HPr hl HGk HJ hex hg
    go_enter Tryz.func24, Tryz.ntmps24
    go_wp2_with (first
      | ((with_reducible refine wpList_box_row (by with_unfolding_all rfl) 69 _ (by with_unfolding_all rfl) J (by with_unfolding_all rfl) ?_); intro w1 B1 s1 g1; have HB1 := hid B1; have HG1 := hid g1; clear B1 g1 s1)
      | (go_at_call 17; (with_reducible refine (HCk.out _ HG1.out).mono ?_); rintro e w2 ⟨rfl, hg2⟩; have HG2 := hid (gtrans HG1.out hg2); clear hg2))
    go_ret
    exact ⟨_, rfl, OutK.nil _ _, HG2.out⟩
  | true =>
    rw [if_pos rfl] at HCk
    have hck := HGk.out
    obtain ⟨hlo, hdr⟩ := chk_lo hck g
    have hle := lo_own_le hck g
    obtain ⟨hk1, hk2, hk3, hk4, hk5⟩ := own_at HO.out hck g hidl
    have HHs := hid (hasL_own hck g id)
    obtain ⟨f, HF⟩ : ∃ x, Hid ((lo l g).length = x) := ⟨_, hid rfl⟩
    obtain ⟨o, HOw⟩ : ∃ x, Hid ((own l g).length = x) := ⟨_, hid rfl⟩
    obtain ⟨t, HT⟩ : ∃ x, Hid (f + o = x) := ⟨_, hid rfl⟩
    obtain ⟨k, HKk⟩ : ∃ x, Hid ((ahd (own l g) id).length = x) := ⟨_, hid rfl⟩
    rw [HF.out] at hlo hdr hle
    rw [HOw.out] at hle
    rw [HT.out, HN.out] at hle
    rw [HN.out] at HV hc
    have hmi : (l.drop f).take (t - f) = own l g := by
      rw [hdr, ← HT.out, Nat.add_sub_cancel_left, ← HOw.out, List.take_left]
    have HSp : Hid (∀ u, w.grownBy u none → Calls Tryz.prog 33 #[.slice a n c, .int .u64 g] u fun e w' => e = .returned (.tuple #[.int .i64 f, .int .i64 t]) ∧ u.grownBy w' none) := hid (fun u hu => by
      have := span_any u _ F l g (HV.out.keep hu) (by omega) hck
      rw [HF.out, HOw.out, HT.out] at this
      exact this)
    have hft : f ≤ t := by rw [← HT.out]; omega
    obtain ⟨a2, hs2, hr2⟩ := HV.out.cut f t hft hle hc
    rw [hmi] at hr2
    have hD : t - f = o := by have := HT.out; omega
    obtain ⟨C2, HC2⟩ : ∃ x, Hid (c - f = x) := ⟨_, hid rfl⟩
    rw [hD, HC2.out] at hs2 hr2
    have HS2 := hid hs2
    have HR2 := hid hr2
    obtain ⟨WB, HWB⟩ : ∃ x, Hid (wholeIn l g = x) := ⟨_, hid rfl⟩
    obtain ⟨EB, HEB⟩ : ∃ x, Hid ((eqs (own l g) id).isEmpty = x) := ⟨_, hid rfl⟩
    have HWh : Hid (∀ u, w.grownBy u none → Calls Tryz.prog 35 #[.slice a2 o C2] u fun e w' => e = .returned (.bool WB) ∧ u.grownBy w' none) := hid (fun u hu => by
      have := isWhole_any u _ F (own l g) (HR2.out.keep hu) (by rw [HOw.out]; have := HT.out; have := HN.out; omega)
      rw [isWh_own hck g, HWB.out] at this
      exact this)
    obtain ⟨J, HJ⟩ : ∃ x, Hid (Lib.byteCells id = x) := ⟨_, hid rfl⟩
    have HJL : Hid ((Tryz.prog.info? 69).map (·.size) = some J.length) := hid (by rw [← HJ.out, byteCells_length, hidl]; exact Tryz.size69)
    have HPl : Hid (∀ u, w.grownBy u none → Calls Tryz.prog 34 #[.slice a2 o C2, .agg J.toArray] u fun e w' => e = .returned (.int .i64 k) ∧ u.grownBy w' none) := hid (fun u hu => by
      have := placeOf_any u _ F (own l g) id k (HR2.out.keep hu) (by rw [HOw.out]; have := HT.out; have := HN.out; omega) hidl (by rw [← HKk.out]; exact hk1) (fun i hi => by rw [← HKk.out]; exact hk2 i hi)
      rw [HJ.out] at this
      exact this)
    have hko : k ≤ o := by rw [← HKk.out, ← HOw.out]; exact hk1
    have hEk : EB = false → k < o := fun h => by rw [← HKk.out, ← HOw.out]; exact hk4 (by rw [HEB.out]; exact h)
    obtain ⟨RLz, HRz⟩ : ∃ x, Hid (addL l g id ex = x) := ⟨_, hid rfl⟩
    have hak := (own_ids HO.out hck g hidl)
    obtain ⟨AX, HA⟩ : ∃ x, Hid (f + k = x) := ⟨_, hid rfl⟩
    have hAt : AX ≤ t := by rw [← HA.out, ← HT.out]; omega
    have hAn : AX ≤ n := Nat.le_trans hAt hle
    have htk : l.take AX = lo l g ++ ahd (own l g) id := by
      have h1 : l = lo l g ++ (own l g ++ hi l g) := chk_split hck g
      have h2 : own l g = ahd (own l g) id ++ (eqs (own l g) id ++ bhd (own l g) id) := by
        have := List.take_append_drop (ahd (own l g) id).length (own l g)
        rw [hak.1, hak.2.1] at this
        exact this.symm
      conv => lhs; rw [h1]
      rw [List.take_append, HF.out, List.take_of_length_le (by rw [HF.out, ← HA.out]; omega)]
      congr 1
      rw [← HA.out, Nat.add_sub_cancel_left, List.take_append_of_le_length (by rw [HOw.out]; exact hko), ← HKk.out]
      exact hak.1
    have hdk : l.drop AX = eqs (own l g) id ++ (bhd (own l g) id ++ hi l g) := by
      rw [← HA.out, ← List.drop_drop, hdr, List.drop_append_of_le_length (by rw [HOw.out]; exact hko), ← HKk.out, hak.2.1, List.append_assoc]
    obtain ⟨a1, hs1, hr1⟩ := HV.out.front AX hAn hc
    rw [htk] at hr1
    have HS1 := hid hs1
    have HR1 := hid hr1
    have HCl : Hid (∀ u, w.grownBy u none → Calls Tryz.prog 38 #[.slice a n c] u fun e w' => ∃ v', e = .returned v' ∧ OutK u.heap.size w' v' l ∧ u.grownBy w' none) := hid (fun u hu => clone_any u _ F l (HV.out.keep hu) hl)
    have HLen : Hid ((lo l g ++ ahd (own l g) id).length + (bhd (own l g) id ++ hi l g).length ≤ 1000000) := hid (by
      have h1 := congrArg List.length htk
      have h2 := congrArg List.length hdk
      rw [List.length_take] at h1
      rw [List.length_drop, List.length_append] at h2
      omega)
    have HRL : Hid (WB = false → RLz = (lo l g ++ ahd (own l g) id) ++ (⟨false, g, id, timeOf (eqs (own l g) id) ex⟩ :: (bhd (own l g) id ++ hi l g))) := hid (fun h => by
      rw [← HRz.out]
      unfold addL
      rw [hck, if_pos rfl, HWB.out, h, if_neg (by decide)])
    have HRW : Hid (WB = true → RLz = l) := hid (fun h => by
      rw [← HRz.out]
      unfold addL
      rw [hck, if_pos rfl, HWB.out, h, if_pos rfl])
    have HWt : Hid (∀ (u : World) (E : Int) (a3 : Option Addr) (n3 c3 : Nat), -9223372036854775808 ≤ E ∧ E ≤ 9223372036854775807 → w.grownBy u none → RdK w F (.slice a3 n3 c3) (bhd (own l g) id ++ hi l g) → Calls Tryz.prog 39 #[.slice a1 AX c, .agg (Ky.mk false g id E).cells.toArray, .slice a3 n3 c3] u fun e w' => ∃ v', e = .returned v' ∧ OutK u.heap.size w' v' ((lo l g ++ ahd (own l g) id) ++ (⟨false, g, id, E⟩ :: (bhd (own l g) id ++ hi l g))) ∧ u.grownBy w' none) := hid (fun u E a3 n3 c3 hE hu h3 =>
      with_any u F _ _ _ _ ⟨false, g, id, E⟩ ⟨hg, hidl, hE.1, hE.2⟩ (HR1.out.keep hu) (h3.keep hu) (by have := HLen.out; omega))
    have HBb : Hid (∀ E : Int, Tryz.prog.built 85 [(1, .int .u64 (g : Int)), (2, .agg J.toArray), (3, .int .i64 E)] = some (Ky.mk false g id E).cells.toArray) := hid (fun E => by rw [← HJ.out]; exact built_add g id E hidl)
    have HTl : Hid (∀ i, i ≤ n → ∃ a3, (∀ u, (Instr.sliceAt 57 (.slice a n c) (some (.int .i64 i)) none none).run Tryz.prog u = .ok (.slice a3 (n - i) (c - i)) u) ∧ RdK w F (.slice a3 (n - i) (c - i)) (l.drop i)) := hid (fun i hi => HV.out.tail HN.out i hi hc)
    have HQ : Hid (AX < t → ∃ q : Ky, a = some ⟨b, off, none⟩ ∧ AX < n ∧ q.ok ∧ (q.id == id) = !EB ∧ (EB = false → eqs (own l g) id = [q] ∧ l.drop (AX + 1) = bhd (own l g) id ++ hi l g) ∧ ∀ u, w.grownBy u none → u.rangeAt b (off + AX * 19) q.cells) := hid (fun h => by
      have hAl : AX < l.length := by rw [HN.out]; omega
      have hkl : k < (own l g).length := by rw [HOw.out]; have := HA.out; have := HT.out; omega
      have hq : l[AX] = (own l g)[k] := by
        have h0 : (l.drop f)[k]? = (own l g)[k]? := by rw [hdr, List.getElem?_append_left hkl]
        rw [List.getElem?_drop, HA.out, List.getElem?_eq_getElem hAl, List.getElem?_eq_getElem hkl] at h0
        exact Option.some.inj h0
      refine ⟨l[AX], (Ha.out (by omega)).1, by rw [← HN.out]; exact hAl, HO.out _ (List.getElem_mem hAl), ?_, fun hE => ?_, fun u hu => (Hc.out u hu AX hAl).1⟩
      · have := hk3 (by rw [HKk.out]; exact hkl)
        rw [HEB.out] at this
        simp only [HKk.out] at this
        rw [hq]
        exact this
      · have h5 := hk5 (by rw [HKk.out]; exact hkl) (by rw [HEB.out]; exact hE)
        simp only [HKk.out] at h5
        rw [← hq] at h5
        refine ⟨h5, ?_⟩
        rw [← List.drop_drop, hdk, h5]
        rfl)
    have HEn : Hid (EB = true → eqs (own l g) id = []) := hid (fun h => isEmpty_nil (by rw [HEB.out]; exact h))
    have HEA : Hid (EB = false → AX < t) := hid (fun h => by have := hEk h; have := HA.out; have := HT.out; omega)
    have hadd : ∀ (x y : Operand) (u : World), (do eqGuard .add 3 x y (.int .i64 (f : Nat)) (.int .i64 (k : Nat)); binOp .add 3 (.int .i64 (f : Nat)) (.int .i64 (k : Nat)) : Sem Value).run Tryz.prog u = .ok (.int .i64 (AX : Nat)) u := fun x y u => by
      have h : IntKind.i64.wrap ((f : Int) + (k : Int)) = (AX : Int) := by
        rw [IntKind.wrap_i64, ← HA.out]
        have := HN.out
        omega
      go_simp
    have HAd := hid hadd
    rw [HN.out, HRz.out, HJ.out]
    have hb1 : (t : Int) ≤ (n : Int) := by omega
    have hb2 : (f : Int) ≤ (t : Int) := by omega
    have hb3 : (n : Int) ≤ (c : Int) := by omega
    have hb4 : (n : Int) ≤ 1000000 := by have := HN.out; omega
    have HIdl := hid hidl
    have HJe := hid HJ.out
    have HEx := hid hex
    have HDk := hid hdk
    have hAi : (AX : Int) ≤ (n : Int) := by omega
    have HAn := hid hAn
    clear hv ho hc Ha Hc hl HGk hck hlo hdr hle hmi hft hs2 hr2 HV HWB HO HF HT hk1 hk2 hk3 hk4 hk5 HHs HKk HEB hD hidl HJ hadd hak htk hdk hr1 hs1 hex hg HA HRz hAn
    cases WB with
    | true =>
      as_aux_lemma =>
      obtain rfl : RLz = l := HRW.out rfl
      clear HRL HRW HWt HBb HTl HQ HEn HEA
      go_enter Tryz.func24, Tryz.ntmps24
      go_wp2_with (first
        | ((with_reducible refine wpList_box_row (by with_unfolding_all rfl) 69 _ (by with_unfolding_all rfl) J (by with_unfolding_all rfl) ?_); intro w1 B1 s1 g1; have HB1 := hid B1; have HG1 := hid g1; clear B1 g1 s1)
        | (go_at_call 17; (with_reducible refine (HCk.out _ HG1.out).mono ?_); rintro e w2 ⟨rfl, hg2⟩; have HG2 := hid (gtrans HG1.out hg2); have HB2 := hid (HB1.out.keep hg2); clear hg2)
        | (go_at_call 33; (with_reducible refine (HSp.out _ HG2.out).mono ?_); rintro e w3 ⟨rfl, hg3⟩; have HG3 := hid (gtrans HG2.out hg3); have HB3 := hid (HB2.out.keep hg3); clear hg3)
        | (with_reducible refine wpList_slice_lh (by with_unfolding_all rfl) 57 _ _ _ (by with_unfolding_all rfl) _ _ _ _ (by with_unfolding_all rfl) (by with_unfolding_all rfl) (by with_unfolding_all rfl) (HS2.out _) ?_)
        | (go_at_call 35; (with_reducible refine (HWh.out _ HG3.out).mono ?_); rintro e w9 ⟨rfl, hg9⟩; have HU9 := hid (gtrans HG3.out hg9); have HB9 := hid (HB3.out.keep hg9); clear hg9)
        | (go_at_call 38; (with_reducible refine (HCl.out _ HU9.out).mono ?_); rintro e wz ⟨vz, rfl, hoz, hgz⟩; have HUz := hid (gtrans HU9.out hgz); have HOz := hid (hoz.below HU9.out.size); clear hoz hgz))
      go_ret
      exact ⟨_, rfl, HOz.out, HUz.out⟩
    | false =>
      by_cases hAt2 : AX < t
      · obtain ⟨q, rfl, hAq, hq1, hq2, hq3, hq4⟩ := HQ.out hAt2
        have HAq := hid hAq
        have HLt : Hid (∀ (x y : Operand) (u : World), (do eqGuard .lss 3 x y (.int .i64 (AX : Nat)) (.int .i64 (t : Nat)); binOp .lss 3 (.int .i64 (AX : Nat)) (.int .i64 (t : Nat)) : Sem Value).run Tryz.prog u = .ok (.bool true) u) := hid (fun x y u => by
          have h : (AX : Int) < (t : Int) := by omega
          go_simp)
        have hne := fun x y u => eql_id q.id id hq1.2.1 HIdl.out (x := x) (y := y) u
        rw [hq2] at hne
        obtain ⟨JQ, HJQe⟩ : ∃ x, Hid (Lib.byteCells q.id = x) := ⟨_, hid rfl⟩
        have HJQ : Hid (∀ u, w.grownBy u none → u.rangeAt b (off + AX * 19 + 2) JQ) := hid (fun u hu => by rw [← HJQe.out]; exact range_id (hq4 u hu))
        have HJQL : Hid ((Tryz.prog.info? 69).map (·.size) = some JQ.length) := hid (by rw [← HJQe.out, byteCells_length, hq1.2.1]; exact Tryz.size69)
        rw [HJQe.out, HJe.out] at hne
        have HQe := hid hne
        have HCe0 : Hid (∀ u, w.grownBy u none → u.cell? ⟨b, off + AX * 19 + 18, none⟩ = some (.int .i64 q.ex)) := hid (fun u hu => hq4 u hu 18 _ (Ky.c18 hq1.2.1))
        have hAq' : (AX : Int) < (n : Int) := by omega
        cases EB with
        | false =>
          as_aux_lemma =>
          obtain ⟨hq5, hq6⟩ := hq3 rfl
          obtain ⟨x, hx⟩ : ∃ x, q.ex = x := ⟨_, rfl⟩
          have HCe := HCe0
          rw [hx] at HCe
          obtain ⟨E, HE⟩ : ∃ E, Hid (mx x ex = E) := ⟨_, hid rfl⟩
          have HEr : Hid (-9223372036854775808 ≤ E ∧ E ≤ 9223372036854775807) := hid (by
            have h1 := HEx.out
            have h2 := hq1.2.2
            rw [hx] at h2
            rw [← HE.out]
            unfold mx
            split
            · exact h2
            · exact h1)
          have HMx : Hid (∀ u ty, (Builtin.max_ #[2, 2] ty #[.int .i64 ex, .int .i64 x]).run Tryz.prog u = .ok (.int .i64 E) u) := hid (fun u ty => by rw [← HE.out]; exact run_max2 ex x u ty)
          have HRLE := hid (HRL.out rfl)
          rw [hq5] at HRLE
          have HTe : Hid (timeOf [q] ex = E) := hid (by rw [← HE.out, ← hx]; rfl)
          rw [HTe.out] at HRLE
          have HBH : Hid (AX + 1 ≤ n) := hid hAq
          have HDr := hid hq6
          clear hne hq1 hq2 hq3 hq4 HJQe hAt2 hAq HCe0 hq5 hq6 hx HE HTe
          obtain ⟨KN, HKN⟩ : ∃ x, Hid ((Ky.mk false g id E).cells = x) := ⟨_, hid rfl⟩
          have HBn := hid (HBb.out E)
          obtain ⟨a3, hs3, hr3⟩ := HTl.out (AX + 1) HBH.out
          rw [HDr.out] at hr3
          obtain ⟨n3, HN3⟩ : ∃ x, Hid (n - (AX + 1) = x) := ⟨_, hid rfl⟩
          obtain ⟨c3, HC3⟩ : ∃ x, Hid (c - (AX + 1) = x) := ⟨_, hid rfl⟩
          rw [HN3.out, HC3.out] at hs3 hr3
          have HS3 := hid hs3
          have HW1 := hid (fun u hu => HWt.out u E a3 n3 c3 HEr.out hu hr3)
          rw [HKN.out] at HBn HW1
          obtain ⟨RL, HRLe⟩ : ∃ x, Hid ((lo l g ++ ahd (own l g) id) ++ (⟨false, g, id, E⟩ :: (bhd (own l g) id ++ hi l g)) = x) := ⟨_, hid rfl⟩
          have HWi : Hid (∀ u, w.grownBy u none → Calls Tryz.prog 39 #[.slice a1 AX c, .agg KN.toArray, .slice a3 n3 c3] u fun e w' => ∃ v', e = .returned v' ∧ OutK u.heap.size w' v' RL ∧ u.grownBy w' none) := hid (fun u hu => by have := HW1.out u hu; rw [HRLe.out] at this; exact this)
          rw [HRLE.out, HRLe.out]
          clear hs3 hr3 HW1 HKN HRLe HRLE HN3 HC3 HBb HWt HTl HRL HRW HDr HEr HBH HEn HEA HEx HDk HQ HOw HN HLen HR1 HR2 HC2 HAn
          go_enter Tryz.func24, Tryz.ntmps24
          go_upto_region 6 with (first
            | ((with_reducible refine wpList_box_row (by with_unfolding_all rfl) 69 _ (by with_unfolding_all rfl) J (by with_unfolding_all rfl) ?_); intro w1 B1 s1 g1; have HB1 := hid B1; have HG1 := hid g1; clear B1 g1 s1)
            | (go_at_call 17; (with_reducible refine (HCk.out _ HG1.out).mono ?_); rintro e w2 ⟨rfl, hg2⟩; have HG2 := hid (gtrans HG1.out hg2); have HB2 := hid (HB1.out.keep hg2); clear hg2)
            | (go_at_call 33; (with_reducible refine (HSp.out _ HG2.out).mono ?_); rintro e w3 ⟨rfl, hg3⟩; have HG3 := hid (gtrans HG2.out hg3); have HB3 := hid (HB2.out.keep hg3); clear hg3)
            | (with_reducible refine wpList_slice_lh (by with_unfolding_all rfl) 57 _ _ _ (by with_unfolding_all rfl) _ _ _ _ (by with_unfolding_all rfl) (by with_unfolding_all rfl) (by with_unfolding_all rfl) (HS2.out _) ?_)
            | (go_at_call 35; (with_reducible refine (HWh.out _ HG3.out).mono ?_); rintro e w9 ⟨rfl, hg9⟩; have HU9 := hid (gtrans HG3.out hg9); have HB9 := hid (HB3.out.keep hg9); clear hg9))
          obtain ⟨p6, hp6⟩ : ∃ x, w.heap.size = x := ⟨_, rfl⟩
          rw [hp6] at HB9
          simp only [hp6]
          have HP6 : Hid (w.heap.size = p6) := hid hp6
          clear hp6 HB1 HB2 HB3
          refine wp_region_listX (by kernel_rfl) [fun v _ => v = (Value.int .i64 (f : Nat)), fun v _ => v = (Value.slice (some ⟨b, off, none⟩) n c), fun v _ => v = (Value.int .i64 (f : Nat)), fun v _ => v = (Value.int .i64 (t : Nat)), fun v _ => v = (Value.slice a2 o C2), fun v _ => v = (Value.agg J.toArray), fun v _ => v = (Value.int .i64 (k : Nat)), fun v _ => v = (Value.int .i64 (AX : Nat)), fun v _ => v = (Value.int .i64 (AX : Nat))] (none) (fun _ => none) 9 (by kernel_rfl) (by kernel_rfl) (by kernel_rfl) (by kernel_rfl) (by decide) noRow_one (fun _ => .inl rfl) ⟨fun i v u u' hki h hg => h, fun i v u u' hki h hg => h, fun i v u u' hki h hg => h, fun i v u u' hki h hg => h, fun i v u u' hki h hg => h, fun i v u u' hki h hg => h, fun i v u u' hki h hg => h, fun i v u u' hki h hg => h, fun i v u u' hki h hg => h, trivial⟩ ⟨?_, ?_, ?_, ?_, ?_, ?_, ?_, ?_, ?_, trivial⟩ ?_
          · intro A u hu hpu hsz hout hdeps
            have e9 : A.eval (.tmp 9) = (.int .i64 (f : Nat)) := (hout 9 (by kernel_rfl)).trans rfl
            refine ifw_none rfl ?_
            with_reducible refine shown_q (Value.int .i64 (f : Nat)) ?qq_1a1_0 (fun _ _ => ?qr_1a1_0)
            case qr_1a1_0 => exact (rfl : (Value.int .i64 (f : Nat)) = (Value.int .i64 (f : Nat)))
            with_reducible refine quietAt_mv (.tmp 9) (Value.int .i64 (f : Nat)) ?h0_1a1_0 ?h1_1a1_0
            case h0_1a1_0 => rfl
            case h1_1a1_0 => exact e9
          · intro A u hu hpu hsz hout hdeps
            have e0 : A.eval (.tmp 0) = (.slice (some ⟨b, off, none⟩) n c) := (hout 0 (by kernel_rfl)).trans rfl
            refine ifw_none rfl ?_
            with_reducible refine shown_q (Value.slice (some ⟨b, off, none⟩) n c) ?qq_1a1_1 (fun _ _ => ?qr_1a1_1)
            case qr_1a1_1 => exact (rfl : (Value.slice (some ⟨b, off, none⟩) n c) = (Value.slice (some ⟨b, off, none⟩) n c))
            with_reducible refine quietAt_mv (.tmp 0) (Value.slice (some ⟨b, off, none⟩) n c) ?h0_1a1_1 ?h1_1a1_1
            case h0_1a1_1 => rfl
            case h1_1a1_1 => exact e0
          · intro A u hu hpu hsz hout hdeps
            have e9 : A.eval (.tmp 9) = (.int .i64 (f : Nat)) := (hout 9 (by kernel_rfl)).trans rfl
            refine ifw_none rfl ?_
            with_reducible refine shown_q (Value.int .i64 (f : Nat)) ?qq_1a1_2 (fun _ _ => ?qr_1a1_2)
            case qr_1a1_2 => exact (rfl : (Value.int .i64 (f : Nat)) = (Value.int .i64 (f : Nat)))
            with_reducible refine quietAt_mv (.tmp 9) (Value.int .i64 (f : Nat)) ?h0_1a1_2 ?h1_1a1_2
            case h0_1a1_2 => rfl
            case h1_1a1_2 => exact e9
          · intro A u hu hpu hsz hout hdeps
            have e10 : A.eval (.tmp 10) = (.int .i64 (t : Nat)) := (hout 10 (by kernel_rfl)).trans rfl
            refine ifw_none rfl ?_
            with_reducible refine shown_q (Value.int .i64 (t : Nat)) ?qq_1a1_3 (fun _ _ => ?qr_1a1_3)
            case qr_1a1_3 => exact (rfl : (Value.int .i64 (t : Nat)) = (Value.int .i64 (t : Nat)))
            with_reducible refine quietAt_mv (.tmp 10) (Value.int .i64 (t : Nat)) ?h0_1a1_3 ?h1_1a1_3
            case h0_1a1_3 => rfl
            case h1_1a1_3 => exact e10
          · intro A u hu hpu hsz hout hdeps
            have e30 : A.eval (.tmp 30) = (.slice (some ⟨b, off, none⟩) n c) := by have h := depL hdeps 1 (by kernel_rfl) 30 (by kernel_rfl); exact h
            have e31 : A.eval (.tmp 31) = (.int .i64 (f : Nat)) := by have h := depL hdeps 2 (by kernel_rfl) 31 (by kernel_rfl); exact h
            have e32 : A.eval (.tmp 32) = (.int .i64 (t : Nat)) := by have h := depL hdeps 3 (by kernel_rfl) 32 (by kernel_rfl); exact h
            refine ifw_none rfl ?_
            with_reducible refine shown_q (Value.slice a2 o C2) ?qq_1a1_4 (fun _ _ => ?qr_1a1_4)
            case qr_1a1_4 => exact (rfl : (Value.slice a2 o C2) = (Value.slice a2 o C2))
            with_reducible refine quietAt_slicelh 57 (.tmp 30) (.tmp 31) (.tmp 32) (Value.slice (some ⟨b, off, none⟩) n c) (Value.int .i64 (f : Nat)) (Value.int .i64 (t : Nat)) (Value.slice a2 o C2) ?h0_1a1_4 ?h1_1a1_4 ?h2_1a1_4 ?h3_1a1_4 ?h4_1a1_4
            case h0_1a1_4 => rfl
            case h1_1a1_4 => exact e30
            case h2_1a1_4 => exact e31
            case h3_1a1_4 => exact e32
            case h4_1a1_4 => exact (HS2.out u)
          · intro A u hu hpu hsz hout hdeps
            have e6 : A.eval (.tmp 6) = (.pointer (some ⟨p6, 0, none⟩)) := (hout 6 (by kernel_rfl)).trans rfl
            refine ifw_none rfl ?_
            with_reducible refine shown_q (Value.agg J.toArray) ?qq_1a1_5 (fun _ _ => ?qr_1a1_5)
            case qr_1a1_5 => exact (rfl : (Value.agg J.toArray) = (Value.agg J.toArray))
            with_reducible refine quietAt_load 69 (.tmp 6) ?h0_1a1_5 p6 0 J (.array 16 5) ?h1_1a1_5 ?h2_1a1_5 ?h3_1a1_5 ?h4_1a1_5 ?h5_1a1_5
            case h0_1a1_5 => rfl
            case h1_1a1_5 => exact e6
            case h2_1a1_5 => exact (HB9.out.keep hu).whole
            case h3_1a1_5 => exact Tryz.underlying69
            case h4_1a1_5 => rfl
            case h5_1a1_5 => exact HJL.out
          · intro A u hu hpu hsz hout hdeps
            have e33 : A.eval (.tmp 33) = (.slice a2 o C2) := by have h := depL hdeps 4 (by kernel_rfl) 33 (by kernel_rfl); exact h
            have e34 : A.eval (.tmp 34) = (.agg J.toArray) := by have h := depL hdeps 5 (by kernel_rfl) 34 (by kernel_rfl); exact h
            refine ifw_none rfl ?_
            with_reducible refine shown_q (Value.int .i64 (k : Nat)) ?qq_1a1_6 (fun _ _ => ?qr_1a1_6)
            case qr_1a1_6 => exact (rfl : (Value.int .i64 (k : Nat)) = (Value.int .i64 (k : Nat)))
            with_reducible refine quietAt_call 34 Tryz.f34 ?h0_1a1_6 ?h1_1a1_6 ?h2_1a1_6 #[.tmp 33, .tmp 34] #[57, 69] ?h3_1a1_6 (Value.int .i64 (k : Nat)) #[(Value.slice a2 o C2), (Value.agg J.toArray)] ?h4_1a1_6 ?h5_1a1_6
            case h0_1a1_6 => exact Tryz.func34
            case h1_1a1_6 => kernel_rfl
            case h2_1a1_6 => kernel_rfl
            case h3_1a1_6 => rfl
            case h4_1a1_6 => exact map2 _ _ _ _ _ e33 e34
            case h5_1a1_6 => exact HPl.out u (gtrans HU9.out hu)
          · intro A u hu hpu hsz hout hdeps
            have e29 : A.eval (.tmp 29) = (.int .i64 (f : Nat)) := by have h := depL hdeps 0 (by kernel_rfl) 29 (by kernel_rfl); exact h
            have e35 : A.eval (.tmp 35) = (.int .i64 (k : Nat)) := by have h := depL hdeps 6 (by kernel_rfl) 35 (by kernel_rfl); exact h
            refine ifw_none rfl ?_
            with_reducible refine shown_q (Value.int .i64 (AX : Nat)) ?qq_1a1_7 (fun _ _ => ?qr_1a1_7)
            case qr_1a1_7 => exact (rfl : (Value.int .i64 (AX : Nat)) = (Value.int .i64 (AX : Nat)))
            with_reducible refine quietAt_bin .add 3 (.tmp 29) (.tmp 35) 3 (Value.int .i64 (f : Nat)) (Value.int .i64 (k : Nat)) (Value.int .i64 (AX : Nat)) ?h0_1a1_7 ?h1_1a1_7 ?h2_1a1_7 ?h3_1a1_7
            case h0_1a1_7 => rfl
            case h1_1a1_7 => exact e29
            case h2_1a1_7 => exact e35
            case h3_1a1_7 => exact HAd.out _ _ u
          · intro A u hu hpu hsz hout hdeps
            have e36 : A.eval (.tmp 36) = (.int .i64 (AX : Nat)) := by have h := depL hdeps 7 (by kernel_rfl) 36 (by kernel_rfl); exact h
            refine ifw_none rfl ?_
            with_reducible refine shown_q (Value.int .i64 (AX : Nat)) ?qq_1a1_8 (fun _ _ => ?qr_1a1_8)
            case qr_1a1_8 => exact (rfl : (Value.int .i64 (AX : Nat)) = (Value.int .i64 (AX : Nat)))
            with_reducible refine quietAt_as (.tmp 36) (Value.int .i64 (AX : Nat)) ?h0_1a1_8 ?h1_1a1_8
            case h0_1a1_8 => rfl
            case h1_1a1_8 => exact e36
          · intro A u8 listed hh hall
            have hA := hh.frame
            have HU := hid hh.grown
            obtain ⟨x29, hx29⟩ : ∃ x, A.eval (.tmp 29) = x := ⟨_, rfl⟩
            have f29 : (fun v _ => v = (Value.int .i64 (f : Nat))) x29 u8 := by rw [← hx29]; exact hh.got 0 _ 29 rfl rfl (hall 0 (by decide))
            obtain ⟨x30, hx30⟩ : ∃ x, A.eval (.tmp 30) = x := ⟨_, rfl⟩
            have f30 : (fun v _ => v = (Value.slice (some ⟨b, off, none⟩) n c)) x30 u8 := by rw [← hx30]; exact hh.got 1 _ 30 rfl rfl (hall 1 (by decide))
            obtain ⟨x31, hx31⟩ : ∃ x, A.eval (.tmp 31) = x := ⟨_, rfl⟩
            have f31 : (fun v _ => v = (Value.int .i64 (f : Nat))) x31 u8 := by rw [← hx31]; exact hh.got 2 _ 31 rfl rfl (hall 2 (by decide))
            obtain ⟨x32, hx32⟩ : ∃ x, A.eval (.tmp 32) = x := ⟨_, rfl⟩
            have f32 : (fun v _ => v = (Value.int .i64 (t : Nat))) x32 u8 := by rw [← hx32]; exact hh.got 3 _ 32 rfl rfl (hall 3 (by decide))
            obtain ⟨x33, hx33⟩ : ∃ x, A.eval (.tmp 33) = x := ⟨_, rfl⟩
            have f33 : (fun v _ => v = (Value.slice a2 o C2)) x33 u8 := by rw [← hx33]; exact hh.got 4 _ 33 rfl rfl (hall 4 (by decide))
            obtain ⟨x34, hx34⟩ : ∃ x, A.eval (.tmp 34) = x := ⟨_, rfl⟩
            have f34 : (fun v _ => v = (Value.agg J.toArray)) x34 u8 := by rw [← hx34]; exact hh.got 5 _ 34 rfl rfl (hall 5 (by decide))
            obtain ⟨x35, hx35⟩ : ∃ x, A.eval (.tmp 35) = x := ⟨_, rfl⟩
            have f35 : (fun v _ => v = (Value.int .i64 (k : Nat))) x35 u8 := by rw [← hx35]; exact hh.got 6 _ 35 rfl rfl (hall 6 (by decide))
            obtain ⟨x36, hx36⟩ : ∃ x, A.eval (.tmp 36) = x := ⟨_, rfl⟩
            have f36 : (fun v _ => v = (Value.int .i64 (AX : Nat))) x36 u8 := by rw [← hx36]; exact hh.got 7 _ 36 rfl rfl (hall 7 (by decide))
            obtain ⟨x11, hx11⟩ : ∃ x, A.eval (.tmp 11) = x := ⟨_, rfl⟩
            have f11 : (fun v _ => v = (Value.int .i64 (AX : Nat))) x11 u8 := by rw [← hx11]; exact hh.got 8 _ 11 rfl rfl (hall 8 (by decide))
            dsimp only [wrote, List.foldl] at hA
            rw [hx29, hx30, hx31, hx32, hx33, hx34, hx35, hx36, hx11] at hA
            clear hh hall hx29 hx30 hx31 hx32 hx33 hx34 hx35 hx36 hx11
            replace f29 := (f29 : x29 = (.int .i64 (f : Nat)))
            subst f29
            replace f30 := (f30 : x30 = (.slice (some ⟨b, off, none⟩) n c))
            subst f30
            replace f31 := (f31 : x31 = (.int .i64 (f : Nat)))
            subst f31
            replace f32 := (f32 : x32 = (.int .i64 (t : Nat)))
            subst f32
            replace f33 := (f33 : x33 = (.slice a2 o C2))
            subst f33
            replace f34 := (f34 : x34 = (.agg J.toArray))
            subst f34
            replace f35 := (f35 : x35 = (.int .i64 (k : Nat)))
            subst f35
            replace f36 := (f36 : x36 = (.int .i64 (AX : Nat)))
            subst f36
            replace f11 := (f11 : x11 = (.int .i64 (AX : Nat)))
            subst f11
            subst hA
            show wpList _ _ _ [] _ _
            unfold wpList
            simp only [Act.put, List.setIfInBounds_toArray, List.set_cons_succ, List.set_cons_zero]
            have HU8 := hid (gtrans HU9.out HU.out)
            have HB8 := hid (HB9.out.keep HU.out)
            clear HU HU9 HB9
            go_upto_region 8 with fail
            refine wp_region_listX (by kernel_rfl) [fun v _ => v = (Value.int .i64 (AX : Nat)), fun v _ => v = (Value.int .i64 (t : Nat)), fun v _ => v = (Value.bool true), fun v _ => v = (Value.bool true), fun v _ => v = (Value.slice (some ⟨b, off, none⟩) n c), fun v _ => v = (Value.int .i64 (AX : Nat)), fun v _ => v = (Value.pointer (some ⟨b, off + AX * 19, none⟩)), fun v _ => v = (Value.pointer (some ⟨b, off + AX * 19 + 2, none⟩)), fun v _ => v = (Value.agg JQ.toArray), fun v _ => v = (Value.agg J.toArray), fun v _ => v = (Value.bool true), fun v _ => v = (Value.bool true)] (none) (fun _ => none) 12 (by kernel_rfl) (by kernel_rfl) (by kernel_rfl) (by kernel_rfl) (by decide) noRow_one (fun _ => .inl rfl) ⟨fun i v u u' hki h hg => h, fun i v u u' hki h hg => h, fun i v u u' hki h hg => h, fun i v u u' hki h hg => h, fun i v u u' hki h hg => h, fun i v u u' hki h hg => h, fun i v u u' hki h hg => h, fun i v u u' hki h hg => h, fun i v u u' hki h hg => h, fun i v u u' hki h hg => h, fun i v u u' hki h hg => h, fun i v u u' hki h hg => h, trivial⟩ ⟨?_, ?_, ?_, ?_, ?_, ?_, ?_, ?_, ?_, ?_, ?_, ?_, trivial⟩ ?_
            · intro A u hu hpu hsz hout hdeps
              have e11 : A.eval (.tmp 11) = (.int .i64 (AX : Nat)) := (hout 11 (by kernel_rfl)).trans rfl
              refine ifw_none rfl ?_
              with_reducible refine shown_q (Value.int .i64 (AX : Nat)) ?qq_2a2_0 (fun _ _ => ?qr_2a2_0)
              case qr_2a2_0 => exact (rfl : (Value.int .i64 (AX : Nat)) = (Value.int .i64 (AX : Nat)))
              with_reducible refine quietAt_mv (.tmp 11) (Value.int .i64 (AX : Nat)) ?h0_2a2_0 ?h1_2a2_0
              case h0_2a2_0 => rfl
              case h1_2a2_0 => exact e11
            · intro A u hu hpu hsz hout hdeps
              have e10 : A.eval (.tmp 10) = (.int .i64 (t : Nat)) := (hout 10 (by kernel_rfl)).trans rfl
              refine ifw_none rfl ?_
              with_reducible refine shown_q (Value.int .i64 (t : Nat)) ?qq_2a2_1 (fun _ _ => ?qr_2a2_1)
              case qr_2a2_1 => exact (rfl : (Value.int .i64 (t : Nat)) = (Value.int .i64 (t : Nat)))
              with_reducible refine quietAt_mv (.tmp 10) (Value.int .i64 (t : Nat)) ?h0_2a2_1 ?h1_2a2_1
              case h0_2a2_1 => rfl
              case h1_2a2_1 => exact e10
            · intro A u hu hpu hsz hout hdeps
              have e38 : A.eval (.tmp 38) = (.int .i64 (AX : Nat)) := by have h := depL hdeps 0 (by kernel_rfl) 38 (by kernel_rfl); exact h
              have e39 : A.eval (.tmp 39) = (.int .i64 (t : Nat)) := by have h := depL hdeps 1 (by kernel_rfl) 39 (by kernel_rfl); exact h
              refine ifw_none rfl ?_
              with_reducible refine shown_q (Value.bool true) ?qq_2a2_2 (fun _ _ => ?qr_2a2_2)
              case qr_2a2_2 => exact (rfl : (Value.bool true) = (Value.bool true))
              with_reducible refine quietAt_bin .lss 3 (.tmp 38) (.tmp 39) 3 (Value.int .i64 (AX : Nat)) (Value.int .i64 (t : Nat)) (Value.bool true) ?h0_2a2_2 ?h1_2a2_2 ?h2_2a2_2 ?h3_2a2_2
              case h0_2a2_2 => rfl
              case h1_2a2_2 => exact e38
              case h2_2a2_2 => exact e39
              case h3_2a2_2 => exact HLt.out _ _ u
            · intro A u hu hpu hsz hout hdeps
              have e40 : A.eval (.tmp 40) = (.bool true) := by have h := depL hdeps 2 (by kernel_rfl) 40 (by kernel_rfl); exact h
              refine ifw_none rfl ?_
              with_reducible refine shown_q (Value.bool true) ?qq_2a2_3 (fun _ _ => ?qr_2a2_3)
              case qr_2a2_3 => exact (rfl : (Value.bool true) = (Value.bool true))
              with_reducible refine quietAt_mv (.tmp 40) (Value.bool true) ?h0_2a2_3 ?h1_2a2_3
              case h0_2a2_3 => rfl
              case h1_2a2_3 => exact e40
            · intro A u hu hpu hsz hout hdeps
              have e41 : A.eval (.tmp 41) = (.bool true) := by have h := depL hdeps 3 (by kernel_rfl) 41 (by kernel_rfl); exact h
              have e0 : A.eval (.tmp 0) = (.slice (some ⟨b, off, none⟩) n c) := (hout 0 (by kernel_rfl)).trans rfl
              refine ifw_want 3 true 41 rfl rfl e41 ?_
              with_reducible refine shown_q (Value.slice (some ⟨b, off, none⟩) n c) ?qq_2a2_4 (fun _ _ => ?qr_2a2_4)
              case qr_2a2_4 => exact (rfl : (Value.slice (some ⟨b, off, none⟩) n c) = (Value.slice (some ⟨b, off, none⟩) n c))
              with_reducible refine quietAt_mv (.tmp 0) (Value.slice (some ⟨b, off, none⟩) n c) ?h0_2a2_4 ?h1_2a2_4
              case h0_2a2_4 => rfl
              case h1_2a2_4 => exact e0
            · intro A u hu hpu hsz hout hdeps
              have e41 : A.eval (.tmp 41) = (.bool true) := by have h := depL hdeps 3 (by kernel_rfl) 41 (by kernel_rfl); exact h
              have e11 : A.eval (.tmp 11) = (.int .i64 (AX : Nat)) := (hout 11 (by kernel_rfl)).trans rfl
              refine ifw_want 3 true 41 rfl rfl e41 ?_
              with_reducible refine shown_q (Value.int .i64 (AX : Nat)) ?qq_2a2_5 (fun _ _ => ?qr_2a2_5)
              case qr_2a2_5 => exact (rfl : (Value.int .i64 (AX : Nat)) = (Value.int .i64 (AX : Nat)))
              with_reducible refine quietAt_mv (.tmp 11) (Value.int .i64 (AX : Nat)) ?h0_2a2_5 ?h1_2a2_5
              case h0_2a2_5 => rfl
              case h1_2a2_5 => exact e11
            · intro A u hu hpu hsz hout hdeps
              have e41 : A.eval (.tmp 41) = (.bool true) := by have h := depL hdeps 3 (by kernel_rfl) 41 (by kernel_rfl); exact h
              have e42 : A.eval (.tmp 42) = (.slice (some ⟨b, off, none⟩) n c) := by have h := depL hdeps 4 (by kernel_rfl) 42 (by kernel_rfl); exact h
              have e43 : A.eval (.tmp 43) = (.int .i64 (AX : Nat)) := by have h := depL hdeps 5 (by kernel_rfl) 43 (by kernel_rfl); exact h
              refine ifw_want 3 true 41 rfl rfl e41 ?_
              with_reducible refine shown_q (Value.pointer (some ⟨b, off + AX * 19, none⟩)) ?qq_2a2_6 (fun _ _ => ?qr_2a2_6)
              case qr_2a2_6 => exact (rfl : (Value.pointer (some ⟨b, off + AX * 19, none⟩)) = (Value.pointer (some ⟨b, off + AX * 19, none⟩)))
              with_reducible refine quietAt_idx 57 (.tmp 42) (.tmp 43) (Value.slice (some ⟨b, off, none⟩) n c) (Value.int .i64 (AX : Nat)) (Value.pointer (some ⟨b, off + AX * 19, none⟩)) ?h0_2a2_6 ?h1_2a2_6 ?h2_2a2_6 ?h3_2a2_6
              case h0_2a2_6 => rfl
              case h1_2a2_6 => exact e42
              case h2_2a2_6 => exact e43
              case h3_2a2_6 => exact (idx23 b off n c AX HAq.out u)
            · intro A u hu hpu hsz hout hdeps
              have e41 : A.eval (.tmp 41) = (.bool true) := by have h := depL hdeps 3 (by kernel_rfl) 41 (by kernel_rfl); exact h
              have e44 : A.eval (.tmp 44) = (.pointer (some ⟨b, off + AX * 19, none⟩)) := by have h := depL hdeps 6 (by kernel_rfl) 44 (by kernel_rfl); exact h
              refine ifw_want 3 true 41 rfl rfl e41 ?_
              with_reducible refine shown_q (Value.pointer (some ⟨b, off + AX * 19 + 2, none⟩)) ?qq_2a2_7 (fun _ _ => ?qr_2a2_7)
              case qr_2a2_7 => exact (rfl : (Value.pointer (some ⟨b, off + AX * 19 + 2, none⟩)) = (Value.pointer (some ⟨b, off + AX * 19 + 2, none⟩)))
              with_reducible refine quietAt_field 85 (.tmp 44) 2 ?h0_2a2_7 ⟨b, off + AX * 19, none⟩ ⟨b, off + AX * 19 + 2, none⟩ ?h1_2a2_7 ?h2_2a2_7
              case h0_2a2_7 => rfl
              case h1_2a2_7 => exact e44
              case h2_2a2_7 => kernel_rfl
            · intro A u hu hpu hsz hout hdeps
              have e41 : A.eval (.tmp 41) = (.bool true) := by have h := depL hdeps 3 (by kernel_rfl) 41 (by kernel_rfl); exact h
              have e45 : A.eval (.tmp 45) = (.pointer (some ⟨b, off + AX * 19 + 2, none⟩)) := by have h := depL hdeps 7 (by kernel_rfl) 45 (by kernel_rfl); exact h
              refine ifw_want 3 true 41 rfl rfl e41 ?_
              with_reducible refine shown_q (Value.agg JQ.toArray) ?qq_2a2_8 (fun _ _ => ?qr_2a2_8)
              case qr_2a2_8 => exact (rfl : (Value.agg JQ.toArray) = (Value.agg JQ.toArray))
              with_reducible refine quietAt_load 69 (.tmp 45) ?h0_2a2_8 b (off + AX * 19 + 2) JQ (.array 16 5) ?h1_2a2_8 ?h2_2a2_8 ?h3_2a2_8 ?h4_2a2_8 ?h5_2a2_8
              case h0_2a2_8 => rfl
              case h1_2a2_8 => exact e45
              case h2_2a2_8 => exact (HJQ.out u (gtrans HU8.out hu))
              case h3_2a2_8 => exact Tryz.underlying69
              case h4_2a2_8 => rfl
              case h5_2a2_8 => exact HJQL.out
            · intro A u hu hpu hsz hout hdeps
              have e41 : A.eval (.tmp 41) = (.bool true) := by have h := depL hdeps 3 (by kernel_rfl) 41 (by kernel_rfl); exact h
              have e6 : A.eval (.tmp 6) = (.pointer (some ⟨p6, 0, none⟩)) := (hout 6 (by kernel_rfl)).trans rfl
              refine ifw_want 3 true 41 rfl rfl e41 ?_
              with_reducible refine shown_q (Value.agg J.toArray) ?qq_2a2_9 (fun _ _ => ?qr_2a2_9)
              case qr_2a2_9 => exact (rfl : (Value.agg J.toArray) = (Value.agg J.toArray))
              with_reducible refine quietAt_load 69 (.tmp 6) ?h0_2a2_9 p6 0 J (.array 16 5) ?h1_2a2_9 ?h2_2a2_9 ?h3_2a2_9 ?h4_2a2_9 ?h5_2a2_9
              case h0_2a2_9 => rfl
              case h1_2a2_9 => exact e6
              case h2_2a2_9 => exact (HB8.out.keep hu).whole
              case h3_2a2_9 => exact Tryz.underlying69
              case h4_2a2_9 => rfl
              case h5_2a2_9 => exact HJL.out
            · intro A u hu hpu hsz hout hdeps
              have e41 : A.eval (.tmp 41) = (.bool true) := by have h := depL hdeps 3 (by kernel_rfl) 41 (by kernel_rfl); exact h
              have e46 : A.eval (.tmp 46) = (.agg JQ.toArray) := by have h := depL hdeps 8 (by kernel_rfl) 46 (by kernel_rfl); exact h
              have e47 : A.eval (.tmp 47) = (.agg J.toArray) := by have h := depL hdeps 9 (by kernel_rfl) 47 (by kernel_rfl); exact h
              refine ifw_want 3 true 41 rfl rfl e41 ?_
              with_reducible refine shown_q (Value.bool true) ?qq_2a2_10 (fun _ _ => ?qr_2a2_10)
              case qr_2a2_10 => exact (rfl : (Value.bool true) = (Value.bool true))
              with_reducible refine quietAt_bin .eql 69 (.tmp 46) (.tmp 47) 69 (Value.agg JQ.toArray) (Value.agg J.toArray) (Value.bool true) ?h0_2a2_10 ?h1_2a2_10 ?h2_2a2_10 ?h3_2a2_10
              case h0_2a2_10 => rfl
              case h1_2a2_10 => exact e46
              case h2_2a2_10 => exact e47
              case h3_2a2_10 => exact HQe.out _ _ u
            · intro A u hu hpu hsz hout hdeps
              have e41 : A.eval (.tmp 41) = (.bool true) := by have h := depL hdeps 3 (by kernel_rfl) 41 (by kernel_rfl); exact h
              have e48 : A.eval (.tmp 48) = (.bool true) := by have h := depL hdeps 10 (by kernel_rfl) 48 (by kernel_rfl); exact h
              refine ifw_none rfl ?_
              with_reducible refine shown_q (Value.bool true) ?qq_2a2_11 (fun _ _ => ?qr_2a2_11)
              case qr_2a2_11 => exact (rfl : (Value.bool true) = (Value.bool true))
              with_reducible refine quietAt_pick (.tmp 41) (.tmp 48) (.const (.bool false)) true (Value.bool true) ?h0_2a2_11 ?h1_2a2_11 ?h2_2a2_11
              case h0_2a2_11 => rfl
              case h1_2a2_11 => exact e41
              case h2_2a2_11 => rw [if_pos rfl]; exact e48
            · intro A u9 listed hh hall
              have hA := hh.frame
              have HU := hid hh.grown
              obtain ⟨x38, hx38⟩ : ∃ x, A.eval (.tmp 38) = x := ⟨_, rfl⟩
              have f38 : (fun v _ => v = (Value.int .i64 (AX : Nat))) x38 u9 := by rw [← hx38]; exact hh.got 0 _ 38 rfl rfl (hall 0 (by decide))
              obtain ⟨x39, hx39⟩ : ∃ x, A.eval (.tmp 39) = x := ⟨_, rfl⟩
              have f39 : (fun v _ => v = (Value.int .i64 (t : Nat))) x39 u9 := by rw [← hx39]; exact hh.got 1 _ 39 rfl rfl (hall 1 (by decide))
              obtain ⟨x40, hx40⟩ : ∃ x, A.eval (.tmp 40) = x := ⟨_, rfl⟩
              have f40 : (fun v _ => v = (Value.bool true)) x40 u9 := by rw [← hx40]; exact hh.got 2 _ 40 rfl rfl (hall 2 (by decide))
              obtain ⟨x41, hx41⟩ : ∃ x, A.eval (.tmp 41) = x := ⟨_, rfl⟩
              have f41 : (fun v _ => v = (Value.bool true)) x41 u9 := by rw [← hx41]; exact hh.got 3 _ 41 rfl rfl (hall 3 (by decide))
              obtain ⟨x42, hx42⟩ : ∃ x, A.eval (.tmp 42) = x := ⟨_, rfl⟩
              have f42 : (fun v _ => v = (Value.slice (some ⟨b, off, none⟩) n c)) x42 u9 := by rw [← hx42]; exact hh.got 4 _ 42 rfl rfl (hall 4 (by decide))
              obtain ⟨x43, hx43⟩ : ∃ x, A.eval (.tmp 43) = x := ⟨_, rfl⟩
              have f43 : (fun v _ => v = (Value.int .i64 (AX : Nat))) x43 u9 := by rw [← hx43]; exact hh.got 5 _ 43 rfl rfl (hall 5 (by decide))
              obtain ⟨x44, hx44⟩ : ∃ x, A.eval (.tmp 44) = x := ⟨_, rfl⟩
              have f44 : (fun v _ => v = (Value.pointer (some ⟨b, off + AX * 19, none⟩))) x44 u9 := by rw [← hx44]; exact hh.got 6 _ 44 rfl rfl (hall 6 (by decide))
              obtain ⟨x45, hx45⟩ : ∃ x, A.eval (.tmp 45) = x := ⟨_, rfl⟩
              have f45 : (fun v _ => v = (Value.pointer (some ⟨b, off + AX * 19 + 2, none⟩))) x45 u9 := by rw [← hx45]; exact hh.got 7 _ 45 rfl rfl (hall 7 (by decide))
              obtain ⟨x46, hx46⟩ : ∃ x, A.eval (.tmp 46) = x := ⟨_, rfl⟩
              have f46 : (fun v _ => v = (Value.agg JQ.toArray)) x46 u9 := by rw [← hx46]; exact hh.got 8 _ 46 rfl rfl (hall 8 (by decide))
              obtain ⟨x47, hx47⟩ : ∃ x, A.eval (.tmp 47) = x := ⟨_, rfl⟩
              have f47 : (fun v _ => v = (Value.agg J.toArray)) x47 u9 := by rw [← hx47]; exact hh.got 9 _ 47 rfl rfl (hall 9 (by decide))
              obtain ⟨x48, hx48⟩ : ∃ x, A.eval (.tmp 48) = x := ⟨_, rfl⟩
              have f48 : (fun v _ => v = (Value.bool true)) x48 u9 := by rw [← hx48]; exact hh.got 10 _ 48 rfl rfl (hall 10 (by decide))
              obtain ⟨x49, hx49⟩ : ∃ x, A.eval (.tmp 49) = x := ⟨_, rfl⟩
              have f49 : (fun v _ => v = (Value.bool true)) x49 u9 := by rw [← hx49]; exact hh.got 11 _ 49 rfl rfl (hall 11 (by decide))
              dsimp only [wrote, List.foldl] at hA
              rw [hx38, hx39, hx40, hx41, hx42, hx43, hx44, hx45, hx46, hx47, hx48, hx49] at hA
              clear hh hall hx38 hx39 hx40 hx41 hx42 hx43 hx44 hx45 hx46 hx47 hx48 hx49
              replace f38 := (f38 : x38 = (.int .i64 (AX : Nat)))
              subst f38
              replace f39 := (f39 : x39 = (.int .i64 (t : Nat)))
              subst f39
              replace f40 := (f40 : x40 = (.bool true))
              subst f40
              replace f41 := (f41 : x41 = (.bool true))
              subst f41
              replace f42 := (f42 : x42 = (.slice (some ⟨b, off, none⟩) n c))
              subst f42
              replace f43 := (f43 : x43 = (.int .i64 (AX : Nat)))
              subst f43
              replace f44 := (f44 : x44 = (.pointer (some ⟨b, off + AX * 19, none⟩)))
              subst f44
              replace f45 := (f45 : x45 = (.pointer (some ⟨b, off + AX * 19 + 2, none⟩)))
              subst f45
              replace f46 := (f46 : x46 = (.agg JQ.toArray))
              subst f46
              replace f47 := (f47 : x47 = (.agg J.toArray))
              subst f47
              replace f48 := (f48 : x48 = (.bool true))
              subst f48
              replace f49 := (f49 : x49 = (.bool true))
              subst f49
              subst hA
              show wpList _ _ _ [] _ _
              unfold wpList
              simp only [Act.put, List.setIfInBounds_toArray, List.set_cons_succ, List.set_cons_zero]
              have HUx := hid (gtrans HU8.out HU.out)
              have HBx := hid (HB8.out.keep HU.out)
              clear HU HU8 HB8
              obtain ⟨wx, hwx⟩ : ∃ x, x = u9 := ⟨_, rfl⟩
              rw [← hwx] at HUx HBx ⊢
              clear hwx
              have y18 := HCe.out _ HUx.out
              have ymx := HMx.out wx
              go_upto_region 11 with fail
              refine wp_region_listX (by kernel_rfl) [fun v _ => v = (Value.slice (some ⟨b, off, none⟩) n c), fun v _ => v = (Value.int .i64 (AX : Nat)), fun v _ => v = (Value.slice a1 AX c), fun v _ => v = (Value.int .u64 (g : Nat)), fun v _ => v = (Value.agg J.toArray), fun v _ => v = (Value.int .i64 E), fun v _ => v = (Value.agg KN.toArray), fun v _ => v = (Value.slice (some ⟨b, off, none⟩) n c), fun v _ => v = (Value.int .i64 ((AX + 1) : Nat)), fun v _ => v = (Value.slice a3 n3 c3), fun v u => ∃ z, v = z ∧ OutK wx.heap.size u z RL, fun v u => ∃ z, v = z ∧ OutK wx.heap.size u z RL] (none) (fun _ => none) 12 (by kernel_rfl) (by kernel_rfl) (by kernel_rfl) (by kernel_rfl) (by decide) noRow_one (fun _ => .inl rfl) ⟨fun i v u u' hki h hg => h, fun i v u u' hki h hg => h, fun i v u u' hki h hg => h, fun i v u u' hki h hg => h, fun i v u u' hki h hg => h, fun i v u u' hki h hg => h, fun i v u u' hki h hg => h, fun i v u u' hki h hg => h, fun i v u u' hki h hg => h, fun i v u u' hki h hg => h, fun i v u u' hki h hg => (by obtain ⟨z, rfl, h1⟩ := h; exact ⟨_, rfl, h1.keep hg⟩), fun i v u u' hki h hg => (by obtain ⟨z, rfl, h1⟩ := h; exact ⟨_, rfl, h1.keep hg⟩), trivial⟩ ⟨?_, ?_, ?_, ?_, ?_, ?_, ?_, ?_, ?_, ?_, ?_, ?_, trivial⟩ ?_
              · intro A u hu hpu hsz hout hdeps
                have e0 : A.eval (.tmp 0) = (.slice (some ⟨b, off, none⟩) n c) := (hout 0 (by kernel_rfl)).trans rfl
                refine ifw_none rfl ?_
                with_reducible refine shown_q (Value.slice (some ⟨b, off, none⟩) n c) ?qq_3a3_0 (fun _ _ => ?qr_3a3_0)
                case qr_3a3_0 => exact (rfl : (Value.slice (some ⟨b, off, none⟩) n c) = (Value.slice (some ⟨b, off, none⟩) n c))
                with_reducible refine quietAt_mv (.tmp 0) (Value.slice (some ⟨b, off, none⟩) n c) ?h0_3a3_0 ?h1_3a3_0
                case h0_3a3_0 => rfl
                case h1_3a3_0 => exact e0
              · intro A u hu hpu hsz hout hdeps
                have e11 : A.eval (.tmp 11) = (.int .i64 (AX : Nat)) := (hout 11 (by kernel_rfl)).trans rfl
                refine ifw_none rfl ?_
                with_reducible refine shown_q (Value.int .i64 (AX : Nat)) ?qq_3a3_1 (fun _ _ => ?qr_3a3_1)
                case qr_3a3_1 => exact (rfl : (Value.int .i64 (AX : Nat)) = (Value.int .i64 (AX : Nat)))
                with_reducible refine quietAt_mv (.tmp 11) (Value.int .i64 (AX : Nat)) ?h0_3a3_1 ?h1_3a3_1
                case h0_3a3_1 => rfl
                case h1_3a3_1 => exact e11
              · intro A u hu hpu hsz hout hdeps
                have e59 : A.eval (.tmp 59) = (.slice (some ⟨b, off, none⟩) n c) := by have h := depL hdeps 0 (by kernel_rfl) 59 (by kernel_rfl); exact h
                have e60 : A.eval (.tmp 60) = (.int .i64 (AX : Nat)) := by have h := depL hdeps 1 (by kernel_rfl) 60 (by kernel_rfl); exact h
                refine ifw_none rfl ?_
                with_reducible refine shown_q (Value.slice a1 AX c) ?qq_3a3_2 (fun _ _ => ?qr_3a3_2)
                case qr_3a3_2 => exact (rfl : (Value.slice a1 AX c) = (Value.slice a1 AX c))
                with_reducible refine quietAt_sliceh 57 (.tmp 59) (.tmp 60) (Value.slice (some ⟨b, off, none⟩) n c) (Value.int .i64 (AX : Nat)) (Value.slice a1 AX c) ?h0_3a3_2 ?h1_3a3_2 ?h2_3a3_2 ?h3_3a3_2
                case h0_3a3_2 => rfl
                case h1_3a3_2 => exact e59
                case h2_3a3_2 => exact e60
                case h3_3a3_2 => exact (HS1.out u)
              · intro A u hu hpu hsz hout hdeps
                have e1 : A.eval (.tmp 1) = (.int .u64 (g : Nat)) := (hout 1 (by kernel_rfl)).trans rfl
                refine ifw_none rfl ?_
                with_reducible refine shown_q (Value.int .u64 (g : Nat)) ?qq_3a3_3 (fun _ _ => ?qr_3a3_3)
                case qr_3a3_3 => exact (rfl : (Value.int .u64 (g : Nat)) = (Value.int .u64 (g : Nat)))
                with_reducible refine quietAt_mv (.tmp 1) (Value.int .u64 (g : Nat)) ?h0_3a3_3 ?h1_3a3_3
                case h0_3a3_3 => rfl
                case h1_3a3_3 => exact e1
              · intro A u hu hpu hsz hout hdeps
                have e6 : A.eval (.tmp 6) = (.pointer (some ⟨p6, 0, none⟩)) := (hout 6 (by kernel_rfl)).trans rfl
                refine ifw_none rfl ?_
                with_reducible refine shown_q (Value.agg J.toArray) ?qq_3a3_4 (fun _ _ => ?qr_3a3_4)
                case qr_3a3_4 => exact (rfl : (Value.agg J.toArray) = (Value.agg J.toArray))
                with_reducible refine quietAt_load 69 (.tmp 6) ?h0_3a3_4 p6 0 J (.array 16 5) ?h1_3a3_4 ?h2_3a3_4 ?h3_3a3_4 ?h4_3a3_4 ?h5_3a3_4
                case h0_3a3_4 => rfl
                case h1_3a3_4 => exact e6
                case h2_3a3_4 => exact (HBx.out.keep hu).whole
                case h3_3a3_4 => exact Tryz.underlying69
                case h4_3a3_4 => rfl
                case h5_3a3_4 => exact HJL.out
              · intro A u hu hpu hsz hout hdeps
                have e3 : A.eval (.tmp 3) = (.int .i64 E) := (hout 3 (by kernel_rfl)).trans rfl
                refine ifw_none rfl ?_
                with_reducible refine shown_q (Value.int .i64 E) ?qq_3a3_5 (fun _ _ => ?qr_3a3_5)
                case qr_3a3_5 => exact (rfl : (Value.int .i64 E) = (Value.int .i64 E))
                with_reducible refine quietAt_mv (.tmp 3) (Value.int .i64 E) ?h0_3a3_5 ?h1_3a3_5
                case h0_3a3_5 => rfl
                case h1_3a3_5 => exact e3
              · intro A u hu hpu hsz hout hdeps
                have e62 : A.eval (.tmp 62) = (.int .u64 (g : Nat)) := by have h := depL hdeps 3 (by kernel_rfl) 62 (by kernel_rfl); exact h
                have e63 : A.eval (.tmp 63) = (.agg J.toArray) := by have h := depL hdeps 4 (by kernel_rfl) 63 (by kernel_rfl); exact h
                have e64 : A.eval (.tmp 64) = (.int .i64 E) := by have h := depL hdeps 5 (by kernel_rfl) 64 (by kernel_rfl); exact h
                refine ifw_none rfl ?_
                with_reducible refine shown_q (Value.agg KN.toArray) ?qq_3a3_6 (fun _ _ => ?qr_3a3_6)
                case qr_3a3_6 => exact (rfl : (Value.agg KN.toArray) = (Value.agg KN.toArray))
                with_reducible refine quietAt_build 85 #[(1, .tmp 62), (2, .tmp 63), (3, .tmp 64)] ?h0_3a3_6 [(1, (Value.int .u64 (g : Nat))), (2, (Value.agg J.toArray)), (3, (Value.int .i64 E))] ?h1_3a3_6 KN ?h2_3a3_6
                case h0_3a3_6 => rfl
                case h1_3a3_6 => simp only [List.map_toArray, List.map_cons, List.map_nil, e62, e63, e64]
                case h2_3a3_6 => exact HBn.out
              · intro A u hu hpu hsz hout hdeps
                have e0 : A.eval (.tmp 0) = (.slice (some ⟨b, off, none⟩) n c) := (hout 0 (by kernel_rfl)).trans rfl
                refine ifw_none rfl ?_
                with_reducible refine shown_q (Value.slice (some ⟨b, off, none⟩) n c) ?qq_3a3_7 (fun _ _ => ?qr_3a3_7)
                case qr_3a3_7 => exact (rfl : (Value.slice (some ⟨b, off, none⟩) n c) = (Value.slice (some ⟨b, off, none⟩) n c))
                with_reducible refine quietAt_mv (.tmp 0) (Value.slice (some ⟨b, off, none⟩) n c) ?h0_3a3_7 ?h1_3a3_7
                case h0_3a3_7 => rfl
                case h1_3a3_7 => exact e0
              · intro A u hu hpu hsz hout hdeps
                have e12 : A.eval (.tmp 12) = (.int .i64 ((AX + 1) : Nat)) := (hout 12 (by kernel_rfl)).trans rfl
                refine ifw_none rfl ?_
                with_reducible refine shown_q (Value.int .i64 ((AX + 1) : Nat)) ?qq_3a3_8 (fun _ _ => ?qr_3a3_8)
                case qr_3a3_8 => exact (rfl : (Value.int .i64 ((AX + 1) : Nat)) = (Value.int .i64 ((AX + 1) : Nat)))
                with_reducible refine quietAt_mv (.tmp 12) (Value.int .i64 ((AX + 1) : Nat)) ?h0_3a3_8 ?h1_3a3_8
                case h0_3a3_8 => rfl
                case h1_3a3_8 => exact e12
              · intro A u hu hpu hsz hout hdeps
                have e66 : A.eval (.tmp 66) = (.slice (some ⟨b, off, none⟩) n c) := by have h := depL hdeps 7 (by kernel_rfl) 66 (by kernel_rfl); exact h
                have e67 : A.eval (.tmp 67) = (.int .i64 ((AX + 1) : Nat)) := by have h := depL hdeps 8 (by kernel_rfl) 67 (by kernel_rfl); exact h
                refine ifw_none rfl ?_
                with_reducible refine shown_q (Value.slice a3 n3 c3) ?qq_3a3_9 (fun _ _ => ?qr_3a3_9)
                case qr_3a3_9 => exact (rfl : (Value.slice a3 n3 c3) = (Value.slice a3 n3 c3))
                with_reducible refine quietAt_slicel 57 (.tmp 66) (.tmp 67) (Value.slice (some ⟨b, off, none⟩) n c) (Value.int .i64 ((AX + 1) : Nat)) (Value.slice a3 n3 c3) ?h0_3a3_9 ?h1_3a3_9 ?h2_3a3_9 ?h3_3a3_9
                case h0_3a3_9 => rfl
                case h1_3a3_9 => exact e66
                case h2_3a3_9 => exact e67
                case h3_3a3_9 => exact (HS3.out u)
              · intro A u hu hpu hsz hout hdeps
                have e61 : A.eval (.tmp 61) = (.slice a1 AX c) := by have h := depL hdeps 2 (by kernel_rfl) 61 (by kernel_rfl); exact h
                have e65 : A.eval (.tmp 65) = (.agg KN.toArray) := by have h := depL hdeps 6 (by kernel_rfl) 65 (by kernel_rfl); exact h
                have e68 : A.eval (.tmp 68) = (.slice a3 n3 c3) := by have h := depL hdeps 9 (by kernel_rfl) 68 (by kernel_rfl); exact h
                refine ifw_none rfl ?_
                with_reducible refine shown_call 39 Tryz.f39 ?h0_3a3_10 ?h1_3a3_10 ?h2_3a3_10 #[.tmp 61, .tmp 65, .tmp 68] #[57, 85, 57] ?h3_3a3_10 #[(Value.slice a1 AX c), (Value.agg KN.toArray), (Value.slice a3 n3 c3)] ?h4_3a3_10 ?h5_3a3_10
                case h0_3a3_10 => exact Tryz.func39
                case h1_3a3_10 => kernel_rfl
                case h2_3a3_10 => kernel_rfl
                case h3_3a3_10 => rfl
                case h4_3a3_10 => exact map3 _ _ _ _ _ _ _ e61 e65 e68
                case h5_3a3_10 => exact (HWi.out u (gtrans HUx.out hu)).mono fun e w' ⟨v', he, ho, hg⟩ => ⟨v', he, hg, v', rfl, ho.below hu.size⟩
              · intro A u hu hpu hsz hout hdeps
                have f69 : (fun v u => ∃ z, v = z ∧ OutK wx.heap.size u z RL) (A.eval (.tmp 69)) u := by have h := depL hdeps 10 (by kernel_rfl) 69 (by kernel_rfl); exact h
                obtain ⟨V9, e69, HV9⟩ := f69
                refine ifw_none rfl ?_
                exact shown_q _ (quietAt_as (.tmp 69) _ rfl e69) (fun u' hg => ⟨_, rfl, HV9.keep hg⟩)
              · intro A u10 listed hh hall
                have hA := hh.frame
                have HU := hid hh.grown
                obtain ⟨x59, hx59⟩ : ∃ x, A.eval (.tmp 59) = x := ⟨_, rfl⟩
                have f59 : (fun v _ => v = (Value.slice (some ⟨b, off, none⟩) n c)) x59 u10 := by rw [← hx59]; exact hh.got 0 _ 59 rfl rfl (hall 0 (by decide))
                obtain ⟨x60, hx60⟩ : ∃ x, A.eval (.tmp 60) = x := ⟨_, rfl⟩
                have f60 : (fun v _ => v = (Value.int .i64 (AX : Nat))) x60 u10 := by rw [← hx60]; exact hh.got 1 _ 60 rfl rfl (hall 1 (by decide))
                obtain ⟨x61, hx61⟩ : ∃ x, A.eval (.tmp 61) = x := ⟨_, rfl⟩
                have f61 : (fun v _ => v = (Value.slice a1 AX c)) x61 u10 := by rw [← hx61]; exact hh.got 2 _ 61 rfl rfl (hall 2 (by decide))
                obtain ⟨x62, hx62⟩ : ∃ x, A.eval (.tmp 62) = x := ⟨_, rfl⟩
                have f62 : (fun v _ => v = (Value.int .u64 (g : Nat))) x62 u10 := by rw [← hx62]; exact hh.got 3 _ 62 rfl rfl (hall 3 (by decide))
                obtain ⟨x63, hx63⟩ : ∃ x, A.eval (.tmp 63) = x := ⟨_, rfl⟩
                have f63 : (fun v _ => v = (Value.agg J.toArray)) x63 u10 := by rw [← hx63]; exact hh.got 4 _ 63 rfl rfl (hall 4 (by decide))
                obtain ⟨x64, hx64⟩ : ∃ x, A.eval (.tmp 64) = x := ⟨_, rfl⟩
                have f64 : (fun v _ => v = (Value.int .i64 E)) x64 u10 := by rw [← hx64]; exact hh.got 5 _ 64 rfl rfl (hall 5 (by decide))
                obtain ⟨x65, hx65⟩ : ∃ x, A.eval (.tmp 65) = x := ⟨_, rfl⟩
                have f65 : (fun v _ => v = (Value.agg KN.toArray)) x65 u10 := by rw [← hx65]; exact hh.got 6 _ 65 rfl rfl (hall 6 (by decide))
                obtain ⟨x66, hx66⟩ : ∃ x, A.eval (.tmp 66) = x := ⟨_, rfl⟩
                have f66 : (fun v _ => v = (Value.slice (some ⟨b, off, none⟩) n c)) x66 u10 := by rw [← hx66]; exact hh.got 7 _ 66 rfl rfl (hall 7 (by decide))
                obtain ⟨x67, hx67⟩ : ∃ x, A.eval (.tmp 67) = x := ⟨_, rfl⟩
                have f67 : (fun v _ => v = (Value.int .i64 ((AX + 1) : Nat))) x67 u10 := by rw [← hx67]; exact hh.got 8 _ 67 rfl rfl (hall 8 (by decide))
                obtain ⟨x68, hx68⟩ : ∃ x, A.eval (.tmp 68) = x := ⟨_, rfl⟩
                have f68 : (fun v _ => v = (Value.slice a3 n3 c3)) x68 u10 := by rw [← hx68]; exact hh.got 9 _ 68 rfl rfl (hall 9 (by decide))
                obtain ⟨x69, hx69⟩ : ∃ x, A.eval (.tmp 69) = x := ⟨_, rfl⟩
                have f69 : (fun v u => ∃ z, v = z ∧ OutK wx.heap.size u z RL) x69 u10 := by rw [← hx69]; exact hh.got 10 _ 69 rfl rfl (hall 10 (by decide))
                obtain ⟨x8, hx8⟩ : ∃ x, A.eval (.tmp 8) = x := ⟨_, rfl⟩
                have f8 : (fun v u => ∃ z, v = z ∧ OutK wx.heap.size u z RL) x8 u10 := by rw [← hx8]; exact hh.got 11 _ 8 rfl rfl (hall 11 (by decide))
                dsimp only [wrote, List.foldl] at hA
                rw [hx59, hx60, hx61, hx62, hx63, hx64, hx65, hx66, hx67, hx68, hx69, hx8] at hA
                clear hh hall hx59 hx60 hx61 hx62 hx63 hx64 hx65 hx66 hx67 hx68 hx69 hx8
                replace f59 := (f59 : x59 = (.slice (some ⟨b, off, none⟩) n c))
                subst f59
                replace f60 := (f60 : x60 = (.int .i64 (AX : Nat)))
                subst f60
                replace f61 := (f61 : x61 = (.slice a1 AX c))
                subst f61
                replace f62 := (f62 : x62 = (.int .u64 (g : Nat)))
                subst f62
                replace f63 := (f63 : x63 = (.agg J.toArray))
                subst f63
                replace f64 := (f64 : x64 = (.int .i64 E))
                subst f64
                replace f65 := (f65 : x65 = (.agg KN.toArray))
                subst f65
                replace f66 := (f66 : x66 = (.slice (some ⟨b, off, none⟩) n c))
                subst f66
                replace f67 := (f67 : x67 = (.int .i64 ((AX + 1) : Nat)))
                subst f67
                replace f68 := (f68 : x68 = (.slice a3 n3 c3))
                subst f68
                obtain ⟨V9, e69, HV9⟩ := f69
                subst e69
                obtain ⟨V9, e8, HV9⟩ := f8
                subst e8
                subst hA
                show wpList _ _ _ [] _ _
                unfold wpList
                simp only [Act.put, List.setIfInBounds_toArray, List.set_cons_succ, List.set_cons_zero]
                have HUz := hid (gtrans HUx.out HU.out)
                have HOz := hid (OutK.below HV9 HUx.out.size)
                go_wp2_with fail
                go_ret
                exact ⟨_, rfl, HOz.out, HUz.out⟩
        | true =>
          as_aux_lemma =>
          obtain ⟨E, HE⟩ : ∃ E, Hid (ex = E) := ⟨_, hid rfl⟩
          have HRLE := hid (HRL.out rfl)
          rw [HEn.out rfl, HE.out] at HRLE
          have HTe : Hid (timeOf [] E = E) := hid rfl
          rw [HTe.out] at HRLE
          rw [HE.out] at HEx ⊢
          have HEr := HEx
          have HBH := HAn
          have HDr : Hid (l.drop AX = bhd (own l g) id ++ hi l g) := hid (by rw [HDk.out, HEn.out rfl]; rfl)
          clear hne hq1 hq2 hq3 hq4 HJQe hAt2 hAq HCe0 HE HTe
          obtain ⟨KN, HKN⟩ : ∃ x, Hid ((Ky.mk false g id E).cells = x) := ⟨_, hid rfl⟩
          have HBn := hid (HBb.out E)
          obtain ⟨a3, hs3, hr3⟩ := HTl.out AX HBH.out
          rw [HDr.out] at hr3
          obtain ⟨n3, HN3⟩ : ∃ x, Hid (n - AX = x) := ⟨_, hid rfl⟩
          obtain ⟨c3, HC3⟩ : ∃ x, Hid (c - AX = x) := ⟨_, hid rfl⟩
          rw [HN3.out, HC3.out] at hs3 hr3
          have HS3 := hid hs3
          have HW1 := hid (fun u hu => HWt.out u E a3 n3 c3 HEr.out hu hr3)
          rw [HKN.out] at HBn HW1
          obtain ⟨RL, HRLe⟩ : ∃ x, Hid ((lo l g ++ ahd (own l g) id) ++ (⟨false, g, id, E⟩ :: (bhd (own l g) id ++ hi l g)) = x) := ⟨_, hid rfl⟩
          have HWi : Hid (∀ u, w.grownBy u none → Calls Tryz.prog 39 #[.slice a1 AX c, .agg KN.toArray, .slice a3 n3 c3] u fun e w' => ∃ v', e = .returned v' ∧ OutK u.heap.size w' v' RL ∧ u.grownBy w' none) := hid (fun u hu => by have := HW1.out u hu; rw [HRLe.out] at this; exact this)
          rw [HRLE.out, HRLe.out]
          clear hs3 hr3 HW1 HKN HRLe HRLE HN3 HC3 HBb HWt HTl HRL HRW HDr HEr HBH HEn HEA HEx HDk HQ HOw HN HLen HR1 HR2 HC2 HAn
          go_enter Tryz.func24, Tryz.ntmps24
          go_upto_region 6 with (first
            | ((with_reducible refine wpList_box_row (by with_unfolding_all rfl) 69 _ (by with_unfolding_all rfl) J (by with_unfolding_all rfl) ?_); intro w1 B1 s1 g1; have HB1 := hid B1; have HG1 := hid g1; clear B1 g1 s1)
            | (go_at_call 17; (with_reducible refine (HCk.out _ HG1.out).mono ?_); rintro e w2 ⟨rfl, hg2⟩; have HG2 := hid (gtrans HG1.out hg2); have HB2 := hid (HB1.out.keep hg2); clear hg2)
            | (go_at_call 33; (with_reducible refine (HSp.out _ HG2.out).mono ?_); rintro e w3 ⟨rfl, hg3⟩; have HG3 := hid (gtrans HG2.out hg3); have HB3 := hid (HB2.out.keep hg3); clear hg3)
            | (with_reducible refine wpList_slice_lh (by with_unfolding_all rfl) 57 _ _ _ (by with_unfolding_all rfl) _ _ _ _ (by with_unfolding_all rfl) (by with_unfolding_all rfl) (by with_unfolding_all rfl) (HS2.out _) ?_)
            | (go_at_call 35; (with_reducible refine (HWh.out _ HG3.out).mono ?_); rintro e w9 ⟨rfl, hg9⟩; have HU9 := hid (gtrans HG3.out hg9); have HB9 := hid (HB3.out.keep hg9); clear hg9))
          obtain ⟨p6, hp6⟩ : ∃ x, w.heap.size = x := ⟨_, rfl⟩
          rw [hp6] at HB9
          simp only [hp6]
          have HP6 : Hid (w.heap.size = p6) := hid hp6
          clear hp6 HB1 HB2 HB3
          refine wp_region_listX (by kernel_rfl) [fun v _ => v = (Value.int .i64 (f : Nat)), fun v _ => v = (Value.slice (some ⟨b, off, none⟩) n c), fun v _ => v = (Value.int .i64 (f : Nat)), fun v _ => v = (Value.int .i64 (t : Nat)), fun v _ => v = (Value.slice a2 o C2), fun v _ => v = (Value.agg J.toArray), fun v _ => v = (Value.int .i64 (k : Nat)), fun v _ => v = (Value.int .i64 (AX : Nat)), fun v _ => v = (Value.int .i64 (AX : Nat))] (none) (fun _ => none) 9 (by kernel_rfl) (by kernel_rfl) (by kernel_rfl) (by kernel_rfl) (by decide) noRow_one (fun _ => .inl rfl) ⟨fun i v u u' hki h hg => h, fun i v u u' hki h hg => h, fun i v u u' hki h hg => h, fun i v u u' hki h hg => h, fun i v u u' hki h hg => h, fun i v u u' hki h hg => h, fun i v u u' hki h hg => h, fun i v u u' hki h hg => h, fun i v u u' hki h hg => h, trivial⟩ ⟨?_, ?_, ?_, ?_, ?_, ?_, ?_, ?_, ?_, trivial⟩ ?_
          · intro A u hu hpu hsz hout hdeps
            have e9 : A.eval (.tmp 9) = (.int .i64 (f : Nat)) := (hout 9 (by kernel_rfl)).trans rfl
            refine ifw_none rfl ?_
            with_reducible refine shown_q (Value.int .i64 (f : Nat)) ?qq_4a4_0 (fun _ _ => ?qr_4a4_0)
            case qr_4a4_0 => exact (rfl : (Value.int .i64 (f : Nat)) = (Value.int .i64 (f : Nat)))
            with_reducible refine quietAt_mv (.tmp 9) (Value.int .i64 (f : Nat)) ?h0_4a4_0 ?h1_4a4_0
            case h0_4a4_0 => rfl
            case h1_4a4_0 => exact e9
          · intro A u hu hpu hsz hout hdeps
            have e0 : A.eval (.tmp 0) = (.slice (some ⟨b, off, none⟩) n c) := (hout 0 (by kernel_rfl)).trans rfl
            refine ifw_none rfl ?_
            with_reducible refine shown_q (Value.slice (some ⟨b, off, none⟩) n c) ?qq_4a4_1 (fun _ _ => ?qr_4a4_1)
            case qr_4a4_1 => exact (rfl : (Value.slice (some ⟨b, off, none⟩) n c) = (Value.slice (some ⟨b, off, none⟩) n c))
            with_reducible refine quietAt_mv (.tmp 0) (Value.slice (some ⟨b, off, none⟩) n c) ?h0_4a4_1 ?h1_4a4_1
            case h0_4a4_1 => rfl
            case h1_4a4_1 => exact e0
          · intro A u hu hpu hsz hout hdeps
            have e9 : A.eval (.tmp 9) = (.int .i64 (f : Nat)) := (hout 9 (by kernel_rfl)).trans rfl
            refine ifw_none rfl ?_
            with_reducible refine shown_q (Value.int .i64 (f : Nat)) ?qq_4a4_2 (fun _ _ => ?qr_4a4_2)
            case qr_4a4_2 => exact (rfl : (Value.int .i64 (f : Nat)) = (Value.int .i64 (f : Nat)))
            with_reducible refine quietAt_mv (.tmp 9) (Value.int .i64 (f : Nat)) ?h0_4a4_2 ?h1_4a4_2
            case h0_4a4_2 => rfl
            case h1_4a4_2 => exact e9
          · intro A u hu hpu hsz hout hdeps
            have e10 : A.eval (.tmp 10) = (.int .i64 (t : Nat)) := (hout 10 (by kernel_rfl)).trans rfl
            refine ifw_none rfl ?_
            with_reducible refine shown_q (Value.int .i64 (t : Nat)) ?qq_4a4_3 (fun _ _ => ?qr_4a4_3)
            case qr_4a4_3 => exact (rfl : (Value.int .i64 (t : Nat)) = (Value.int .i64 (t : Nat)))
            with_reducible refine quietAt_mv (.tmp 10) (Value.int .i64 (t : Nat)) ?h0_4a4_3 ?h1_4a4_3
            case h0_4a4_3 => rfl
            case h1_4a4_3 => exact e10
          · intro A u hu hpu hsz hout hdeps
            have e30 : A.eval (.tmp 30) = (.slice (some ⟨b, off, none⟩) n c) := by have h := depL hdeps 1 (by kernel_rfl) 30 (by kernel_rfl); exact h
            have e31 : A.eval (.tmp 31) = (.int .i64 (f : Nat)) := by have h := depL hdeps 2 (by kernel_rfl) 31 (by kernel_rfl); exact h
            have e32 : A.eval (.tmp 32) = (.int .i64 (t : Nat)) := by have h := depL hdeps 3 (by kernel_rfl) 32 (by kernel_rfl); exact h
            refine ifw_none rfl ?_
            with_reducible refine shown_q (Value.slice a2 o C2) ?qq_4a4_4 (fun _ _ => ?qr_4a4_4)
            case qr_4a4_4 => exact (rfl : (Value.slice a2 o C2) = (Value.slice a2 o C2))
            with_reducible refine quietAt_slicelh 57 (.tmp 30) (.tmp 31) (.tmp 32) (Value.slice (some ⟨b, off, none⟩) n c) (Value.int .i64 (f : Nat)) (Value.int .i64 (t : Nat)) (Value.slice a2 o C2) ?h0_4a4_4 ?h1_4a4_4 ?h2_4a4_4 ?h3_4a4_4 ?h4_4a4_4
            case h0_4a4_4 => rfl
            case h1_4a4_4 => exact e30
            case h2_4a4_4 => exact e31
            case h3_4a4_4 => exact e32
            case h4_4a4_4 => exact (HS2.out u)
          · intro A u hu hpu hsz hout hdeps
            have e6 : A.eval (.tmp 6) = (.pointer (some ⟨p6, 0, none⟩)) := (hout 6 (by kernel_rfl)).trans rfl
            refine ifw_none rfl ?_
            with_reducible refine shown_q (Value.agg J.toArray) ?qq_4a4_5 (fun _ _ => ?qr_4a4_5)
            case qr_4a4_5 => exact (rfl : (Value.agg J.toArray) = (Value.agg J.toArray))
            with_reducible refine quietAt_load 69 (.tmp 6) ?h0_4a4_5 p6 0 J (.array 16 5) ?h1_4a4_5 ?h2_4a4_5 ?h3_4a4_5 ?h4_4a4_5 ?h5_4a4_5
            case h0_4a4_5 => rfl
            case h1_4a4_5 => exact e6
            case h2_4a4_5 => exact (HB9.out.keep hu).whole
            case h3_4a4_5 => exact Tryz.underlying69
            case h4_4a4_5 => rfl
            case h5_4a4_5 => exact HJL.out
          · intro A u hu hpu hsz hout hdeps
            have e33 : A.eval (.tmp 33) = (.slice a2 o C2) := by have h := depL hdeps 4 (by kernel_rfl) 33 (by kernel_rfl); exact h
            have e34 : A.eval (.tmp 34) = (.agg J.toArray) := by have h := depL hdeps 5 (by kernel_rfl) 34 (by kernel_rfl); exact h
            refine ifw_none rfl ?_
            with_reducible refine shown_q (Value.int .i64 (k : Nat)) ?qq_4a4_6 (fun _ _ => ?qr_4a4_6)
            case qr_4a4_6 => exact (rfl : (Value.int .i64 (k : Nat)) = (Value.int .i64 (k : Nat)))
            with_reducible refine quietAt_call 34 Tryz.f34 ?h0_4a4_6 ?h1_4a4_6 ?h2_4a4_6 #[.tmp 33, .tmp 34] #[57, 69] ?h3_4a4_6 (Value.int .i64 (k : Nat)) #[(Value.slice a2 o C2), (Value.agg J.toArray)] ?h4_4a4_6 ?h5_4a4_6
            case h0_4a4_6 => exact Tryz.func34
            case h1_4a4_6 => kernel_rfl
            case h2_4a4_6 => kernel_rfl
            case h3_4a4_6 => rfl
            case h4_4a4_6 => exact map2 _ _ _ _ _ e33 e34
            case h5_4a4_6 => exact HPl.out u (gtrans HU9.out hu)
          · intro A u hu hpu hsz hout hdeps
            have e29 : A.eval (.tmp 29) = (.int .i64 (f : Nat)) := by have h := depL hdeps 0 (by kernel_rfl) 29 (by kernel_rfl); exact h
            have e35 : A.eval (.tmp 35) = (.int .i64 (k : Nat)) := by have h := depL hdeps 6 (by kernel_rfl) 35 (by kernel_rfl); exact h
            refine ifw_none rfl ?_
            with_reducible refine shown_q (Value.int .i64 (AX : Nat)) ?qq_4a4_7 (fun _ _ => ?qr_4a4_7)
            case qr_4a4_7 => exact (rfl : (Value.int .i64 (AX : Nat)) = (Value.int .i64 (AX : Nat)))
            with_reducible refine quietAt_bin .add 3 (.tmp 29) (.tmp 35) 3 (Value.int .i64 (f : Nat)) (Value.int .i64 (k : Nat)) (Value.int .i64 (AX : Nat)) ?h0_4a4_7 ?h1_4a4_7 ?h2_4a4_7 ?h3_4a4_7
            case h0_4a4_7 => rfl
            case h1_4a4_7 => exact e29
            case h2_4a4_7 => exact e35
            case h3_4a4_7 => exact HAd.out _ _ u
          · intro A u hu hpu hsz hout hdeps
            have e36 : A.eval (.tmp 36) = (.int .i64 (AX : Nat)) := by have h := depL hdeps 7 (by kernel_rfl) 36 (by kernel_rfl); exact h
            refine ifw_none rfl ?_
            with_reducible refine shown_q (Value.int .i64 (AX : Nat)) ?qq_4a4_8 (fun _ _ => ?qr_4a4_8)
            case qr_4a4_8 => exact (rfl : (Value.int .i64 (AX : Nat)) = (Value.int .i64 (AX : Nat)))
            with_reducible refine quietAt_as (.tmp 36) (Value.int .i64 (AX : Nat)) ?h0_4a4_8 ?h1_4a4_8
            case h0_4a4_8 => rfl
            case h1_4a4_8 => exact e36
          · intro A u8 listed hh hall
            have hA := hh.frame
            have HU := hid hh.grown
            obtain ⟨x29, hx29⟩ : ∃ x, A.eval (.tmp 29) = x := ⟨_, rfl⟩
            have f29 : (fun v _ => v = (Value.int .i64 (f : Nat))) x29 u8 := by rw [← hx29]; exact hh.got 0 _ 29 rfl rfl (hall 0 (by decide))
            obtain ⟨x30, hx30⟩ : ∃ x, A.eval (.tmp 30) = x := ⟨_, rfl⟩
            have f30 : (fun v _ => v = (Value.slice (some ⟨b, off, none⟩) n c)) x30 u8 := by rw [← hx30]; exact hh.got 1 _ 30 rfl rfl (hall 1 (by decide))
            obtain ⟨x31, hx31⟩ : ∃ x, A.eval (.tmp 31) = x := ⟨_, rfl⟩
            have f31 : (fun v _ => v = (Value.int .i64 (f : Nat))) x31 u8 := by rw [← hx31]; exact hh.got 2 _ 31 rfl rfl (hall 2 (by decide))
            obtain ⟨x32, hx32⟩ : ∃ x, A.eval (.tmp 32) = x := ⟨_, rfl⟩
            have f32 : (fun v _ => v = (Value.int .i64 (t : Nat))) x32 u8 := by rw [← hx32]; exact hh.got 3 _ 32 rfl rfl (hall 3 (by decide))
            obtain ⟨x33, hx33⟩ : ∃ x, A.eval (.tmp 33) = x := ⟨_, rfl⟩
            have f33 : (fun v _ => v = (Value.slice a2 o C2)) x33 u8 := by rw [← hx33]; exact hh.got 4 _ 33 rfl rfl (hall 4 (by decide))
            obtain ⟨x34, hx34⟩ : ∃ x, A.eval (.tmp 34) = x := ⟨_, rfl⟩
            have f34 : (fun v _ => v = (Value.agg J.toArray)) x34 u8 := by rw [← hx34]; exact hh.got 5 _ 34 rfl rfl (hall 5 (by decide))
            obtain ⟨x35, hx35⟩ : ∃ x, A.eval (.tmp 35) = x := ⟨_, rfl⟩
            have f35 : (fun v _ => v = (Value.int .i64 (k : Nat))) x35 u8 := by rw [← hx35]; exact hh.got 6 _ 35 rfl rfl (hall 6 (by decide))
            obtain ⟨x36, hx36⟩ : ∃ x, A.eval (.tmp 36) = x := ⟨_, rfl⟩
            have f36 : (fun v _ => v = (Value.int .i64 (AX : Nat))) x36 u8 := by rw [← hx36]; exact hh.got 7 _ 36 rfl rfl (hall 7 (by decide))
            obtain ⟨x11, hx11⟩ : ∃ x, A.eval (.tmp 11) = x := ⟨_, rfl⟩
            have f11 : (fun v _ => v = (Value.int .i64 (AX : Nat))) x11 u8 := by rw [← hx11]; exact hh.got 8 _ 11 rfl rfl (hall 8 (by decide))
            dsimp only [wrote, List.foldl] at hA
            rw [hx29, hx30, hx31, hx32, hx33, hx34, hx35, hx36, hx11] at hA
            clear hh hall hx29 hx30 hx31 hx32 hx33 hx34 hx35 hx36 hx11
            replace f29 := (f29 : x29 = (.int .i64 (f : Nat)))
            subst f29
            replace f30 := (f30 : x30 = (.slice (some ⟨b, off, none⟩) n c))
            subst f30
            replace f31 := (f31 : x31 = (.int .i64 (f : Nat)))
            subst f31
            replace f32 := (f32 : x32 = (.int .i64 (t : Nat)))
            subst f32
            replace f33 := (f33 : x33 = (.slice a2 o C2))
            subst f33
            replace f34 := (f34 : x34 = (.agg J.toArray))
            subst f34
            replace f35 := (f35 : x35 = (.int .i64 (k : Nat)))
            subst f35
            replace f36 := (f36 : x36 = (.int .i64 (AX : Nat)))
            subst f36
            replace f11 := (f11 : x11 = (.int .i64 (AX : Nat)))
            subst f11
            subst hA
            show wpList _ _ _ [] _ _
            unfold wpList
            simp only [Act.put, List.setIfInBounds_toArray, List.set_cons_succ, List.set_cons_zero]
            have HU8 := hid (gtrans HU9.out HU.out)
            have HB8 := hid (HB9.out.keep HU.out)
            clear HU HU9 HB9
            go_upto_region 8 with fail
            refine wp_region_listX (by kernel_rfl) [fun v _ => v = (Value.int .i64 (AX : Nat)), fun v _ => v = (Value.int .i64 (t : Nat)), fun v _ => v = (Value.bool true), fun v _ => v = (Value.bool true), fun v _ => v = (Value.slice (some ⟨b, off, none⟩) n c), fun v _ => v = (Value.int .i64 (AX : Nat)), fun v _ => v = (Value.pointer (some ⟨b, off + AX * 19, none⟩)), fun v _ => v = (Value.pointer (some ⟨b, off + AX * 19 + 2, none⟩)), fun v _ => v = (Value.agg JQ.toArray), fun v _ => v = (Value.agg J.toArray), fun v _ => v = (Value.bool false), fun v _ => v = (Value.bool false)] (none) (fun _ => none) 12 (by kernel_rfl) (by kernel_rfl) (by kernel_rfl) (by kernel_rfl) (by decide) noRow_one (fun _ => .inl rfl) ⟨fun i v u u' hki h hg => h, fun i v u u' hki h hg => h, fun i v u u' hki h hg => h, fun i v u u' hki h hg => h, fun i v u u' hki h hg => h, fun i v u u' hki h hg => h, fun i v u u' hki h hg => h, fun i v u u' hki h hg => h, fun i v u u' hki h hg => h, fun i v u u' hki h hg => h, fun i v u u' hki h hg => h, fun i v u u' hki h hg => h, trivial⟩ ⟨?_, ?_, ?_, ?_, ?_, ?_, ?_, ?_, ?_, ?_, ?_, ?_, trivial⟩ ?_
            · intro A u hu hpu hsz hout hdeps
              have e11 : A.eval (.tmp 11) = (.int .i64 (AX : Nat)) := (hout 11 (by kernel_rfl)).trans rfl
              refine ifw_none rfl ?_
              with_reducible refine shown_q (Value.int .i64 (AX : Nat)) ?qq_5a5_0 (fun _ _ => ?qr_5a5_0)
              case qr_5a5_0 => exact (rfl : (Value.int .i64 (AX : Nat)) = (Value.int .i64 (AX : Nat)))
              with_reducible refine quietAt_mv (.tmp 11) (Value.int .i64 (AX : Nat)) ?h0_5a5_0 ?h1_5a5_0
              case h0_5a5_0 => rfl
              case h1_5a5_0 => exact e11
            · intro A u hu hpu hsz hout hdeps
              have e10 : A.eval (.tmp 10) = (.int .i64 (t : Nat)) := (hout 10 (by kernel_rfl)).trans rfl
              refine ifw_none rfl ?_
              with_reducible refine shown_q (Value.int .i64 (t : Nat)) ?qq_5a5_1 (fun _ _ => ?qr_5a5_1)
              case qr_5a5_1 => exact (rfl : (Value.int .i64 (t : Nat)) = (Value.int .i64 (t : Nat)))
              with_reducible refine quietAt_mv (.tmp 10) (Value.int .i64 (t : Nat)) ?h0_5a5_1 ?h1_5a5_1
              case h0_5a5_1 => rfl
              case h1_5a5_1 => exact e10
            · intro A u hu hpu hsz hout hdeps
              have e38 : A.eval (.tmp 38) = (.int .i64 (AX : Nat)) := by have h := depL hdeps 0 (by kernel_rfl) 38 (by kernel_rfl); exact h
              have e39 : A.eval (.tmp 39) = (.int .i64 (t : Nat)) := by have h := depL hdeps 1 (by kernel_rfl) 39 (by kernel_rfl); exact h
              refine ifw_none rfl ?_
              with_reducible refine shown_q (Value.bool true) ?qq_5a5_2 (fun _ _ => ?qr_5a5_2)
              case qr_5a5_2 => exact (rfl : (Value.bool true) = (Value.bool true))
              with_reducible refine quietAt_bin .lss 3 (.tmp 38) (.tmp 39) 3 (Value.int .i64 (AX : Nat)) (Value.int .i64 (t : Nat)) (Value.bool true) ?h0_5a5_2 ?h1_5a5_2 ?h2_5a5_2 ?h3_5a5_2
              case h0_5a5_2 => rfl
              case h1_5a5_2 => exact e38
              case h2_5a5_2 => exact e39
              case h3_5a5_2 => exact HLt.out _ _ u
            · intro A u hu hpu hsz hout hdeps
              have e40 : A.eval (.tmp 40) = (.bool true) := by have h := depL hdeps 2 (by kernel_rfl) 40 (by kernel_rfl); exact h
              refine ifw_none rfl ?_
              with_reducible refine shown_q (Value.bool true) ?qq_5a5_3 (fun _ _ => ?qr_5a5_3)
              case qr_5a5_3 => exact (rfl : (Value.bool true) = (Value.bool true))
              with_reducible refine quietAt_mv (.tmp 40) (Value.bool true) ?h0_5a5_3 ?h1_5a5_3
              case h0_5a5_3 => rfl
              case h1_5a5_3 => exact e40
            · intro A u hu hpu hsz hout hdeps
              have e41 : A.eval (.tmp 41) = (.bool true) := by have h := depL hdeps 3 (by kernel_rfl) 41 (by kernel_rfl); exact h
              have e0 : A.eval (.tmp 0) = (.slice (some ⟨b, off, none⟩) n c) := (hout 0 (by kernel_rfl)).trans rfl
              refine ifw_want 3 true 41 rfl rfl e41 ?_
              with_reducible refine shown_q (Value.slice (some ⟨b, off, none⟩) n c) ?qq_5a5_4 (fun _ _ => ?qr_5a5_4)
              case qr_5a5_4 => exact (rfl : (Value.slice (some ⟨b, off, none⟩) n c) = (Value.slice (some ⟨b, off, none⟩) n c))
              with_reducible refine quietAt_mv (.tmp 0) (Value.slice (some ⟨b, off, none⟩) n c) ?h0_5a5_4 ?h1_5a5_4
              case h0_5a5_4 => rfl
              case h1_5a5_4 => exact e0
            · intro A u hu hpu hsz hout hdeps
              have e41 : A.eval (.tmp 41) = (.bool true) := by have h := depL hdeps 3 (by kernel_rfl) 41 (by kernel_rfl); exact h
              have e11 : A.eval (.tmp 11) = (.int .i64 (AX : Nat)) := (hout 11 (by kernel_rfl)).trans rfl
              refine ifw_want 3 true 41 rfl rfl e41 ?_
              with_reducible refine shown_q (Value.int .i64 (AX : Nat)) ?qq_5a5_5 (fun _ _ => ?qr_5a5_5)
              case qr_5a5_5 => exact (rfl : (Value.int .i64 (AX : Nat)) = (Value.int .i64 (AX : Nat)))
              with_reducible refine quietAt_mv (.tmp 11) (Value.int .i64 (AX : Nat)) ?h0_5a5_5 ?h1_5a5_5
              case h0_5a5_5 => rfl
              case h1_5a5_5 => exact e11
            · intro A u hu hpu hsz hout hdeps
              have e41 : A.eval (.tmp 41) = (.bool true) := by have h := depL hdeps 3 (by kernel_rfl) 41 (by kernel_rfl); exact h
              have e42 : A.eval (.tmp 42) = (.slice (some ⟨b, off, none⟩) n c) := by have h := depL hdeps 4 (by kernel_rfl) 42 (by kernel_rfl); exact h
              have e43 : A.eval (.tmp 43) = (.int .i64 (AX : Nat)) := by have h := depL hdeps 5 (by kernel_rfl) 43 (by kernel_rfl); exact h
              refine ifw_want 3 true 41 rfl rfl e41 ?_
              with_reducible refine shown_q (Value.pointer (some ⟨b, off + AX * 19, none⟩)) ?qq_5a5_6 (fun _ _ => ?qr_5a5_6)
              case qr_5a5_6 => exact (rfl : (Value.pointer (some ⟨b, off + AX * 19, none⟩)) = (Value.pointer (some ⟨b, off + AX * 19, none⟩)))
              with_reducible refine quietAt_idx 57 (.tmp 42) (.tmp 43) (Value.slice (some ⟨b, off, none⟩) n c) (Value.int .i64 (AX : Nat)) (Value.pointer (some ⟨b, off + AX * 19, none⟩)) ?h0_5a5_6 ?h1_5a5_6 ?h2_5a5_6 ?h3_5a5_6
              case h0_5a5_6 => rfl
              case h1_5a5_6 => exact e42
              case h2_5a5_6 => exact e43
              case h3_5a5_6 => exact (idx23 b off n c AX HAq.out u)
            · intro A u hu hpu hsz hout hdeps
              have e41 : A.eval (.tmp 41) = (.bool true) := by have h := depL hdeps 3 (by kernel_rfl) 41 (by kernel_rfl); exact h
              have e44 : A.eval (.tmp 44) = (.pointer (some ⟨b, off + AX * 19, none⟩)) := by have h := depL hdeps 6 (by kernel_rfl) 44 (by kernel_rfl); exact h
              refine ifw_want 3 true 41 rfl rfl e41 ?_
              with_reducible refine shown_q (Value.pointer (some ⟨b, off + AX * 19 + 2, none⟩)) ?qq_5a5_7 (fun _ _ => ?qr_5a5_7)
              case qr_5a5_7 => exact (rfl : (Value.pointer (some ⟨b, off + AX * 19 + 2, none⟩)) = (Value.pointer (some ⟨b, off + AX * 19 + 2, none⟩)))
              with_reducible refine quietAt_field 85 (.tmp 44) 2 ?h0_5a5_7 ⟨b, off + AX * 19, none⟩ ⟨b, off + AX * 19 + 2, none⟩ ?h1_5a5_7 ?h2_5a5_7
              case h0_5a5_7 => rfl
              case h1_5a5_7 => exact e44
              case h2_5a5_7 => kernel_rfl
            · intro A u hu hpu hsz hout hdeps
              have e41 : A.eval (.tmp 41) = (.bool true) := by have h := depL hdeps 3 (by kernel_rfl) 41 (by kernel_rfl); exact h
              have e45 : A.eval (.tmp 45) = (.pointer (some ⟨b, off + AX * 19 + 2, none⟩)) := by have h := depL hdeps 7 (by kernel_rfl) 45 (by kernel_rfl); exact h
              refine ifw_want 3 true 41 rfl rfl e41 ?_
              with_reducible refine shown_q (Value.agg JQ.toArray) ?qq_5a5_8 (fun _ _ => ?qr_5a5_8)
              case qr_5a5_8 => exact (rfl : (Value.agg JQ.toArray) = (Value.agg JQ.toArray))
              with_reducible refine quietAt_load 69 (.tmp 45) ?h0_5a5_8 b (off + AX * 19 + 2) JQ (.array 16 5) ?h1_5a5_8 ?h2_5a5_8 ?h3_5a5_8 ?h4_5a5_8 ?h5_5a5_8
              case h0_5a5_8 => rfl
              case h1_5a5_8 => exact e45
              case h2_5a5_8 => exact (HJQ.out u (gtrans HU8.out hu))
              case h3_5a5_8 => exact Tryz.underlying69
              case h4_5a5_8 => rfl
              case h5_5a5_8 => exact HJQL.out
            · intro A u hu hpu hsz hout hdeps
              have e41 : A.eval (.tmp 41) = (.bool true) := by have h := depL hdeps 3 (by kernel_rfl) 41 (by kernel_rfl); exact h
              have e6 : A.eval (.tmp 6) = (.pointer (some ⟨p6, 0, none⟩)) := (hout 6 (by kernel_rfl)).trans rfl
              refine ifw_want 3 true 41 rfl rfl e41 ?_
              with_reducible refine shown_q (Value.agg J.toArray) ?qq_5a5_9 (fun _ _ => ?qr_5a5_9)
              case qr_5a5_9 => exact (rfl : (Value.agg J.toArray) = (Value.agg J.toArray))
              with_reducible refine quietAt_load 69 (.tmp 6) ?h0_5a5_9 p6 0 J (.array 16 5) ?h1_5a5_9 ?h2_5a5_9 ?h3_5a5_9 ?h4_5a5_9 ?h5_5a5_9
              case h0_5a5_9 => rfl
              case h1_5a5_9 => exact e6
              case h2_5a5_9 => exact (HB8.out.keep hu).whole
              case h3_5a5_9 => exact Tryz.underlying69
              case h4_5a5_9 => rfl
              case h5_5a5_9 => exact HJL.out
            · intro A u hu hpu hsz hout hdeps
              have e41 : A.eval (.tmp 41) = (.bool true) := by have h := depL hdeps 3 (by kernel_rfl) 41 (by kernel_rfl); exact h
              have e46 : A.eval (.tmp 46) = (.agg JQ.toArray) := by have h := depL hdeps 8 (by kernel_rfl) 46 (by kernel_rfl); exact h
              have e47 : A.eval (.tmp 47) = (.agg J.toArray) := by have h := depL hdeps 9 (by kernel_rfl) 47 (by kernel_rfl); exact h
              refine ifw_want 3 true 41 rfl rfl e41 ?_
              with_reducible refine shown_q (Value.bool false) ?qq_5a5_10 (fun _ _ => ?qr_5a5_10)
              case qr_5a5_10 => exact (rfl : (Value.bool false) = (Value.bool false))
              with_reducible refine quietAt_bin .eql 69 (.tmp 46) (.tmp 47) 69 (Value.agg JQ.toArray) (Value.agg J.toArray) (Value.bool false) ?h0_5a5_10 ?h1_5a5_10 ?h2_5a5_10 ?h3_5a5_10
              case h0_5a5_10 => rfl
              case h1_5a5_10 => exact e46
              case h2_5a5_10 => exact e47
              case h3_5a5_10 => exact HQe.out _ _ u
            · intro A u hu hpu hsz hout hdeps
              have e41 : A.eval (.tmp 41) = (.bool true) := by have h := depL hdeps 3 (by kernel_rfl) 41 (by kernel_rfl); exact h
              have e48 : A.eval (.tmp 48) = (.bool false) := by have h := depL hdeps 10 (by kernel_rfl) 48 (by kernel_rfl); exact h
              refine ifw_none rfl ?_
              with_reducible refine shown_q (Value.bool false) ?qq_5a5_11 (fun _ _ => ?qr_5a5_11)
              case qr_5a5_11 => exact (rfl : (Value.bool false) = (Value.bool false))
              with_reducible refine quietAt_pick (.tmp 41) (.tmp 48) (.const (.bool false)) true (Value.bool false) ?h0_5a5_11 ?h1_5a5_11 ?h2_5a5_11
              case h0_5a5_11 => rfl
              case h1_5a5_11 => exact e41
              case h2_5a5_11 => rw [if_pos rfl]; exact e48
            · intro A u9 listed hh hall
              have hA := hh.frame
              have HU := hid hh.grown
              obtain ⟨x38, hx38⟩ : ∃ x, A.eval (.tmp 38) = x := ⟨_, rfl⟩
              have f38 : (fun v _ => v = (Value.int .i64 (AX : Nat))) x38 u9 := by rw [← hx38]; exact hh.got 0 _ 38 rfl rfl (hall 0 (by decide))
              obtain ⟨x39, hx39⟩ : ∃ x, A.eval (.tmp 39) = x := ⟨_, rfl⟩
              have f39 : (fun v _ => v = (Value.int .i64 (t : Nat))) x39 u9 := by rw [← hx39]; exact hh.got 1 _ 39 rfl rfl (hall 1 (by decide))
              obtain ⟨x40, hx40⟩ : ∃ x, A.eval (.tmp 40) = x := ⟨_, rfl⟩
              have f40 : (fun v _ => v = (Value.bool true)) x40 u9 := by rw [← hx40]; exact hh.got 2 _ 40 rfl rfl (hall 2 (by decide))
              obtain ⟨x41, hx41⟩ : ∃ x, A.eval (.tmp 41) = x := ⟨_, rfl⟩
              have f41 : (fun v _ => v = (Value.bool true)) x41 u9 := by rw [← hx41]; exact hh.got 3 _ 41 rfl rfl (hall 3 (by decide))
              obtain ⟨x42, hx42⟩ : ∃ x, A.eval (.tmp 42) = x := ⟨_, rfl⟩
              have f42 : (fun v _ => v = (Value.slice (some ⟨b, off, none⟩) n c)) x42 u9 := by rw [← hx42]; exact hh.got 4 _ 42 rfl rfl (hall 4 (by decide))
              obtain ⟨x43, hx43⟩ : ∃ x, A.eval (.tmp 43) = x := ⟨_, rfl⟩
              have f43 : (fun v _ => v = (Value.int .i64 (AX : Nat))) x43 u9 := by rw [← hx43]; exact hh.got 5 _ 43 rfl rfl (hall 5 (by decide))
              obtain ⟨x44, hx44⟩ : ∃ x, A.eval (.tmp 44) = x := ⟨_, rfl⟩
              have f44 : (fun v _ => v = (Value.pointer (some ⟨b, off + AX * 19, none⟩))) x44 u9 := by rw [← hx44]; exact hh.got 6 _ 44 rfl rfl (hall 6 (by decide))
              obtain ⟨x45, hx45⟩ : ∃ x, A.eval (.tmp 45) = x := ⟨_, rfl⟩
              have f45 : (fun v _ => v = (Value.pointer (some ⟨b, off + AX * 19 + 2, none⟩))) x45 u9 := by rw [← hx45]; exact hh.got 7 _ 45 rfl rfl (hall 7 (by decide))
              obtain ⟨x46, hx46⟩ : ∃ x, A.eval (.tmp 46) = x := ⟨_, rfl⟩
              have f46 : (fun v _ => v = (Value.agg JQ.toArray)) x46 u9 := by rw [← hx46]; exact hh.got 8 _ 46 rfl rfl (hall 8 (by decide))
              obtain ⟨x47, hx47⟩ : ∃ x, A.eval (.tmp 47) = x := ⟨_, rfl⟩
              have f47 : (fun v _ => v = (Value.agg J.toArray)) x47 u9 := by rw [← hx47]; exact hh.got 9 _ 47 rfl rfl (hall 9 (by decide))
              obtain ⟨x48, hx48⟩ : ∃ x, A.eval (.tmp 48) = x := ⟨_, rfl⟩
              have f48 : (fun v _ => v = (Value.bool false)) x48 u9 := by rw [← hx48]; exact hh.got 10 _ 48 rfl rfl (hall 10 (by decide))
              obtain ⟨x49, hx49⟩ : ∃ x, A.eval (.tmp 49) = x := ⟨_, rfl⟩
              have f49 : (fun v _ => v = (Value.bool false)) x49 u9 := by rw [← hx49]; exact hh.got 11 _ 49 rfl rfl (hall 11 (by decide))
              dsimp only [wrote, List.foldl] at hA
              rw [hx38, hx39, hx40, hx41, hx42, hx43, hx44, hx45, hx46, hx47, hx48, hx49] at hA
              clear hh hall hx38 hx39 hx40 hx41 hx42 hx43 hx44 hx45 hx46 hx47 hx48 hx49
              replace f38 := (f38 : x38 = (.int .i64 (AX : Nat)))
              subst f38
              replace f39 := (f39 : x39 = (.int .i64 (t : Nat)))
              subst f39
              replace f40 := (f40 : x40 = (.bool true))
              subst f40
              replace f41 := (f41 : x41 = (.bool true))
              subst f41
              replace f42 := (f42 : x42 = (.slice (some ⟨b, off, none⟩) n c))
              subst f42
              replace f43 := (f43 : x43 = (.int .i64 (AX : Nat)))
              subst f43
              replace f44 := (f44 : x44 = (.pointer (some ⟨b, off + AX * 19, none⟩)))
              subst f44
              replace f45 := (f45 : x45 = (.pointer (some ⟨b, off + AX * 19 + 2, none⟩)))
              subst f45
              replace f46 := (f46 : x46 = (.agg JQ.toArray))
              subst f46
              replace f47 := (f47 : x47 = (.agg J.toArray))
              subst f47
              replace f48 := (f48 : x48 = (.bool false))
              subst f48
              replace f49 := (f49 : x49 = (.bool false))
              subst f49
              subst hA
              show wpList _ _ _ [] _ _
              unfold wpList
              simp only [Act.put, List.setIfInBounds_toArray, List.set_cons_succ, List.set_cons_zero]
              have HUx := hid (gtrans HU8.out HU.out)
              have HBx := hid (HB8.out.keep HU.out)
              clear HU HU8 HB8
              obtain ⟨wx, hwx⟩ : ∃ x, x = u9 := ⟨_, rfl⟩
              rw [← hwx] at HUx HBx ⊢
              clear hwx
              go_upto_region 11 with fail
              refine wp_region_listX (by kernel_rfl) [fun v _ => v = (Value.slice (some ⟨b, off, none⟩) n c), fun v _ => v = (Value.int .i64 (AX : Nat)), fun v _ => v = (Value.slice a1 AX c), fun v _ => v = (Value.int .u64 (g : Nat)), fun v _ => v = (Value.agg J.toArray), fun v _ => v = (Value.int .i64 E), fun v _ => v = (Value.agg KN.toArray), fun v _ => v = (Value.slice (some ⟨b, off, none⟩) n c), fun v _ => v = (Value.int .i64 (AX : Nat)), fun v _ => v = (Value.slice a3 n3 c3), fun v u => ∃ z, v = z ∧ OutK wx.heap.size u z RL, fun v u => ∃ z, v = z ∧ OutK wx.heap.size u z RL] (none) (fun _ => none) 12 (by kernel_rfl) (by kernel_rfl) (by kernel_rfl) (by kernel_rfl) (by decide) noRow_one (fun _ => .inl rfl) ⟨fun i v u u' hki h hg => h, fun i v u u' hki h hg => h, fun i v u u' hki h hg => h, fun i v u u' hki h hg => h, fun i v u u' hki h hg => h, fun i v u u' hki h hg => h, fun i v u u' hki h hg => h, fun i v u u' hki h hg => h, fun i v u u' hki h hg => h, fun i v u u' hki h hg => h, fun i v u u' hki h hg => (by obtain ⟨z, rfl, h1⟩ := h; exact ⟨_, rfl, h1.keep hg⟩), fun i v u u' hki h hg => (by obtain ⟨z, rfl, h1⟩ := h; exact ⟨_, rfl, h1.keep hg⟩), trivial⟩ ⟨?_, ?_, ?_, ?_, ?_, ?_, ?_, ?_, ?_, ?_, ?_, ?_, trivial⟩ ?_
              · intro A u hu hpu hsz hout hdeps
                have e0 : A.eval (.tmp 0) = (.slice (some ⟨b, off, none⟩) n c) := (hout 0 (by kernel_rfl)).trans rfl
                refine ifw_none rfl ?_
                with_reducible refine shown_q (Value.slice (some ⟨b, off, none⟩) n c) ?qq_6a6_0 (fun _ _ => ?qr_6a6_0)
                case qr_6a6_0 => exact (rfl : (Value.slice (some ⟨b, off, none⟩) n c) = (Value.slice (some ⟨b, off, none⟩) n c))
                with_reducible refine quietAt_mv (.tmp 0) (Value.slice (some ⟨b, off, none⟩) n c) ?h0_6a6_0 ?h1_6a6_0
                case h0_6a6_0 => rfl
                case h1_6a6_0 => exact e0
              · intro A u hu hpu hsz hout hdeps
                have e11 : A.eval (.tmp 11) = (.int .i64 (AX : Nat)) := (hout 11 (by kernel_rfl)).trans rfl
                refine ifw_none rfl ?_
                with_reducible refine shown_q (Value.int .i64 (AX : Nat)) ?qq_6a6_1 (fun _ _ => ?qr_6a6_1)
                case qr_6a6_1 => exact (rfl : (Value.int .i64 (AX : Nat)) = (Value.int .i64 (AX : Nat)))
                with_reducible refine quietAt_mv (.tmp 11) (Value.int .i64 (AX : Nat)) ?h0_6a6_1 ?h1_6a6_1
                case h0_6a6_1 => rfl
                case h1_6a6_1 => exact e11
              · intro A u hu hpu hsz hout hdeps
                have e59 : A.eval (.tmp 59) = (.slice (some ⟨b, off, none⟩) n c) := by have h := depL hdeps 0 (by kernel_rfl) 59 (by kernel_rfl); exact h
                have e60 : A.eval (.tmp 60) = (.int .i64 (AX : Nat)) := by have h := depL hdeps 1 (by kernel_rfl) 60 (by kernel_rfl); exact h
                refine ifw_none rfl ?_
                with_reducible refine shown_q (Value.slice a1 AX c) ?qq_6a6_2 (fun _ _ => ?qr_6a6_2)
                case qr_6a6_2 => exact (rfl : (Value.slice a1 AX c) = (Value.slice a1 AX c))
                with_reducible refine quietAt_sliceh 57 (.tmp 59) (.tmp 60) (Value.slice (some ⟨b, off, none⟩) n c) (Value.int .i64 (AX : Nat)) (Value.slice a1 AX c) ?h0_6a6_2 ?h1_6a6_2 ?h2_6a6_2 ?h3_6a6_2
                case h0_6a6_2 => rfl
                case h1_6a6_2 => exact e59
                case h2_6a6_2 => exact e60
                case h3_6a6_2 => exact (HS1.out u)
              · intro A u hu hpu hsz hout hdeps
                have e1 : A.eval (.tmp 1) = (.int .u64 (g : Nat)) := (hout 1 (by kernel_rfl)).trans rfl
                refine ifw_none rfl ?_
                with_reducible refine shown_q (Value.int .u64 (g : Nat)) ?qq_6a6_3 (fun _ _ => ?qr_6a6_3)
                case qr_6a6_3 => exact (rfl : (Value.int .u64 (g : Nat)) = (Value.int .u64 (g : Nat)))
                with_reducible refine quietAt_mv (.tmp 1) (Value.int .u64 (g : Nat)) ?h0_6a6_3 ?h1_6a6_3
                case h0_6a6_3 => rfl
                case h1_6a6_3 => exact e1
              · intro A u hu hpu hsz hout hdeps
                have e6 : A.eval (.tmp 6) = (.pointer (some ⟨p6, 0, none⟩)) := (hout 6 (by kernel_rfl)).trans rfl
                refine ifw_none rfl ?_
                with_reducible refine shown_q (Value.agg J.toArray) ?qq_6a6_4 (fun _ _ => ?qr_6a6_4)
                case qr_6a6_4 => exact (rfl : (Value.agg J.toArray) = (Value.agg J.toArray))
                with_reducible refine quietAt_load 69 (.tmp 6) ?h0_6a6_4 p6 0 J (.array 16 5) ?h1_6a6_4 ?h2_6a6_4 ?h3_6a6_4 ?h4_6a6_4 ?h5_6a6_4
                case h0_6a6_4 => rfl
                case h1_6a6_4 => exact e6
                case h2_6a6_4 => exact (HBx.out.keep hu).whole
                case h3_6a6_4 => exact Tryz.underlying69
                case h4_6a6_4 => rfl
                case h5_6a6_4 => exact HJL.out
              · intro A u hu hpu hsz hout hdeps
                have e3 : A.eval (.tmp 3) = (.int .i64 E) := (hout 3 (by kernel_rfl)).trans rfl
                refine ifw_none rfl ?_
                with_reducible refine shown_q (Value.int .i64 E) ?qq_6a6_5 (fun _ _ => ?qr_6a6_5)
                case qr_6a6_5 => exact (rfl : (Value.int .i64 E) = (Value.int .i64 E))
                with_reducible refine quietAt_mv (.tmp 3) (Value.int .i64 E) ?h0_6a6_5 ?h1_6a6_5
                case h0_6a6_5 => rfl
                case h1_6a6_5 => exact e3
              · intro A u hu hpu hsz hout hdeps
                have e62 : A.eval (.tmp 62) = (.int .u64 (g : Nat)) := by have h := depL hdeps 3 (by kernel_rfl) 62 (by kernel_rfl); exact h
                have e63 : A.eval (.tmp 63) = (.agg J.toArray) := by have h := depL hdeps 4 (by kernel_rfl) 63 (by kernel_rfl); exact h
                have e64 : A.eval (.tmp 64) = (.int .i64 E) := by have h := depL hdeps 5 (by kernel_rfl) 64 (by kernel_rfl); exact h
                refine ifw_none rfl ?_
                with_reducible refine shown_q (Value.agg KN.toArray) ?qq_6a6_6 (fun _ _ => ?qr_6a6_6)
                case qr_6a6_6 => exact (rfl : (Value.agg KN.toArray) = (Value.agg KN.toArray))
                with_reducible refine quietAt_build 85 #[(1, .tmp 62), (2, .tmp 63), (3, .tmp 64)] ?h0_6a6_6 [(1, (Value.int .u64 (g : Nat))), (2, (Value.agg J.toArray)), (3, (Value.int .i64 E))] ?h1_6a6_6 KN ?h2_6a6_6
                case h0_6a6_6 => rfl
                case h1_6a6_6 => simp only [List.map_toArray, List.map_cons, List.map_nil, e62, e63, e64]
                case h2_6a6_6 => exact HBn.out
              · intro A u hu hpu hsz hout hdeps
                have e0 : A.eval (.tmp 0) = (.slice (some ⟨b, off, none⟩) n c) := (hout 0 (by kernel_rfl)).trans rfl
                refine ifw_none rfl ?_
                with_reducible refine shown_q (Value.slice (some ⟨b, off, none⟩) n c) ?qq_6a6_7 (fun _ _ => ?qr_6a6_7)
                case qr_6a6_7 => exact (rfl : (Value.slice (some ⟨b, off, none⟩) n c) = (Value.slice (some ⟨b, off, none⟩) n c))
                with_reducible refine quietAt_mv (.tmp 0) (Value.slice (some ⟨b, off, none⟩) n c) ?h0_6a6_7 ?h1_6a6_7
                case h0_6a6_7 => rfl
                case h1_6a6_7 => exact e0
              · intro A u hu hpu hsz hout hdeps
                have e12 : A.eval (.tmp 12) = (.int .i64 (AX : Nat)) := (hout 12 (by kernel_rfl)).trans rfl
                refine ifw_none rfl ?_
                with_reducible refine shown_q (Value.int .i64 (AX : Nat)) ?qq_6a6_8 (fun _ _ => ?qr_6a6_8)
                case qr_6a6_8 => exact (rfl : (Value.int .i64 (AX : Nat)) = (Value.int .i64 (AX : Nat)))
                with_reducible refine quietAt_mv (.tmp 12) (Value.int .i64 (AX : Nat)) ?h0_6a6_8 ?h1_6a6_8
                case h0_6a6_8 => rfl
                case h1_6a6_8 => exact e12
              · intro A u hu hpu hsz hout hdeps
                have e66 : A.eval (.tmp 66) = (.slice (some ⟨b, off, none⟩) n c) := by have h := depL hdeps 7 (by kernel_rfl) 66 (by kernel_rfl); exact h
                have e67 : A.eval (.tmp 67) = (.int .i64 (AX : Nat)) := by have h := depL hdeps 8 (by kernel_rfl) 67 (by kernel_rfl); exact h
                refine ifw_none rfl ?_
                with_reducible refine shown_q (Value.slice a3 n3 c3) ?qq_6a6_9 (fun _ _ => ?qr_6a6_9)
                case qr_6a6_9 => exact (rfl : (Value.slice a3 n3 c3) = (Value.slice a3 n3 c3))
                with_reducible refine quietAt_slicel 57 (.tmp 66) (.tmp 67) (Value.slice (some ⟨b, off, none⟩) n c) (Value.int .i64 (AX : Nat)) (Value.slice a3 n3 c3) ?h0_6a6_9 ?h1_6a6_9 ?h2_6a6_9 ?h3_6a6_9
                case h0_6a6_9 => rfl
                case h1_6a6_9 => exact e66
                case h2_6a6_9 => exact e67
                case h3_6a6_9 => exact (HS3.out u)
              · intro A u hu hpu hsz hout hdeps
                have e61 : A.eval (.tmp 61) = (.slice a1 AX c) := by have h := depL hdeps 2 (by kernel_rfl) 61 (by kernel_rfl); exact h
                have e65 : A.eval (.tmp 65) = (.agg KN.toArray) := by have h := depL hdeps 6 (by kernel_rfl) 65 (by kernel_rfl); exact h
                have e68 : A.eval (.tmp 68) = (.slice a3 n3 c3) := by have h := depL hdeps 9 (by kernel_rfl) 68 (by kernel_rfl); exact h
                refine ifw_none rfl ?_
                with_reducible refine shown_call 39 Tryz.f39 ?h0_6a6_10 ?h1_6a6_10 ?h2_6a6_10 #[.tmp 61, .tmp 65, .tmp 68] #[57, 85, 57] ?h3_6a6_10 #[(Value.slice a1 AX c), (Value.agg KN.toArray), (Value.slice a3 n3 c3)] ?h4_6a6_10 ?h5_6a6_10
                case h0_6a6_10 => exact Tryz.func39
                case h1_6a6_10 => kernel_rfl
                case h2_6a6_10 => kernel_rfl
                case h3_6a6_10 => rfl
                case h4_6a6_10 => exact map3 _ _ _ _ _ _ _ e61 e65 e68
                case h5_6a6_10 => exact (HWi.out u (gtrans HUx.out hu)).mono fun e w' ⟨v', he, ho, hg⟩ => ⟨v', he, hg, v', rfl, ho.below hu.size⟩
              · intro A u hu hpu hsz hout hdeps
                have f69 : (fun v u => ∃ z, v = z ∧ OutK wx.heap.size u z RL) (A.eval (.tmp 69)) u := by have h := depL hdeps 10 (by kernel_rfl) 69 (by kernel_rfl); exact h
                obtain ⟨V9, e69, HV9⟩ := f69
                refine ifw_none rfl ?_
                exact shown_q _ (quietAt_as (.tmp 69) _ rfl e69) (fun u' hg => ⟨_, rfl, HV9.keep hg⟩)
              · intro A u10 listed hh hall
                have hA := hh.frame
                have HU := hid hh.grown
                obtain ⟨x59, hx59⟩ : ∃ x, A.eval (.tmp 59) = x := ⟨_, rfl⟩
                have f59 : (fun v _ => v = (Value.slice (some ⟨b, off, none⟩) n c)) x59 u10 := by rw [← hx59]; exact hh.got 0 _ 59 rfl rfl (hall 0 (by decide))
                obtain ⟨x60, hx60⟩ : ∃ x, A.eval (.tmp 60) = x := ⟨_, rfl⟩
                have f60 : (fun v _ => v = (Value.int .i64 (AX : Nat))) x60 u10 := by rw [← hx60]; exact hh.got 1 _ 60 rfl rfl (hall 1 (by decide))
                obtain ⟨x61, hx61⟩ : ∃ x, A.eval (.tmp 61) = x := ⟨_, rfl⟩
                have f61 : (fun v _ => v = (Value.slice a1 AX c)) x61 u10 := by rw [← hx61]; exact hh.got 2 _ 61 rfl rfl (hall 2 (by decide))
                obtain ⟨x62, hx62⟩ : ∃ x, A.eval (.tmp 62) = x := ⟨_, rfl⟩
                have f62 : (fun v _ => v = (Value.int .u64 (g : Nat))) x62 u10 := by rw [← hx62]; exact hh.got 3 _ 62 rfl rfl (hall 3 (by decide))
                obtain ⟨x63, hx63⟩ : ∃ x, A.eval (.tmp 63) = x := ⟨_, rfl⟩
                have f63 : (fun v _ => v = (Value.agg J.toArray)) x63 u10 := by rw [← hx63]; exact hh.got 4 _ 63 rfl rfl (hall 4 (by decide))
                obtain ⟨x64, hx64⟩ : ∃ x, A.eval (.tmp 64) = x := ⟨_, rfl⟩
                have f64 : (fun v _ => v = (Value.int .i64 E)) x64 u10 := by rw [← hx64]; exact hh.got 5 _ 64 rfl rfl (hall 5 (by decide))
                obtain ⟨x65, hx65⟩ : ∃ x, A.eval (.tmp 65) = x := ⟨_, rfl⟩
                have f65 : (fun v _ => v = (Value.agg KN.toArray)) x65 u10 := by rw [← hx65]; exact hh.got 6 _ 65 rfl rfl (hall 6 (by decide))
                obtain ⟨x66, hx66⟩ : ∃ x, A.eval (.tmp 66) = x := ⟨_, rfl⟩
                have f66 : (fun v _ => v = (Value.slice (some ⟨b, off, none⟩) n c)) x66 u10 := by rw [← hx66]; exact hh.got 7 _ 66 rfl rfl (hall 7 (by decide))
                obtain ⟨x67, hx67⟩ : ∃ x, A.eval (.tmp 67) = x := ⟨_, rfl⟩
                have f67 : (fun v _ => v = (Value.int .i64 (AX : Nat))) x67 u10 := by rw [← hx67]; exact hh.got 8 _ 67 rfl rfl (hall 8 (by decide))
                obtain ⟨x68, hx68⟩ : ∃ x, A.eval (.tmp 68) = x := ⟨_, rfl⟩
                have f68 : (fun v _ => v = (Value.slice a3 n3 c3)) x68 u10 := by rw [← hx68]; exact hh.got 9 _ 68 rfl rfl (hall 9 (by decide))
                obtain ⟨x69, hx69⟩ : ∃ x, A.eval (.tmp 69) = x := ⟨_, rfl⟩
                have f69 : (fun v u => ∃ z, v = z ∧ OutK wx.heap.size u z RL) x69 u10 := by rw [← hx69]; exact hh.got 10 _ 69 rfl rfl (hall 10 (by decide))
                obtain ⟨x8, hx8⟩ : ∃ x, A.eval (.tmp 8) = x := ⟨_, rfl⟩
                have f8 : (fun v u => ∃ z, v = z ∧ OutK wx.heap.size u z RL) x8 u10 := by rw [← hx8]; exact hh.got 11 _ 8 rfl rfl (hall 11 (by decide))
                dsimp only [wrote, List.foldl] at hA
                rw [hx59, hx60, hx61, hx62, hx63, hx64, hx65, hx66, hx67, hx68, hx69, hx8] at hA
                clear hh hall hx59 hx60 hx61 hx62 hx63 hx64 hx65 hx66 hx67 hx68 hx69 hx8
                replace f59 := (f59 : x59 = (.slice (some ⟨b, off, none⟩) n c))
                subst f59
                replace f60 := (f60 : x60 = (.int .i64 (AX : Nat)))
                subst f60
                replace f61 := (f61 : x61 = (.slice a1 AX c))
                subst f61
                replace f62 := (f62 : x62 = (.int .u64 (g : Nat)))
                subst f62
                replace f63 := (f63 : x63 = (.agg J.toArray))
                subst f63
                replace f64 := (f64 : x64 = (.int .i64 E))
                subst f64
                replace f65 := (f65 : x65 = (.agg KN.toArray))
                subst f65
                replace f66 := (f66 : x66 = (.slice (some ⟨b, off, none⟩) n c))
                subst f66
                replace f67 := (f67 : x67 = (.int .i64 (AX : Nat)))
                subst f67
                replace f68 := (f68 : x68 = (.slice a3 n3 c3))
                subst f68
                obtain ⟨V9, e69, HV9⟩ := f69
                subst e69
                obtain ⟨V9, e8, HV9⟩ := f8
                subst e8
                subst hA
                show wpList _ _ _ [] _ _
                unfold wpList
                simp only [Act.put, List.setIfInBounds_toArray, List.set_cons_succ, List.set_cons_zero]
                have HUz := hid (gtrans HUx.out HU.out)
                have HOz := hid (OutK.below HV9 HUx.out.size)
                go_wp2_with fail
                go_ret
                exact ⟨_, rfl, HOz.out, HUz.out⟩
      · as_aux_lemma =>
        have hE : EB = true := by
          cases EB with
          | true => rfl
          | false => exact absurd (HEA.out rfl) hAt2
        subst hE
        have HLt : Hid (∀ (x y : Operand) (u : World), (do eqGuard .lss 3 x y (.int .i64 (AX : Nat)) (.int .i64 (t : Nat)); binOp .lss 3 (.int .i64 (AX : Nat)) (.int .i64 (t : Nat)) : Sem Value).run Tryz.prog u = .ok (.bool false) u) := hid (fun x y u => by
          have h : ¬ (AX : Int) < (t : Int) := by omega
          go_simp)
        obtain ⟨E, HE⟩ : ∃ E, Hid (ex = E) := ⟨_, hid rfl⟩
        have HRLE := hid (HRL.out rfl)
        rw [HEn.out rfl, HE.out] at HRLE
        have HTe : Hid (timeOf [] E = E) := hid rfl
        rw [HTe.out] at HRLE
        rw [HE.out] at HEx ⊢
        have HEr := HEx
        have HBH := HAn
        have HDr : Hid (l.drop AX = bhd (own l g) id ++ hi l g) := hid (by rw [HDk.out, HEn.out rfl]; rfl)
        clear hAt2 HE HTe
        obtain ⟨KN, HKN⟩ : ∃ x, Hid ((Ky.mk false g id E).cells = x) := ⟨_, hid rfl⟩
        have HBn := hid (HBb.out E)
        obtain ⟨a3, hs3, hr3⟩ := HTl.out AX HBH.out
        rw [HDr.out] at hr3
        obtain ⟨n3, HN3⟩ : ∃ x, Hid (n - AX = x) := ⟨_, hid rfl⟩
        obtain ⟨c3, HC3⟩ : ∃ x, Hid (c - AX = x) := ⟨_, hid rfl⟩
        rw [HN3.out, HC3.out] at hs3 hr3
        have HS3 := hid hs3
        have HW1 := hid (fun u hu => HWt.out u E a3 n3 c3 HEr.out hu hr3)
        rw [HKN.out] at HBn HW1
        obtain ⟨RL, HRLe⟩ : ∃ x, Hid ((lo l g ++ ahd (own l g) id) ++ (⟨false, g, id, E⟩ :: (bhd (own l g) id ++ hi l g)) = x) := ⟨_, hid rfl⟩
        have HWi : Hid (∀ u, w.grownBy u none → Calls Tryz.prog 39 #[.slice a1 AX c, .agg KN.toArray, .slice a3 n3 c3] u fun e w' => ∃ v', e = .returned v' ∧ OutK u.heap.size w' v' RL ∧ u.grownBy w' none) := hid (fun u hu => by have := HW1.out u hu; rw [HRLe.out] at this; exact this)
        rw [HRLE.out, HRLe.out]
        clear hs3 hr3 HW1 HKN HRLe HRLE HN3 HC3 HBb HWt HTl HRL HRW HDr HEr HBH HEn HEA HEx HDk HQ HOw HN HLen HR1 HR2 HC2 HAn
        go_enter Tryz.func24, Tryz.ntmps24
        go_upto_region 6 with (first
          | ((with_reducible refine wpList_box_row (by with_unfolding_all rfl) 69 _ (by with_unfolding_all rfl) J (by with_unfolding_all rfl) ?_); intro w1 B1 s1 g1; have HB1 := hid B1; have HG1 := hid g1; clear B1 g1 s1)
          | (go_at_call 17; (with_reducible refine (HCk.out _ HG1.out).mono ?_); rintro e w2 ⟨rfl, hg2⟩; have HG2 := hid (gtrans HG1.out hg2); have HB2 := hid (HB1.out.keep hg2); clear hg2)
          | (go_at_call 33; (with_reducible refine (HSp.out _ HG2.out).mono ?_); rintro e w3 ⟨rfl, hg3⟩; have HG3 := hid (gtrans HG2.out hg3); have HB3 := hid (HB2.out.keep hg3); clear hg3)
          | (with_reducible refine wpList_slice_lh (by with_unfolding_all rfl) 57 _ _ _ (by with_unfolding_all rfl) _ _ _ _ (by with_unfolding_all rfl) (by with_unfolding_all rfl) (by with_unfolding_all rfl) (HS2.out _) ?_)
          | (go_at_call 35; (with_reducible refine (HWh.out _ HG3.out).mono ?_); rintro e w9 ⟨rfl, hg9⟩; have HU9 := hid (gtrans HG3.out hg9); have HB9 := hid (HB3.out.keep hg9); clear hg9))
        obtain ⟨p6, hp6⟩ : ∃ x, w.heap.size = x := ⟨_, rfl⟩
        rw [hp6] at HB9
        simp only [hp6]
        have HP6 : Hid (w.heap.size = p6) := hid hp6
        clear hp6 HB1 HB2 HB3
        refine wp_region_listX (by kernel_rfl) [fun v _ => v = (Value.int .i64 (f : Nat)), fun v _ => v = (Value.slice a n c), fun v _ => v = (Value.int .i64 (f : Nat)), fun v _ => v = (Value.int .i64 (t : Nat)), fun v _ => v = (Value.slice a2 o C2), fun v _ => v = (Value.agg J.toArray), fun v _ => v = (Value.int .i64 (k : Nat)), fun v _ => v = (Value.int .i64 (AX : Nat)), fun v _ => v = (Value.int .i64 (AX : Nat))] (none) (fun _ => none) 9 (by kernel_rfl) (by kernel_rfl) (by kernel_rfl) (by kernel_rfl) (by decide) noRow_one (fun _ => .inl rfl) ⟨fun i v u u' hki h hg => h, fun i v u u' hki h hg => h, fun i v u u' hki h hg => h, fun i v u u' hki h hg => h, fun i v u u' hki h hg => h, fun i v u u' hki h hg => h, fun i v u u' hki h hg => h, fun i v u u' hki h hg => h, fun i v u u' hki h hg => h, trivial⟩ ⟨?_, ?_, ?_, ?_, ?_, ?_, ?_, ?_, ?_, trivial⟩ ?_
        · intro A u hu hpu hsz hout hdeps
          have e9 : A.eval (.tmp 9) = (.int .i64 (f : Nat)) := (hout 9 (by kernel_rfl)).trans rfl
          refine ifw_none rfl ?_
          with_reducible refine shown_q (Value.int .i64 (f : Nat)) ?qq_7a7_0 (fun _ _ => ?qr_7a7_0)
          case qr_7a7_0 => exact (rfl : (Value.int .i64 (f : Nat)) = (Value.int .i64 (f : Nat)))
          with_reducible refine quietAt_mv (.tmp 9) (Value.int .i64 (f : Nat)) ?h0_7a7_0 ?h1_7a7_0
          case h0_7a7_0 => rfl
          case h1_7a7_0 => exact e9
        · intro A u hu hpu hsz hout hdeps
          have e0 : A.eval (.tmp 0) = (.slice a n c) := (hout 0 (by kernel_rfl)).trans rfl
          refine ifw_none rfl ?_
          with_reducible refine shown_q (Value.slice a n c) ?qq_7a7_1 (fun _ _ => ?qr_7a7_1)
          case qr_7a7_1 => exact (rfl : (Value.slice a n c) = (Value.slice a n c))
          with_reducible refine quietAt_mv (.tmp 0) (Value.slice a n c) ?h0_7a7_1 ?h1_7a7_1
          case h0_7a7_1 => rfl
          case h1_7a7_1 => exact e0
        · intro A u hu hpu hsz hout hdeps
          have e9 : A.eval (.tmp 9) = (.int .i64 (f : Nat)) := (hout 9 (by kernel_rfl)).trans rfl
          refine ifw_none rfl ?_
          with_reducible refine shown_q (Value.int .i64 (f : Nat)) ?qq_7a7_2 (fun _ _ => ?qr_7a7_2)
          case qr_7a7_2 => exact (rfl : (Value.int .i64 (f : Nat)) = (Value.int .i64 (f : Nat)))
          with_reducible refine quietAt_mv (.tmp 9) (Value.int .i64 (f : Nat)) ?h0_7a7_2 ?h1_7a7_2
          case h0_7a7_2 => rfl
          case h1_7a7_2 => exact e9
        · intro A u hu hpu hsz hout hdeps
          have e10 : A.eval (.tmp 10) = (.int .i64 (t : Nat)) := (hout 10 (by kernel_rfl)).trans rfl
          refine ifw_none rfl ?_
          with_reducible refine shown_q (Value.int .i64 (t : Nat)) ?qq_7a7_3 (fun _ _ => ?qr_7a7_3)
          case qr_7a7_3 => exact (rfl : (Value.int .i64 (t : Nat)) = (Value.int .i64 (t : Nat)))
          with_reducible refine quietAt_mv (.tmp 10) (Value.int .i64 (t : Nat)) ?h0_7a7_3 ?h1_7a7_3
          case h0_7a7_3 => rfl
          case h1_7a7_3 => exact e10
        · intro A u hu hpu hsz hout hdeps
          have e30 : A.eval (.tmp 30) = (.slice a n c) := by have h := depL hdeps 1 (by kernel_rfl) 30 (by kernel_rfl); exact h
          have e31 : A.eval (.tmp 31) = (.int .i64 (f : Nat)) := by have h := depL hdeps 2 (by kernel_rfl) 31 (by kernel_rfl); exact h
          have e32 : A.eval (.tmp 32) = (.int .i64 (t : Nat)) := by have h := depL hdeps 3 (by kernel_rfl) 32 (by kernel_rfl); exact h
          refine ifw_none rfl ?_
          with_reducible refine shown_q (Value.slice a2 o C2) ?qq_7a7_4 (fun _ _ => ?qr_7a7_4)
          case qr_7a7_4 => exact (rfl : (Value.slice a2 o C2) = (Value.slice a2 o C2))
          with_reducible refine quietAt_slicelh 57 (.tmp 30) (.tmp 31) (.tmp 32) (Value.slice a n c) (Value.int .i64 (f : Nat)) (Value.int .i64 (t : Nat)) (Value.slice a2 o C2) ?h0_7a7_4 ?h1_7a7_4 ?h2_7a7_4 ?h3_7a7_4 ?h4_7a7_4
          case h0_7a7_4 => rfl
          case h1_7a7_4 => exact e30
          case h2_7a7_4 => exact e31
          case h3_7a7_4 => exact e32
          case h4_7a7_4 => exact (HS2.out u)
        · intro A u hu hpu hsz hout hdeps
          have e6 : A.eval (.tmp 6) = (.pointer (some ⟨p6, 0, none⟩)) := (hout 6 (by kernel_rfl)).trans rfl
          refine ifw_none rfl ?_
          with_reducible refine shown_q (Value.agg J.toArray) ?qq_7a7_5 (fun _ _ => ?qr_7a7_5)
          case qr_7a7_5 => exact (rfl : (Value.agg J.toArray) = (Value.agg J.toArray))
          with_reducible refine quietAt_load 69 (.tmp 6) ?h0_7a7_5 p6 0 J (.array 16 5) ?h1_7a7_5 ?h2_7a7_5 ?h3_7a7_5 ?h4_7a7_5 ?h5_7a7_5
          case h0_7a7_5 => rfl
          case h1_7a7_5 => exact e6
          case h2_7a7_5 => exact (HB9.out.keep hu).whole
          case h3_7a7_5 => exact Tryz.underlying69
          case h4_7a7_5 => rfl
          case h5_7a7_5 => exact HJL.out
        · intro A u hu hpu hsz hout hdeps
          have e33 : A.eval (.tmp 33) = (.slice a2 o C2) := by have h := depL hdeps 4 (by kernel_rfl) 33 (by kernel_rfl); exact h
          have e34 : A.eval (.tmp 34) = (.agg J.toArray) := by have h := depL hdeps 5 (by kernel_rfl) 34 (by kernel_rfl); exact h
          refine ifw_none rfl ?_
          with_reducible refine shown_q (Value.int .i64 (k : Nat)) ?qq_7a7_6 (fun _ _ => ?qr_7a7_6)
          case qr_7a7_6 => exact (rfl : (Value.int .i64 (k : Nat)) = (Value.int .i64 (k : Nat)))
          with_reducible refine quietAt_call 34 Tryz.f34 ?h0_7a7_6 ?h1_7a7_6 ?h2_7a7_6 #[.tmp 33, .tmp 34] #[57, 69] ?h3_7a7_6 (Value.int .i64 (k : Nat)) #[(Value.slice a2 o C2), (Value.agg J.toArray)] ?h4_7a7_6 ?h5_7a7_6
          case h0_7a7_6 => exact Tryz.func34
          case h1_7a7_6 => kernel_rfl
          case h2_7a7_6 => kernel_rfl
          case h3_7a7_6 => rfl
          case h4_7a7_6 => exact map2 _ _ _ _ _ e33 e34
          case h5_7a7_6 => exact HPl.out u (gtrans HU9.out hu)
        · intro A u hu hpu hsz hout hdeps
          have e29 : A.eval (.tmp 29) = (.int .i64 (f : Nat)) := by have h := depL hdeps 0 (by kernel_rfl) 29 (by kernel_rfl); exact h
          have e35 : A.eval (.tmp 35) = (.int .i64 (k : Nat)) := by have h := depL hdeps 6 (by kernel_rfl) 35 (by kernel_rfl); exact h
          refine ifw_none rfl ?_
          with_reducible refine shown_q (Value.int .i64 (AX : Nat)) ?qq_7a7_7 (fun _ _ => ?qr_7a7_7)
          case qr_7a7_7 => exact (rfl : (Value.int .i64 (AX : Nat)) = (Value.int .i64 (AX : Nat)))
          with_reducible refine quietAt_bin .add 3 (.tmp 29) (.tmp 35) 3 (Value.int .i64 (f : Nat)) (Value.int .i64 (k : Nat)) (Value.int .i64 (AX : Nat)) ?h0_7a7_7 ?h1_7a7_7 ?h2_7a7_7 ?h3_7a7_7
          case h0_7a7_7 => rfl
          case h1_7a7_7 => exact e29
          case h2_7a7_7 => exact e35
          case h3_7a7_7 => exact HAd.out _ _ u
        · intro A u hu hpu hsz hout hdeps
          have e36 : A.eval (.tmp 36) = (.int .i64 (AX : Nat)) := by have h := depL hdeps 7 (by kernel_rfl) 36 (by kernel_rfl); exact h
          refine ifw_none rfl ?_
          with_reducible refine shown_q (Value.int .i64 (AX : Nat)) ?qq_7a7_8 (fun _ _ => ?qr_7a7_8)
          case qr_7a7_8 => exact (rfl : (Value.int .i64 (AX : Nat)) = (Value.int .i64 (AX : Nat)))
          with_reducible refine quietAt_as (.tmp 36) (Value.int .i64 (AX : Nat)) ?h0_7a7_8 ?h1_7a7_8
          case h0_7a7_8 => rfl
          case h1_7a7_8 => exact e36
        · intro A u8 listed hh hall
          have hA := hh.frame
          have HU := hid hh.grown
          obtain ⟨x29, hx29⟩ : ∃ x, A.eval (.tmp 29) = x := ⟨_, rfl⟩
          have f29 : (fun v _ => v = (Value.int .i64 (f : Nat))) x29 u8 := by rw [← hx29]; exact hh.got 0 _ 29 rfl rfl (hall 0 (by decide))
          obtain ⟨x30, hx30⟩ : ∃ x, A.eval (.tmp 30) = x := ⟨_, rfl⟩
          have f30 : (fun v _ => v = (Value.slice a n c)) x30 u8 := by rw [← hx30]; exact hh.got 1 _ 30 rfl rfl (hall 1 (by decide))
          obtain ⟨x31, hx31⟩ : ∃ x, A.eval (.tmp 31) = x := ⟨_, rfl⟩
          have f31 : (fun v _ => v = (Value.int .i64 (f : Nat))) x31 u8 := by rw [← hx31]; exact hh.got 2 _ 31 rfl rfl (hall 2 (by decide))
          obtain ⟨x32, hx32⟩ : ∃ x, A.eval (.tmp 32) = x := ⟨_, rfl⟩
          have f32 : (fun v _ => v = (Value.int .i64 (t : Nat))) x32 u8 := by rw [← hx32]; exact hh.got 3 _ 32 rfl rfl (hall 3 (by decide))
          obtain ⟨x33, hx33⟩ : ∃ x, A.eval (.tmp 33) = x := ⟨_, rfl⟩
          have f33 : (fun v _ => v = (Value.slice a2 o C2)) x33 u8 := by rw [← hx33]; exact hh.got 4 _ 33 rfl rfl (hall 4 (by decide))
          obtain ⟨x34, hx34⟩ : ∃ x, A.eval (.tmp 34) = x := ⟨_, rfl⟩
          have f34 : (fun v _ => v = (Value.agg J.toArray)) x34 u8 := by rw [← hx34]; exact hh.got 5 _ 34 rfl rfl (hall 5 (by decide))
          obtain ⟨x35, hx35⟩ : ∃ x, A.eval (.tmp 35) = x := ⟨_, rfl⟩
          have f35 : (fun v _ => v = (Value.int .i64 (k : Nat))) x35 u8 := by rw [← hx35]; exact hh.got 6 _ 35 rfl rfl (hall 6 (by decide))
          obtain ⟨x36, hx36⟩ : ∃ x, A.eval (.tmp 36) = x := ⟨_, rfl⟩
          have f36 : (fun v _ => v = (Value.int .i64 (AX : Nat))) x36 u8 := by rw [← hx36]; exact hh.got 7 _ 36 rfl rfl (hall 7 (by decide))
          obtain ⟨x11, hx11⟩ : ∃ x, A.eval (.tmp 11) = x := ⟨_, rfl⟩
          have f11 : (fun v _ => v = (Value.int .i64 (AX : Nat))) x11 u8 := by rw [← hx11]; exact hh.got 8 _ 11 rfl rfl (hall 8 (by decide))
          dsimp only [wrote, List.foldl] at hA
          rw [hx29, hx30, hx31, hx32, hx33, hx34, hx35, hx36, hx11] at hA
          clear hh hall hx29 hx30 hx31 hx32 hx33 hx34 hx35 hx36 hx11
          replace f29 := (f29 : x29 = (.int .i64 (f : Nat)))
          subst f29
          replace f30 := (f30 : x30 = (.slice a n c))
          subst f30
          replace f31 := (f31 : x31 = (.int .i64 (f : Nat)))
          subst f31
          replace f32 := (f32 : x32 = (.int .i64 (t : Nat)))
          subst f32
          replace f33 := (f33 : x33 = (.slice a2 o C2))
          subst f33
          replace f34 := (f34 : x34 = (.agg J.toArray))
          subst f34
          replace f35 := (f35 : x35 = (.int .i64 (k : Nat)))
          subst f35
          replace f36 := (f36 : x36 = (.int .i64 (AX : Nat)))
          subst f36
          replace f11 := (f11 : x11 = (.int .i64 (AX : Nat)))
          subst f11
          subst hA
          show wpList _ _ _ [] _ _
          unfold wpList
          simp only [Act.put, List.setIfInBounds_toArray, List.set_cons_succ, List.set_cons_zero]
          have HU8 := hid (gtrans HU9.out HU.out)
          have HB8 := hid (HB9.out.keep HU.out)
          clear HU HU9 HB9
          go_upto_region 8 with fail
          refine wp_region_listX (by kernel_rfl) [fun v _ => v = (Value.int .i64 (AX : Nat)), fun v _ => v = (Value.int .i64 (t : Nat)), fun v _ => v = (Value.bool false), fun v _ => v = (Value.bool false), fun v _ => v = undef, fun v _ => v = undef, fun v _ => v = undef, fun v _ => v = undef, fun v _ => v = undef, fun v _ => v = undef, fun v _ => v = undef, fun v _ => v = (Value.bool false)] (none) (fun _ => none) 12 (by kernel_rfl) (by kernel_rfl) (by kernel_rfl) (by kernel_rfl) (by decide) noRow_one (fun _ => .inl rfl) ⟨fun i v u u' hki h hg => h, fun i v u u' hki h hg => h, fun i v u u' hki h hg => h, fun i v u u' hki h hg => h, fun i v u u' hki h hg => h, fun i v u u' hki h hg => h, fun i v u u' hki h hg => h, fun i v u u' hki h hg => h, fun i v u u' hki h hg => h, fun i v u u' hki h hg => h, fun i v u u' hki h hg => h, fun i v u u' hki h hg => h, trivial⟩ ⟨?_, ?_, ?_, ?_, ?_, ?_, ?_, ?_, ?_, ?_, ?_, ?_, trivial⟩ ?_
          · intro A u hu hpu hsz hout hdeps
            have e11 : A.eval (.tmp 11) = (.int .i64 (AX : Nat)) := (hout 11 (by kernel_rfl)).trans rfl
            refine ifw_none rfl ?_
            with_reducible refine shown_q (Value.int .i64 (AX : Nat)) ?qq_8a8_0 (fun _ _ => ?qr_8a8_0)
            case qr_8a8_0 => exact (rfl : (Value.int .i64 (AX : Nat)) = (Value.int .i64 (AX : Nat)))
            with_reducible refine quietAt_mv (.tmp 11) (Value.int .i64 (AX : Nat)) ?h0_8a8_0 ?h1_8a8_0
            case h0_8a8_0 => rfl
            case h1_8a8_0 => exact e11
          · intro A u hu hpu hsz hout hdeps
            have e10 : A.eval (.tmp 10) = (.int .i64 (t : Nat)) := (hout 10 (by kernel_rfl)).trans rfl
            refine ifw_none rfl ?_
            with_reducible refine shown_q (Value.int .i64 (t : Nat)) ?qq_8a8_1 (fun _ _ => ?qr_8a8_1)
            case qr_8a8_1 => exact (rfl : (Value.int .i64 (t : Nat)) = (Value.int .i64 (t : Nat)))
            with_reducible refine quietAt_mv (.tmp 10) (Value.int .i64 (t : Nat)) ?h0_8a8_1 ?h1_8a8_1
            case h0_8a8_1 => rfl
            case h1_8a8_1 => exact e10
          · intro A u hu hpu hsz hout hdeps
            have e38 : A.eval (.tmp 38) = (.int .i64 (AX : Nat)) := by have h := depL hdeps 0 (by kernel_rfl) 38 (by kernel_rfl); exact h
            have e39 : A.eval (.tmp 39) = (.int .i64 (t : Nat)) := by have h := depL hdeps 1 (by kernel_rfl) 39 (by kernel_rfl); exact h
            refine ifw_none rfl ?_
            with_reducible refine shown_q (Value.bool false) ?qq_8a8_2 (fun _ _ => ?qr_8a8_2)
            case qr_8a8_2 => exact (rfl : (Value.bool false) = (Value.bool false))
            with_reducible refine quietAt_bin .lss 3 (.tmp 38) (.tmp 39) 3 (Value.int .i64 (AX : Nat)) (Value.int .i64 (t : Nat)) (Value.bool false) ?h0_8a8_2 ?h1_8a8_2 ?h2_8a8_2 ?h3_8a8_2
            case h0_8a8_2 => rfl
            case h1_8a8_2 => exact e38
            case h2_8a8_2 => exact e39
            case h3_8a8_2 => exact HLt.out _ _ u
          · intro A u hu hpu hsz hout hdeps
            have e40 : A.eval (.tmp 40) = (.bool false) := by have h := depL hdeps 2 (by kernel_rfl) 40 (by kernel_rfl); exact h
            refine ifw_none rfl ?_
            with_reducible refine shown_q (Value.bool false) ?qq_8a8_3 (fun _ _ => ?qr_8a8_3)
            case qr_8a8_3 => exact (rfl : (Value.bool false) = (Value.bool false))
            with_reducible refine quietAt_mv (.tmp 40) (Value.bool false) ?h0_8a8_3 ?h1_8a8_3
            case h0_8a8_3 => rfl
            case h1_8a8_3 => exact e40
          · intro A u hu hpu hsz hout hdeps
            have e41 : A.eval (.tmp 41) = (.bool false) := by have h := depL hdeps 3 (by kernel_rfl) 41 (by kernel_rfl); exact h
            refine ifw_pass 3 true false 41 rfl rfl e41 (by decide) ?_
            exact rfl
          · intro A u hu hpu hsz hout hdeps
            have e41 : A.eval (.tmp 41) = (.bool false) := by have h := depL hdeps 3 (by kernel_rfl) 41 (by kernel_rfl); exact h
            refine ifw_pass 3 true false 41 rfl rfl e41 (by decide) ?_
            exact rfl
          · intro A u hu hpu hsz hout hdeps
            have e41 : A.eval (.tmp 41) = (.bool false) := by have h := depL hdeps 3 (by kernel_rfl) 41 (by kernel_rfl); exact h
            refine ifw_pass 3 true false 41 rfl rfl e41 (by decide) ?_
            exact rfl
          · intro A u hu hpu hsz hout hdeps
            have e41 : A.eval (.tmp 41) = (.bool false) := by have h := depL hdeps 3 (by kernel_rfl) 41 (by kernel_rfl); exact h
            refine ifw_pass 3 true false 41 rfl rfl e41 (by decide) ?_
            exact rfl
          · intro A u hu hpu hsz hout hdeps
            have e41 : A.eval (.tmp 41) = (.bool false) := by have h := depL hdeps 3 (by kernel_rfl) 41 (by kernel_rfl); exact h
            refine ifw_pass 3 true false 41 rfl rfl e41 (by decide) ?_
            exact rfl
          · intro A u hu hpu hsz hout hdeps
            have e41 : A.eval (.tmp 41) = (.bool false) := by have h := depL hdeps 3 (by kernel_rfl) 41 (by kernel_rfl); exact h
            refine ifw_pass 3 true false 41 rfl rfl e41 (by decide) ?_
            exact rfl
          · intro A u hu hpu hsz hout hdeps
            have e41 : A.eval (.tmp 41) = (.bool false) := by have h := depL hdeps 3 (by kernel_rfl) 41 (by kernel_rfl); exact h
            refine ifw_pass 3 true false 41 rfl rfl e41 (by decide) ?_
            exact rfl
          · intro A u hu hpu hsz hout hdeps
            have e41 : A.eval (.tmp 41) = (.bool false) := by have h := depL hdeps 3 (by kernel_rfl) 41 (by kernel_rfl); exact h
            refine ifw_none rfl ?_
            with_reducible refine shown_q (Value.bool false) ?qq_8a8_11 (fun _ _ => ?qr_8a8_11)
            case qr_8a8_11 => exact (rfl : (Value.bool false) = (Value.bool false))
            with_reducible refine quietAt_pick (.tmp 41) (.tmp 48) (.const (.bool false)) false (Value.bool false) ?h0_8a8_11 ?h1_8a8_11 ?h2_8a8_11
            case h0_8a8_11 => rfl
            case h1_8a8_11 => exact e41
            case h2_8a8_11 => rw [if_neg (by decide)]; exact rfl
          · intro A u9 listed hh hall
            have hA := hh.frame
            have HU := hid hh.grown
            obtain ⟨x38, hx38⟩ : ∃ x, A.eval (.tmp 38) = x := ⟨_, rfl⟩
            have f38 : (fun v _ => v = (Value.int .i64 (AX : Nat))) x38 u9 := by rw [← hx38]; exact hh.got 0 _ 38 rfl rfl (hall 0 (by decide))
            obtain ⟨x39, hx39⟩ : ∃ x, A.eval (.tmp 39) = x := ⟨_, rfl⟩
            have f39 : (fun v _ => v = (Value.int .i64 (t : Nat))) x39 u9 := by rw [← hx39]; exact hh.got 1 _ 39 rfl rfl (hall 1 (by decide))
            obtain ⟨x40, hx40⟩ : ∃ x, A.eval (.tmp 40) = x := ⟨_, rfl⟩
            have f40 : (fun v _ => v = (Value.bool false)) x40 u9 := by rw [← hx40]; exact hh.got 2 _ 40 rfl rfl (hall 2 (by decide))
            obtain ⟨x41, hx41⟩ : ∃ x, A.eval (.tmp 41) = x := ⟨_, rfl⟩
            have f41 : (fun v _ => v = (Value.bool false)) x41 u9 := by rw [← hx41]; exact hh.got 3 _ 41 rfl rfl (hall 3 (by decide))
            obtain ⟨x42, hx42⟩ : ∃ x, A.eval (.tmp 42) = x := ⟨_, rfl⟩
            have f42 : (fun v _ => v = undef) x42 u9 := by rw [← hx42]; exact hh.got 4 _ 42 rfl rfl (hall 4 (by decide))
            obtain ⟨x43, hx43⟩ : ∃ x, A.eval (.tmp 43) = x := ⟨_, rfl⟩
            have f43 : (fun v _ => v = undef) x43 u9 := by rw [← hx43]; exact hh.got 5 _ 43 rfl rfl (hall 5 (by decide))
            obtain ⟨x44, hx44⟩ : ∃ x, A.eval (.tmp 44) = x := ⟨_, rfl⟩
            have f44 : (fun v _ => v = undef) x44 u9 := by rw [← hx44]; exact hh.got 6 _ 44 rfl rfl (hall 6 (by decide))
            obtain ⟨x45, hx45⟩ : ∃ x, A.eval (.tmp 45) = x := ⟨_, rfl⟩
            have f45 : (fun v _ => v = undef) x45 u9 := by rw [← hx45]; exact hh.got 7 _ 45 rfl rfl (hall 7 (by decide))
            obtain ⟨x46, hx46⟩ : ∃ x, A.eval (.tmp 46) = x := ⟨_, rfl⟩
            have f46 : (fun v _ => v = undef) x46 u9 := by rw [← hx46]; exact hh.got 8 _ 46 rfl rfl (hall 8 (by decide))
            obtain ⟨x47, hx47⟩ : ∃ x, A.eval (.tmp 47) = x := ⟨_, rfl⟩
            have f47 : (fun v _ => v = undef) x47 u9 := by rw [← hx47]; exact hh.got 9 _ 47 rfl rfl (hall 9 (by decide))
            obtain ⟨x48, hx48⟩ : ∃ x, A.eval (.tmp 48) = x := ⟨_, rfl⟩
            have f48 : (fun v _ => v = undef) x48 u9 := by rw [← hx48]; exact hh.got 10 _ 48 rfl rfl (hall 10 (by decide))
            obtain ⟨x49, hx49⟩ : ∃ x, A.eval (.tmp 49) = x := ⟨_, rfl⟩
            have f49 : (fun v _ => v = (Value.bool false)) x49 u9 := by rw [← hx49]; exact hh.got 11 _ 49 rfl rfl (hall 11 (by decide))
            dsimp only [wrote, List.foldl] at hA
            rw [hx38, hx39, hx40, hx41, hx42, hx43, hx44, hx45, hx46, hx47, hx48, hx49] at hA
            clear hh hall hx38 hx39 hx40 hx41 hx42 hx43 hx44 hx45 hx46 hx47 hx48 hx49
            replace f38 := (f38 : x38 = (.int .i64 (AX : Nat)))
            subst f38
            replace f39 := (f39 : x39 = (.int .i64 (t : Nat)))
            subst f39
            replace f40 := (f40 : x40 = (.bool false))
            subst f40
            replace f41 := (f41 : x41 = (.bool false))
            subst f41
            replace f42 := (f42 : x42 = undef)
            subst f42
            replace f43 := (f43 : x43 = undef)
            subst f43
            replace f44 := (f44 : x44 = undef)
            subst f44
            replace f45 := (f45 : x45 = undef)
            subst f45
            replace f46 := (f46 : x46 = undef)
            subst f46
            replace f47 := (f47 : x47 = undef)
            subst f47
            replace f48 := (f48 : x48 = undef)
            subst f48
            replace f49 := (f49 : x49 = (.bool false))
            subst f49
            subst hA
            show wpList _ _ _ [] _ _
            unfold wpList
            simp only [Act.put, List.setIfInBounds_toArray, List.set_cons_succ, List.set_cons_zero]
            have HUx := hid (gtrans HU8.out HU.out)
            have HBx := hid (HB8.out.keep HU.out)
            clear HU HU8 HB8
            obtain ⟨wx, hwx⟩ : ∃ x, x = u9 := ⟨_, rfl⟩
            rw [← hwx] at HUx HBx ⊢
            clear hwx
            go_upto_region 11 with fail
            refine wp_region_listX (by kernel_rfl) [fun v _ => v = (Value.slice a n c), fun v _ => v = (Value.int .i64 (AX : Nat)), fun v _ => v = (Value.slice a1 AX c), fun v _ => v = (Value.int .u64 (g : Nat)), fun v _ => v = (Value.agg J.toArray), fun v _ => v = (Value.int .i64 E), fun v _ => v = (Value.agg KN.toArray), fun v _ => v = (Value.slice a n c), fun v _ => v = (Value.int .i64 (AX : Nat)), fun v _ => v = (Value.slice a3 n3 c3), fun v u => ∃ z, v = z ∧ OutK wx.heap.size u z RL, fun v u => ∃ z, v = z ∧ OutK wx.heap.size u z RL] (none) (fun _ => none) 12 (by kernel_rfl) (by kernel_rfl) (by kernel_rfl) (by kernel_rfl) (by decide) noRow_one (fun _ => .inl rfl) ⟨fun i v u u' hki h hg => h, fun i v u u' hki h hg => h, fun i v u u' hki h hg => h, fun i v u u' hki h hg => h, fun i v u u' hki h hg => h, fun i v u u' hki h hg => h, fun i v u u' hki h hg => h, fun i v u u' hki h hg => h, fun i v u u' hki h hg => h, fun i v u u' hki h hg => h, fun i v u u' hki h hg => (by obtain ⟨z, rfl, h1⟩ := h; exact ⟨_, rfl, h1.keep hg⟩), fun i v u u' hki h hg => (by obtain ⟨z, rfl, h1⟩ := h; exact ⟨_, rfl, h1.keep hg⟩), trivial⟩ ⟨?_, ?_, ?_, ?_, ?_, ?_, ?_, ?_, ?_, ?_, ?_, ?_, trivial⟩ ?_
            · intro A u hu hpu hsz hout hdeps
              have e0 : A.eval (.tmp 0) = (.slice a n c) := (hout 0 (by kernel_rfl)).trans rfl
              refine ifw_none rfl ?_
              with_reducible refine shown_q (Value.slice a n c) ?qq_9a9_0 (fun _ _ => ?qr_9a9_0)
              case qr_9a9_0 => exact (rfl : (Value.slice a n c) = (Value.slice a n c))
              with_reducible refine quietAt_mv (.tmp 0) (Value.slice a n c) ?h0_9a9_0 ?h1_9a9_0
              case h0_9a9_0 => rfl
              case h1_9a9_0 => exact e0
            · intro A u hu hpu hsz hout hdeps
              have e11 : A.eval (.tmp 11) = (.int .i64 (AX : Nat)) := (hout 11 (by kernel_rfl)).trans rfl
              refine ifw_none rfl ?_
              with_reducible refine shown_q (Value.int .i64 (AX : Nat)) ?qq_9a9_1 (fun _ _ => ?qr_9a9_1)
              case qr_9a9_1 => exact (rfl : (Value.int .i64 (AX : Nat)) = (Value.int .i64 (AX : Nat)))
              with_reducible refine quietAt_mv (.tmp 11) (Value.int .i64 (AX : Nat)) ?h0_9a9_1 ?h1_9a9_1
              case h0_9a9_1 => rfl
              case h1_9a9_1 => exact e11
            · intro A u hu hpu hsz hout hdeps
              have e59 : A.eval (.tmp 59) = (.slice a n c) := by have h := depL hdeps 0 (by kernel_rfl) 59 (by kernel_rfl); exact h
              have e60 : A.eval (.tmp 60) = (.int .i64 (AX : Nat)) := by have h := depL hdeps 1 (by kernel_rfl) 60 (by kernel_rfl); exact h
              refine ifw_none rfl ?_
              with_reducible refine shown_q (Value.slice a1 AX c) ?qq_9a9_2 (fun _ _ => ?qr_9a9_2)
              case qr_9a9_2 => exact (rfl : (Value.slice a1 AX c) = (Value.slice a1 AX c))
              with_reducible refine quietAt_sliceh 57 (.tmp 59) (.tmp 60) (Value.slice a n c) (Value.int .i64 (AX : Nat)) (Value.slice a1 AX c) ?h0_9a9_2 ?h1_9a9_2 ?h2_9a9_2 ?h3_9a9_2
              case h0_9a9_2 => rfl
              case h1_9a9_2 => exact e59
              case h2_9a9_2 => exact e60
              case h3_9a9_2 => exact (HS1.out u)
            · intro A u hu hpu hsz hout hdeps
              have e1 : A.eval (.tmp 1) = (.int .u64 (g : Nat)) := (hout 1 (by kernel_rfl)).trans rfl
              refine ifw_none rfl ?_
              with_reducible refine shown_q (Value.int .u64 (g : Nat)) ?qq_9a9_3 (fun _ _ => ?qr_9a9_3)
              case qr_9a9_3 => exact (rfl : (Value.int .u64 (g : Nat)) = (Value.int .u64 (g : Nat)))
              with_reducible refine quietAt_mv (.tmp 1) (Value.int .u64 (g : Nat)) ?h0_9a9_3 ?h1_9a9_3
              case h0_9a9_3 => rfl
              case h1_9a9_3 => exact e1
            · intro A u hu hpu hsz hout hdeps
              have e6 : A.eval (.tmp 6) = (.pointer (some ⟨p6, 0, none⟩)) := (hout 6 (by kernel_rfl)).trans rfl
              refine ifw_none rfl ?_
              with_reducible refine shown_q (Value.agg J.toArray) ?qq_9a9_4 (fun _ _ => ?qr_9a9_4)
              case qr_9a9_4 => exact (rfl : (Value.agg J.toArray) = (Value.agg J.toArray))
              with_reducible refine quietAt_load 69 (.tmp 6) ?h0_9a9_4 p6 0 J (.array 16 5) ?h1_9a9_4 ?h2_9a9_4 ?h3_9a9_4 ?h4_9a9_4 ?h5_9a9_4
              case h0_9a9_4 => rfl
              case h1_9a9_4 => exact e6
              case h2_9a9_4 => exact (HBx.out.keep hu).whole
              case h3_9a9_4 => exact Tryz.underlying69
              case h4_9a9_4 => rfl
              case h5_9a9_4 => exact HJL.out
            · intro A u hu hpu hsz hout hdeps
              have e3 : A.eval (.tmp 3) = (.int .i64 E) := (hout 3 (by kernel_rfl)).trans rfl
              refine ifw_none rfl ?_
              with_reducible refine shown_q (Value.int .i64 E) ?qq_9a9_5 (fun _ _ => ?qr_9a9_5)
              case qr_9a9_5 => exact (rfl : (Value.int .i64 E) = (Value.int .i64 E))
              with_reducible refine quietAt_mv (.tmp 3) (Value.int .i64 E) ?h0_9a9_5 ?h1_9a9_5
              case h0_9a9_5 => rfl
              case h1_9a9_5 => exact e3
            · intro A u hu hpu hsz hout hdeps
              have e62 : A.eval (.tmp 62) = (.int .u64 (g : Nat)) := by have h := depL hdeps 3 (by kernel_rfl) 62 (by kernel_rfl); exact h
              have e63 : A.eval (.tmp 63) = (.agg J.toArray) := by have h := depL hdeps 4 (by kernel_rfl) 63 (by kernel_rfl); exact h
              have e64 : A.eval (.tmp 64) = (.int .i64 E) := by have h := depL hdeps 5 (by kernel_rfl) 64 (by kernel_rfl); exact h
              refine ifw_none rfl ?_
              with_reducible refine shown_q (Value.agg KN.toArray) ?qq_9a9_6 (fun _ _ => ?qr_9a9_6)
              case qr_9a9_6 => exact (rfl : (Value.agg KN.toArray) = (Value.agg KN.toArray))
              with_reducible refine quietAt_build 85 #[(1, .tmp 62), (2, .tmp 63), (3, .tmp 64)] ?h0_9a9_6 [(1, (Value.int .u64 (g : Nat))), (2, (Value.agg J.toArray)), (3, (Value.int .i64 E))] ?h1_9a9_6 KN ?h2_9a9_6
              case h0_9a9_6 => rfl
              case h1_9a9_6 => simp only [List.map_toArray, List.map_cons, List.map_nil, e62, e63, e64]
              case h2_9a9_6 => exact HBn.out
            · intro A u hu hpu hsz hout hdeps
              have e0 : A.eval (.tmp 0) = (.slice a n c) := (hout 0 (by kernel_rfl)).trans rfl
              refine ifw_none rfl ?_
              with_reducible refine shown_q (Value.slice a n c) ?qq_9a9_7 (fun _ _ => ?qr_9a9_7)
              case qr_9a9_7 => exact (rfl : (Value.slice a n c) = (Value.slice a n c))
              with_reducible refine quietAt_mv (.tmp 0) (Value.slice a n c) ?h0_9a9_7 ?h1_9a9_7
              case h0_9a9_7 => rfl
              case h1_9a9_7 => exact e0
            · intro A u hu hpu hsz hout hdeps
              have e12 : A.eval (.tmp 12) = (.int .i64 (AX : Nat)) := (hout 12 (by kernel_rfl)).trans rfl
              refine ifw_none rfl ?_
              with_reducible refine shown_q (Value.int .i64 (AX : Nat)) ?qq_9a9_8 (fun _ _ => ?qr_9a9_8)
              case qr_9a9_8 => exact (rfl : (Value.int .i64 (AX : Nat)) = (Value.int .i64 (AX : Nat)))
              with_reducible refine quietAt_mv (.tmp 12) (Value.int .i64 (AX : Nat)) ?h0_9a9_8 ?h1_9a9_8
              case h0_9a9_8 => rfl
              case h1_9a9_8 => exact e12
            · intro A u hu hpu hsz hout hdeps
              have e66 : A.eval (.tmp 66) = (.slice a n c) := by have h := depL hdeps 7 (by kernel_rfl) 66 (by kernel_rfl); exact h
              have e67 : A.eval (.tmp 67) = (.int .i64 (AX : Nat)) := by have h := depL hdeps 8 (by kernel_rfl) 67 (by kernel_rfl); exact h
              refine ifw_none rfl ?_
              with_reducible refine shown_q (Value.slice a3 n3 c3) ?qq_9a9_9 (fun _ _ => ?qr_9a9_9)
              case qr_9a9_9 => exact (rfl : (Value.slice a3 n3 c3) = (Value.slice a3 n3 c3))
              with_reducible refine quietAt_slicel 57 (.tmp 66) (.tmp 67) (Value.slice a n c) (Value.int .i64 (AX : Nat)) (Value.slice a3 n3 c3) ?h0_9a9_9 ?h1_9a9_9 ?h2_9a9_9 ?h3_9a9_9
              case h0_9a9_9 => rfl
              case h1_9a9_9 => exact e66
              case h2_9a9_9 => exact e67
              case h3_9a9_9 => exact (HS3.out u)
            · intro A u hu hpu hsz hout hdeps
              have e61 : A.eval (.tmp 61) = (.slice a1 AX c) := by have h := depL hdeps 2 (by kernel_rfl) 61 (by kernel_rfl); exact h
              have e65 : A.eval (.tmp 65) = (.agg KN.toArray) := by have h := depL hdeps 6 (by kernel_rfl) 65 (by kernel_rfl); exact h
              have e68 : A.eval (.tmp 68) = (.slice a3 n3 c3) := by have h := depL hdeps 9 (by kernel_rfl) 68 (by kernel_rfl); exact h
              refine ifw_none rfl ?_
              with_reducible refine shown_call 39 Tryz.f39 ?h0_9a9_10 ?h1_9a9_10 ?h2_9a9_10 #[.tmp 61, .tmp 65, .tmp 68] #[57, 85, 57] ?h3_9a9_10 #[(Value.slice a1 AX c), (Value.agg KN.toArray), (Value.slice a3 n3 c3)] ?h4_9a9_10 ?h5_9a9_10
              case h0_9a9_10 => exact Tryz.func39
              case h1_9a9_10 => kernel_rfl
              case h2_9a9_10 => kernel_rfl
              case h3_9a9_10 => rfl
              case h4_9a9_10 => exact map3 _ _ _ _ _ _ _ e61 e65 e68
              case h5_9a9_10 => exact (HWi.out u (gtrans HUx.out hu)).mono fun e w' ⟨v', he, ho, hg⟩ => ⟨v', he, hg, v', rfl, ho.below hu.size⟩
            · intro A u hu hpu hsz hout hdeps
              have f69 : (fun v u => ∃ z, v = z ∧ OutK wx.heap.size u z RL) (A.eval (.tmp 69)) u := by have h := depL hdeps 10 (by kernel_rfl) 69 (by kernel_rfl); exact h
              obtain ⟨V9, e69, HV9⟩ := f69
              refine ifw_none rfl ?_
              exact shown_q _ (quietAt_as (.tmp 69) _ rfl e69) (fun u' hg => ⟨_, rfl, HV9.keep hg⟩)
            · intro A u10 listed hh hall
              have hA := hh.frame
              have HU := hid hh.grown
              obtain ⟨x59, hx59⟩ : ∃ x, A.eval (.tmp 59) = x := ⟨_, rfl⟩
              have f59 : (fun v _ => v = (Value.slice a n c)) x59 u10 := by rw [← hx59]; exact hh.got 0 _ 59 rfl rfl (hall 0 (by decide))
              obtain ⟨x60, hx60⟩ : ∃ x, A.eval (.tmp 60) = x := ⟨_, rfl⟩
              have f60 : (fun v _ => v = (Value.int .i64 (AX : Nat))) x60 u10 := by rw [← hx60]; exact hh.got 1 _ 60 rfl rfl (hall 1 (by decide))
              obtain ⟨x61, hx61⟩ : ∃ x, A.eval (.tmp 61) = x := ⟨_, rfl⟩
              have f61 : (fun v _ => v = (Value.slice a1 AX c)) x61 u10 := by rw [← hx61]; exact hh.got 2 _ 61 rfl rfl (hall 2 (by decide))
              obtain ⟨x62, hx62⟩ : ∃ x, A.eval (.tmp 62) = x := ⟨_, rfl⟩
              have f62 : (fun v _ => v = (Value.int .u64 (g : Nat))) x62 u10 := by rw [← hx62]; exact hh.got 3 _ 62 rfl rfl (hall 3 (by decide))
              obtain ⟨x63, hx63⟩ : ∃ x, A.eval (.tmp 63) = x := ⟨_, rfl⟩
              have f63 : (fun v _ => v = (Value.agg J.toArray)) x63 u10 := by rw [← hx63]; exact hh.got 4 _ 63 rfl rfl (hall 4 (by decide))
              obtain ⟨x64, hx64⟩ : ∃ x, A.eval (.tmp 64) = x := ⟨_, rfl⟩
              have f64 : (fun v _ => v = (Value.int .i64 E)) x64 u10 := by rw [← hx64]; exact hh.got 5 _ 64 rfl rfl (hall 5 (by decide))
              obtain ⟨x65, hx65⟩ : ∃ x, A.eval (.tmp 65) = x := ⟨_, rfl⟩
              have f65 : (fun v _ => v = (Value.agg KN.toArray)) x65 u10 := by rw [← hx65]; exact hh.got 6 _ 65 rfl rfl (hall 6 (by decide))
              obtain ⟨x66, hx66⟩ : ∃ x, A.eval (.tmp 66) = x := ⟨_, rfl⟩
              have f66 : (fun v _ => v = (Value.slice a n c)) x66 u10 := by rw [← hx66]; exact hh.got 7 _ 66 rfl rfl (hall 7 (by decide))
              obtain ⟨x67, hx67⟩ : ∃ x, A.eval (.tmp 67) = x := ⟨_, rfl⟩
              have f67 : (fun v _ => v = (Value.int .i64 (AX : Nat))) x67 u10 := by rw [← hx67]; exact hh.got 8 _ 67 rfl rfl (hall 8 (by decide))
              obtain ⟨x68, hx68⟩ : ∃ x, A.eval (.tmp 68) = x := ⟨_, rfl⟩
              have f68 : (fun v _ => v = (Value.slice a3 n3 c3)) x68 u10 := by rw [← hx68]; exact hh.got 9 _ 68 rfl rfl (hall 9 (by decide))
              obtain ⟨x69, hx69⟩ : ∃ x, A.eval (.tmp 69) = x := ⟨_, rfl⟩
              have f69 : (fun v u => ∃ z, v = z ∧ OutK wx.heap.size u z RL) x69 u10 := by rw [← hx69]; exact hh.got 10 _ 69 rfl rfl (hall 10 (by decide))
              obtain ⟨x8, hx8⟩ : ∃ x, A.eval (.tmp 8) = x := ⟨_, rfl⟩
              have f8 : (fun v u => ∃ z, v = z ∧ OutK wx.heap.size u z RL) x8 u10 := by rw [← hx8]; exact hh.got 11 _ 8 rfl rfl (hall 11 (by decide))
              dsimp only [wrote, List.foldl] at hA
              rw [hx59, hx60, hx61, hx62, hx63, hx64, hx65, hx66, hx67, hx68, hx69, hx8] at hA
              clear hh hall hx59 hx60 hx61 hx62 hx63 hx64 hx65 hx66 hx67 hx68 hx69 hx8
              replace f59 := (f59 : x59 = (.slice a n c))
              subst f59
              replace f60 := (f60 : x60 = (.int .i64 (AX : Nat)))
              subst f60
              replace f61 := (f61 : x61 = (.slice a1 AX c))
              subst f61
              replace f62 := (f62 : x62 = (.int .u64 (g : Nat)))
              subst f62
              replace f63 := (f63 : x63 = (.agg J.toArray))
              subst f63
              replace f64 := (f64 : x64 = (.int .i64 E))
              subst f64
              replace f65 := (f65 : x65 = (.agg KN.toArray))
              subst f65
              replace f66 := (f66 : x66 = (.slice a n c))
              subst f66
              replace f67 := (f67 : x67 = (.int .i64 (AX : Nat)))
              subst f67
              replace f68 := (f68 : x68 = (.slice a3 n3 c3))
              subst f68
              obtain ⟨V9, e69, HV9⟩ := f69
              subst e69
              obtain ⟨V9, e8, HV9⟩ := f8
              subst e8
              subst hA
              show wpList _ _ _ [] _ _
              unfold wpList
              simp only [Act.put, List.setIfInBounds_toArray, List.set_cons_succ, List.set_cons_zero]
              have HUz := hid (gtrans HUx.out HU.out)
              have HOz := hid (OutK.below HV9 HUx.out.size)
              go_wp2_with fail
              go_ret
              exact ⟨_, rfl, HOz.out, HUz.out⟩
end Go.Proofs.YtlgjmhemgfjgnaaGreat
