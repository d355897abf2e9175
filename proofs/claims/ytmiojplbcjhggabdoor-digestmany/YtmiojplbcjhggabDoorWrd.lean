/- word. -/
import Derived.Test.YtmiojplbcjhggabDoorFil
import Derived.Laws.BytesArg
import Derived.OwnWalk
namespace Go.Proofs.YtmiojplbcjhggabDoor
open Go Go.RowKit
open Go.RowKit (wrap32 wrap64)

theorem strOfNums_list (l : List UInt8) : strOfNums (l.map fun b => (b.toNat : Int)) = ⟨l.toArray⟩ := by
  unfold strOfNums
  rw [List.map_map, show l.map ((fun n : Int => UInt8.ofNat n.toNat) ∘ fun b : UInt8 => (b.toNat : Int)) = l.map id from List.map_congr_left fun x _ => by simp, List.map_id]
theorem Rd.convert {w : World} {F : Nat → Prop} {v : Value} {l : List UInt8} (h : Rd w F v l) : (convert 25 9 v).run Tryd.prog w = .ok (.string ⟨l.toArray⟩) w := by
  obtain ⟨a, b, off, c, rfl, hc, hn, ha, hcell⟩ := h
  by_cases hl : 0 < l.length
  · rw [(ha hl).1]
    have := run_convert_bytes_arg w 25 5 Tryd.underlying25 Tryd.underlying5 b off l.length c (l.map fun b => (b.toNat : Int)) (by simp) (fun i hi => by
      simp [hcell i hi, List.getD, List.getElem?_eq_getElem hi]) 9 Tryd.underlying9
    rw [this, strOfNums_list]
  · have : l = [] := by cases l with | nil => rfl | cons _ _ => simp at hl
    subst this
    rcases a with _ | ⟨b', o', sp⟩
    · exact run_convert_bytes_nil w 25 5 Tryd.underlying25 Tryd.underlying5 0 c 9 Tryd.underlying9
    · rw [run_convert_bytes_string w 25 9 5 _ _ _ Tryd.underlying25 Tryd.underlying5 Tryd.underlying9]
      have hl := run_loadCells_list (P := Tryd.prog) w ⟨b', o', sp⟩ [] (fun j v hj => by simp at hj)
      have := run_bytesToString (P := Tryd.prog) w ⟨b', o', sp⟩ 0 c [] (by simpa using hl)
      exact this


theorem Tryd.zero45 : (Tryd.prog.info? 45).map (fun i => i.zero) = some (some (.agg y16.toArray)) := by kernel_rfl
def saltK (k : List UInt8) : List UInt8 := k.take 16 ++ List.replicate (16 - k.length) 0
theorem saltK_length (k : List UInt8) : (saltK k).length = 16 := by simp [saltK]; omega
theorem saltK_splice (k : List UInt8) (m : Nat) (hm : Nat.min k.length 16 = m) : splice y16 0 (Lib.byteCells (k.take m)) = Lib.byteCells (saltK k) := by
  have hm' : m = min k.length 16 := hm.symm
  have e : k.take m = k.take 16 := by rw [hm', Nat.min_comm, ← List.take_eq_take_min]
  have el : (k.take 16).length = m := by rw [List.length_take, hm', Nat.min_comm]
  unfold splice saltK
  rw [e, List.take_zero, List.nil_append, Nat.zero_add, byteCells_length, el, byteCells_append]
  congr 1
  unfold y16
  rw [List.drop_replicate]
  simp [Lib.byteCells]
  omega

set_option maxRecDepth 100000 in
set_option maxHeartbeats 1600000 in
theorem word_any (w : World) (vk vt : Value) (F G : Nat → Prop) (key t : List UInt8) (hk : Rd w F vk key) (ht : Rd w G vt t) (hkl : key.length ≤ 262144) (htl : t.length ≤ 262144) (hg : Glob w) :
    Calls Tryd.prog 11 #[vk, vt] w fun e w' => e = .returned (.bool true) ∧ w.grownBy w' none := by
  have HK0 : Hid (∀ u, w.grownBy u none → Rd u F vk key) := fun u hu => hk.keep hu
  have HGl : Hid (∀ u, w.grownBy u none → Glob u) := fun u hu => hg.keep hu
  have HNum : Hid (∀ u : World, Calls Tryd.prog 19 #[.int .i64 0] u fun e w' => e = .returned (.int .i64 0) ∧ w' = u) := fun u => num_any 0 u
  have HTr : Hid (∀ u, w.grownBy u none → Rd u (fun k => k < w.heap.size) vt t) := fun u hu => (ht.mono (G := fun k => k < w.heap.size) (fun k hk _ => hk)).keep hu
  have HKl := hid hkl
  have HTl := hid htl
  obtain ⟨ta, tb, to, tc, hte, -⟩ := ht
  subst hte
  obtain ⟨n, HN⟩ : ∃ n, Hid (t.length = n) := ⟨_, hid rfl⟩
  rw [HN.out] at HTr HTl ⊢
  obtain ⟨salt, HSa⟩ : ∃ x, Hid (saltK key = x) := ⟨_, hid rfl⟩
  have HSl : Hid (salt.length = 16) := hid (by rw [← HSa.out]; exact saltK_length key)
  obtain ⟨m, HM⟩ : ∃ m, Hid (Nat.min key.length 16 = m) := ⟨_, hid rfl⟩
  have HM16 : Hid (m ≤ 16) := hid (by rw [← HM.out]; exact Nat.min_le_right _ _)
  have HSp := hid (saltK_splice key m HM.out)
  rw [HSa.out] at HSp
  obtain ⟨S, HS⟩ : ∃ x, Hid (Lib.byteCells salt = x) := ⟨_, hid rfl⟩
  have HSL : Hid (S.length = 16) := hid (by rw [← HS.out, byteCells_length]; exact HSl.out)
  have HY16 : Hid (y16.length = 16) := hid rfl
  clear hk hkl htl hg HSa
  go_enter Tryd.func11, Tryd.ntmps11
  go_wp2_with (first
    | (refine wpList_alloc_row rfl 45 rfl y16 Tryd.zero45 ?_; intro w1 B1 s1 g1; have HB1 := hid B1; have HG1 := hid g1; have HZ1 := hid s1; clear B1 g1 s1)
    | (refine wpList_copy_blk rfl _ _ rfl w.heap.size 0 16 16 rfl F key (HK0.out _ HG1.out) y16 45 HB1.out m HM.out (by rw [HY16.out]; have := HM16.out; omega) ?_; intro w2 B2 g2 s2; rw [HSp.out, HS.out] at B2; have HB2 := hid B2; have HG2 := hid (HG1.out.andThen g2 (fun j hj => .inl (by injection hj with hj; omega))); have HZ2 := hid s2; clear B2 g2 s2)
    | (go_at_call 8; refine (copyR_any _ _ _ salt (HB2.out.rdn HS.out HSl.out) (by have := HSl.out; omega)).mono ?_; rintro e w3 ⟨v3, rfl, hO3, hg3⟩; have HO3 := hid hO3; have HG3 := hid hg3; clear hO3 hg3))
  obtain ⟨p5, hp5⟩ : ∃ x, w.heap.size = x := ⟨_, rfl⟩
  rw [hp5] at HB2 ⊢
  have HP5 : Hid (p5 = w.heap.size) := hid hp5.symm
  obtain ⟨C, hC⟩ : ∃ x, w2.heap.size = x := ⟨_, rfl⟩
  rw [hC] at HO3
  have HCp : Hid (p5 < C) := hid (by rw [← hC, ← hp5]; have := HZ1.out; have := HZ2.out; omega)
  have HB3 := hid (HB2.out.keep HG3.out)
  have HGw := hid (gtrans HG2.out HG3.out)
  have HC3 : Hid (C ≤ w3.heap.size) := hid (by rw [← hC]; exact HG3.out.size)
  have HO4 : Hid (Out C w3 v3 (salt ++ (be n 8).take 0)) := hid (by simpa using HO3.out)
  clear hp5 hC HB1 HG1 HZ1 HB2 HG2 HZ2 HO3 HG3 HSp HM HM16 HK0
  go_wp2_with fail
  go_loopw [6, 7] (fun lv iv wr => ∃ (j : Nat) (I : Int), j ≤ 8 ∧ iv = .int .i64 I ∧ Hid (I = 56 - 8 * (j : Int)) ∧ Hid (Out C wr lv (salt ++ (be n 8).take j)) ∧ Hid (Blk wr p5 S 45) ∧ Hid (w.grownBy wr none) ∧ Hid (C ≤ wr.heap.size)) (fun _ iv _ => (intOf iv + 8).toNat)
  case atStart => exact ⟨0, 56, by omega, rfl, hid (by omega), HO4, HB3, HGw, HC3⟩
  case round =>
    clear HO4 HB3 HGw HC3
    obtain ⟨j, I, hj, rfl, HI, HO, HB, HG, HCz⟩ := hrel
    by_cases h8 : j < 8
    · obtain ⟨s, hs⟩ : ∃ s, s = 7 - j := ⟨_, rfl⟩
      obtain ⟨X, hX⟩ : ∃ X : Nat, X = 8 * s := ⟨_, rfl⟩
      have eI : I = (X : Int) := by have := HI.out; omega
      have X0 : (X : Int) < 64 := by omega
      have X1 : (0 : Int) ≤ (X : Int) := by omega
      obtain ⟨c, HC⟩ : ∃ c : UInt8, Hid (UInt8.ofNat (n / 256 ^ s) = c) := ⟨_, hid rfl⟩
      have hc : (n : Int) / 2 ^ X % 256 = (c.toNat : Int) := by rw [← HC.out, hX]; exact byte_int n s
      have HBt : Hid ((be n 8).take (j + 1) = (be n 8).take j ++ [c]) := hid (by rw [be_take n j h8, ← hs, HC.out])
      have hNb : (n : Int) ≤ 262144 := by have := HTl.out; omega
      have hI8 : I - 8 = 56 - 8 * ((j + 1 : Nat) : Int) := by have := HI.out; omega
      have HI8 := hid hI8
      subst eI
      clear hX hI8
      go_wp2_with (at_builtin; refine wpList_append_byteW rfl _ _ rfl C wr.heap.size _ c (HO.out.keep (galloc wr _ none)) rfl (litL wr _) (by rw [List.length_append, List.length_take, HSl.out]; omega) (by have := HCz.out; simp; omega) ?_; intro v4 w4 hO4 hg4)
      have hge : wr.grownBy w4 _ := gtrans (galloc wr _ _) hg4
      refine ⟨⟨j + 1, _, by omega, rfl, HI8, hid (by rw [HBt.out, ← List.append_assoc]; exact hO4), hid (HB.out.on hge (fun e => by have := HO.out.block _ e; have := HCp.out; omega)), hid (HG.out.andThen hge (fun q hq => .inl (by have := HO.out.block q hq; have := HP5.out; have := HCp.out; omega))), hid (Nat.le_trans HCz.out hge.size)⟩, ?_⟩
      simp only [intOf]
      omega
    · obtain rfl : j = 8 := by omega
      have eI : I = -8 := by have := HI.out; omega
      subst eI
      have hfull : (be n 8).take 8 = be n 8 := List.take_of_length_le (by rw [be_len]; exact Nat.le_refl _)
      rw [hfull] at HO
      obtain ⟨wo, hwo⟩ : ∃ x, x = wr := ⟨_, rfl⟩
      subst hwo
      have HPL : Hid (∀ k, (Lib.byteCells (passN salt t k)).length = 32) := hid (fun k => by rw [byteCells_length, passN_length])
      have HP1 : Hid (sumL (salt ++ be n 8 ++ t) = passN salt t 0) := hid (by unfold passN pass1; rw [HN.out])
      have HTn : Hid (t.length = n) := HN
      go_upto_region 9 with (first
        | (at_builtin; refine wpList_append_rdW rfl _ _ rfl C _ (salt ++ be n 8) t HO.out (HTr.out _ HG.out) (by rw [List.length_append, be_len, HSl.out, HTn.out]; have := HTl.out; omega) HCz.out ?_; intro v5 w5 hO5 hg5 _; have HO5 := hid hO5; have HG5 := hid (HG.out.andThen hg5 (fun q hq => .inl (by have := HO.out.block q hq; have := HP5.out; have := HCp.out; omega))); have HB5 := hid (HB.out.on hg5 (fun e => by have := HO.out.block _ e; have := HCp.out; omega)); clear hO5 hg5)
        | (go_at_call 9; (refine (dsum_any _ _ _ _ HO5.out.rd (HGl.out _ HG5.out) (by rw [List.length_append, List.length_append, be_len, HSl.out, HTn.out]; have := HTl.out; omega)).mono ?_); rw [HP1.out]; rintro e w6 ⟨rfl, hg6⟩; have HG6 := hid (gtrans HG5.out hg6); have HB6 := hid (HB5.out.keep hg6); clear hg6)
        | (refine wpList_alloc_row rfl 26 rfl y32 Tryd.zero26 ?_; intro w7 B7 s7 g7; have HD7 := hid B7; have HG7 := hid (gtrans HG6.out g7); have HB7 := hid (HB6.out.keep g7); clear B7 g7 s7)
        | (refine wpList_store_all rfl 26 _ _ rfl w6.heap.size y32 (Lib.byteCells (passN salt t 0)) 26 rfl rfl HD7.out (by rw [HPL.out]; rfl) (by rw [HPL.out]; exact Tryd.size26) (bcs_one _) ?_; intro w8 B8 g8 s8; have HD8 := hid B8; have HG8 := hid (HG7.out.andThen g8 (fun j hj => .inl (by injection hj with hj; have := HG6.out.size; omega))); have HB8 := hid (HB7.out.on g8 (fun e => by have e' : w6.heap.size = p5 := Option.some.inj e; have := HB6.out.lt; omega)); clear B8 g8 s8))
      obtain ⟨p8, hp8⟩ : ∃ x, w6.heap.size = x := ⟨_, rfl⟩
      rw [hp8] at HD8 ⊢
      have HNp : Hid (p5 ≠ p8 ∧ w.heap.size ≤ p8) := hid ⟨by have := HB6.out.lt; omega, by rw [← hp8]; exact HG6.out.size⟩
      clear hp8 HO HB HG HCz HO5 HG5 HB5 HG6 HB6 HD7 HG7 HB7 hfull HP1
      go_wp2_with fail
      go_loopw [9] (fun iv wr => ∃ k : Nat, k ≤ 4 ∧ iv = .int .i64 ((k + 1 : Nat) : Int) ∧ Hid (Blk wr p8 (Lib.byteCells (passN salt t k)) 26) ∧ Hid (Blk wr p5 S 45) ∧ Hid (w.grownBy wr none)) (fun iv _ => 6 - (intOf iv).toNat)
      case atStart => exact ⟨0, by omega, rfl, HD8, HB8, HG8⟩
      case round =>
        clear HD8 HB8 HG8
        obtain ⟨k, hk, rfl, HK8, HK5, HW⟩ := hrel
        obtain ⟨K1, hK1⟩ : ∃ K1, k + 1 = K1 := ⟨_, rfl⟩
        rw [hK1]
        have HK1 := hid hK1
        by_cases hlt : k < 4
        · have hlt' : (K1 : Int) ≤ 4 := by omega
          clear hK1
          obtain ⟨D, HD⟩ : ∃ D, Hid (passN salt t k = D) := ⟨_, hid rfl⟩
          obtain ⟨E, HE⟩ : ∃ D, Hid (passN salt t (k + 1) = D) := ⟨_, hid rfl⟩
          have HPs : Hid (sumL (D ++ salt) = E) := hid (by rw [← HE.out, ← HD.out]; rfl)
          have HDn : Hid (D.length = 32) := hid (by rw [← HD.out]; exact passN_length _ _ _)
          have HEn : Hid (E.length = 32) := hid (by rw [← HE.out]; exact passN_length _ _ _)
          obtain ⟨CD, HCD⟩ : ∃ x, Hid (Lib.byteCells D = x) := ⟨_, hid rfl⟩
          have HCDl : Hid (CD.length = 32) := hid (by rw [← HCD.out, byteCells_length]; exact HDn.out)
          have HCD1 : Hid (∀ v ∈ CD, v.oneCell' = true) := hid (by rw [← HCD.out]; exact bcs_one _)
          have HEl : Hid ((Lib.byteCells E).length = 32) := hid (by rw [byteCells_length]; exact HEn.out)
          rw [HD.out, HCD.out] at HK8
          have hcv := (HTr.out _ HW.out).convert
          obtain ⟨sT, HsT⟩ : ∃ s, Hid ((⟨t.toArray⟩ : ByteArray) = s) := ⟨_, hid rfl⟩
          rw [HsT.out] at hcv
          have HPa : Hid (∀ u, w.grownBy u none → Calls Tryd.prog 18 #[.agg S.toArray, .string sT, .int .i64 (K1 : Nat)] u fun e w' => e = .returned (.tuple #[.agg CD.toArray, .int .i64 0]) ∧ u.grownBy w' none) := fun u hu => by
            have := pass_ok u salt sT K1 (by have := HK1.out; omega) (by have := HK1.out; omega) HSl.out (HGl.out u hu) (by rw [← HsT.out]; show t.toArray.size < _; rw [List.size_toArray, HTn.out]; have := HTl.out; omega)
            rw [← HsT.out, ← HK1.out, Nat.add_sub_cancel, List.toList_toArray, HD.out, HCD.out, HS.out, HsT.out] at this
            rw [← HK1.out]
            exact this
          have HNe : Hid (∀ (x y : Operand) (u : World), (do eqGuard .neq 26 x y (.agg CD.toArray) (.agg CD.toArray); binOp .neq 26 (.agg CD.toArray) (.agg CD.toArray) : Sem Value).run Tryd.prog u = .ok (.bool false) u) := fun x y u => by
            rw [← HCD.out, neqG_32]
            exact neq_self _ HDn.out u
          go_upto_region 13 with (first
            | (refine wpList_load_part rfl 45 _ rfl p5 0 S _ rfl HK5.out.whole Tryd.underlying45 rfl (by rw [HSL.out]; exact Tryd.size45) ?_)
            | (go_at_call 18; (with_reducible refine (HPa.out _ HW.out).mono ?_); rintro e q1 ⟨rfl, hg1⟩; have HG1 := hid hg1; clear hg1)
            | (refine wpList_alloc_row rfl 26 rfl y32 Tryd.zero26 ?_; intro q2 B2 s2 g2; have HD2 := hid B2; have HG2 := hid (gtrans HG1.out g2); clear B2 g2 s2)
            | (refine wpList_store_all rfl 26 _ _ rfl q1.heap.size y32 CD 26 rfl rfl HD2.out (by rw [HCDl.out]; rfl) (by rw [HCDl.out]; exact Tryd.size26) HCD1.out ?_; intro wd B3 g3 s3; have HD3 := hid B3; have HG3 := hid (HG2.out.andThen g3 (fun j hj => .inl (by injection hj with hj; have := HG1.out.size; omega))); clear B3 g3 s3))
          obtain ⟨p10, hp10⟩ : ∃ x, q1.heap.size = x := ⟨_, rfl⟩
          rw [hp10] at HD3 ⊢
          have HNp2 : Hid (p10 ≠ p8) := hid (fun e => by rw [← hp10] at e; have := HK8.out.lt; have := HG1.out.size; omega)
          have HW3 := hid (gtrans HW.out HG3.out)
          have HK83 := hid (HK8.out.keep HG3.out)
          have HK53 := hid (HK5.out.keep HG3.out)
          clear hp10 HD2 HG2 HG1 HG3 hcv HPa HK8 HK5 HW
          go_upto_region 15 with (first
            | (go_at_call 19; refine (HNum.out _).mono ?_; rintro e w' ⟨rfl, hw⟩; have hw' := hw.symm; clear hw; subst hw')
            | (with_reducible refine wpList_load_partW (by with_unfolding_all rfl) 26 _ (by with_unfolding_all rfl) p10 0 CD _ (by with_unfolding_all rfl) HD3.out.whole Tryd.underlying26 (by with_unfolding_all rfl) (by rw [HCDl.out]; exact Tryd.size26) ?_)
            | (with_reducible refine wpList_load_partW (by with_unfolding_all rfl) 26 _ (by with_unfolding_all rfl) p8 0 CD _ (by with_unfolding_all rfl) HK83.out.whole Tryd.underlying26 (by with_unfolding_all rfl) (by rw [HCDl.out]; exact Tryd.size26) ?_)
            | (with_reducible refine wpList_binW (by with_unfolding_all rfl) .neq 26 _ _ _ (by with_unfolding_all rfl) _ _ _ (by with_unfolding_all rfl) (by with_unfolding_all rfl) (HNe.out _ _ _) ?_))
          have HCp : Hid (∀ u, wd.grownBy u none → Calls Tryd.prog 8 #[.slice (some ⟨p10, 0, none⟩) 32 32] u fun e w' => ∃ v', e = .returned v' ∧ Out u.heap.size w' v' D ∧ u.grownBy w' none) := fun u hu => copyR_any u _ _ D ((HD3.out.keep hu).rdn HCD.out HDn.out) (by rw [HDn.out]; decide)
          have HRs : Hid (∀ u, wd.grownBy u none → Rd u (fun g => g = p5) (.slice (some ⟨p5, 0, none⟩) 16 16) salt) := fun u hu => (HK53.out.keep hu).rdn HS.out HSl.out
          have HSm : Hid (∀ (u : World) (v : Value) (B : Nat), wd.grownBy u none → Out B u v (D ++ salt) → Calls Tryd.prog 9 #[v] u fun e w' => e = .returned (.agg (Lib.byteCells E).toArray) ∧ u.grownBy w' none) := fun u v B hu h => by
            rw [← HPs.out]
            exact dsum_any u _ _ _ h.rd (HGl.out u (gtrans HW3.out hu)) (by rw [List.length_append, HDn.out, HSl.out]; decide)
          refine wp_region_list (by kernel_rfl) [fun v _ => v = (Value.slice (some ⟨p10, 0, none⟩) 32 32), fun v u => ∃ x, v = x ∧ Out wd.heap.size u x D, fun v _ => v = (Value.slice (some ⟨p5, 0, none⟩) 16 16)] (none) (fun _ => none) 3 (by kernel_rfl) (by kernel_rfl) (by kernel_rfl) (by kernel_rfl) (by decide) noRow_one (fun _ => .inl rfl) ⟨fun i v u u' hki h hg => h, fun i v u u' hki h hg => (by obtain ⟨x, rfl, h1⟩ := h; exact ⟨_, rfl, h1.keep hg⟩), fun i v u u' hki h hg => h, trivial⟩ ⟨?_, ?_, ?_, trivial⟩ ?_
          · intro A u hu hpu hsz hout hdeps
            have e10 : A.eval (.tmp 10) = (.pointer (some ⟨p10, 0, none⟩)) := (hout 10 (by kernel_rfl)).trans rfl
            refine ifw_none rfl ?_
            with_reducible refine shown_q (Value.slice (some ⟨p10, 0, none⟩) 32 32) ?qq_1_0 (fun _ _ => ?qr_1_0)
            case qr_1_0 => exact (rfl : (Value.slice (some ⟨p10, 0, none⟩) 32 32) = (Value.slice (some ⟨p10, 0, none⟩) 32 32))
            with_reducible refine quietAt_slice0 26 (.tmp 10) (Value.pointer (some ⟨p10, 0, none⟩)) (Value.slice (some ⟨p10, 0, none⟩) 32 32) ?h0_1_0 ?h1_1_0 ?h2_1_0
            case h0_1_0 => rfl
            case h1_1_0 => exact e10
            case h2_1_0 => exact (arr24 p10 u)
          · intro A u hu hpu hsz hout hdeps
            have e55 : A.eval (.tmp 55) = (.slice (some ⟨p10, 0, none⟩) 32 32) := by have h := depL hdeps 0 (by kernel_rfl) 55 (by kernel_rfl); exact h
            refine ifw_none rfl ?_
            with_reducible refine shown_call 8 Tryd.f8 ?h0_1_1 ?h1_1_1 ?h2_1_1 #[.tmp 55] #[25] ?h3_1_1 #[(Value.slice (some ⟨p10, 0, none⟩) 32 32)] ?h4_1_1 ?h5_1_1
            case h0_1_1 => exact Tryd.func8
            case h1_1_1 => kernel_rfl
            case h2_1_1 => kernel_rfl
            case h3_1_1 => rfl
            case h4_1_1 => exact map1 _ _ _ e55
            case h5_1_1 => exact (HCp.out u hu).mono fun e w' ⟨v', he, ho, hg⟩ => ⟨v', he, hg, v', rfl, ho.below hu.size⟩
          · intro A u hu hpu hsz hout hdeps
            have e5 : A.eval (.tmp 5) = (.pointer (some ⟨p5, 0, none⟩)) := (hout 5 (by kernel_rfl)).trans rfl
            refine ifw_none rfl ?_
            with_reducible refine shown_q (Value.slice (some ⟨p5, 0, none⟩) 16 16) ?qq_1_2 (fun _ _ => ?qr_1_2)
            case qr_1_2 => exact (rfl : (Value.slice (some ⟨p5, 0, none⟩) 16 16) = (Value.slice (some ⟨p5, 0, none⟩) 16 16))
            with_reducible refine quietAt_slice0 45 (.tmp 5) (Value.pointer (some ⟨p5, 0, none⟩)) (Value.slice (some ⟨p5, 0, none⟩) 16 16) ?h0_1_2 ?h1_1_2 ?h2_1_2
            case h0_1_2 => rfl
            case h1_1_2 => exact e5
            case h2_1_2 => exact (arr53 p5 u)
          · intro A u3 listed hh hall
            have hA := hh.frame
            have HU := hid hh.grown
            obtain ⟨x55, hx55⟩ : ∃ x, A.eval (.tmp 55) = x := ⟨_, rfl⟩
            have f55 : (fun v _ => v = (Value.slice (some ⟨p10, 0, none⟩) 32 32)) x55 u3 := by rw [← hx55]; exact hh.got 0 _ 55 rfl rfl (hall 0 (by decide))
            obtain ⟨x56, hx56⟩ : ∃ x, A.eval (.tmp 56) = x := ⟨_, rfl⟩
            have f56 : (fun v u => ∃ x, v = x ∧ Out wd.heap.size u x D) x56 u3 := by rw [← hx56]; exact hh.got 1 _ 56 rfl rfl (hall 1 (by decide))
            obtain ⟨x57, hx57⟩ : ∃ x, A.eval (.tmp 57) = x := ⟨_, rfl⟩
            have f57 : (fun v _ => v = (Value.slice (some ⟨p5, 0, none⟩) 16 16)) x57 u3 := by rw [← hx57]; exact hh.got 2 _ 57 rfl rfl (hall 2 (by decide))
            obtain ⟨x58, hx58⟩ : ∃ x, A.eval (.tmp 58) = x := ⟨_, rfl⟩
            obtain ⟨x59, hx59⟩ : ∃ x, A.eval (.tmp 59) = x := ⟨_, rfl⟩
            dsimp only [wrote, List.foldl] at hA
            rw [hx55, hx56, hx57, hx58, hx59] at hA
            clear hh hall hx55 hx56 hx57 hx58 hx59
            replace f55 := (f55 : x55 = (.slice (some ⟨p10, 0, none⟩) 32 32))
            subst f55
            obtain ⟨v35, e56, HO35⟩ := f56
            subst e56
            replace f57 := (f57 : x57 = (.slice (some ⟨p5, 0, none⟩) 16 16))
            subst f57
            subst hA
            show wpList _ _ _ [_, _, _] _ _
            simp only [Act.put, List.setIfInBounds_toArray, List.set_cons_succ, List.set_cons_zero]
            have HT3 := hid HU.out
            have HO3 := hid HO35
            clear HU HO35
            go_wp2_with (first
              | (refine wpList_append_rdW rfl _ _ rfl wd.heap.size _ D salt HO3.out (HRs.out _ HT3.out) (by rw [HDn.out, HSl.out]; decide) HT3.out.size ?_; intro v5 u5 hO5 hg5 _; have HO5 := hid hO5; have HT5 := hid (HT3.out.andThen hg5 (fun j hj => .inl (HO3.out.block j hj))); clear hO5 hg5)
              | (go_at_call 9; (refine (HSm.out _ _ _ HT5.out HO5.out).mono ?_); rintro e u6 ⟨rfl, hg6⟩; have HT6 := hid (gtrans HT5.out hg6); clear hg6)
              | (refine wpList_store_all rfl 26 _ _ rfl p8 CD (Lib.byteCells E) 26 rfl rfl (HK83.out.keep HT6.out) (by rw [HEl.out, HCDl.out]) (by rw [HEl.out]; exact Tryd.size26) (bcs_one _) ?_; intro u7 B7 g7 s7; have HB7 := hid B7; have HG7 := hid g7; clear B7 g7 s7))
            go_roundw
            case rel => exact ⟨k + 1, by omega, by rw [← HK1.out]; go_num, hid (by rw [HE.out]; exact HB7.out), hid ((HK53.out.keep HT6.out).on HG7.out (by simp; exact fun e => HNp.out.1 e.symm)), hid ((gtrans HW3.out HT6.out).andThen HG7.out (fun j hj => .inl (by injection hj with hj; have := HNp.out; omega)))⟩
            case measure => simp [intOf]; have := HK1.out; omega
        · have hge : ¬ (K1 : Int) ≤ 4 := by omega
          clear hK1
          go_wp2_with fail
          go_ret
          exact ⟨rfl, HW.out⟩
end Go.Proofs.YtmiojplbcjhggabDoor
