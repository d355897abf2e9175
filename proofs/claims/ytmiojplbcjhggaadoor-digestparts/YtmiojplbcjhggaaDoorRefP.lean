/- The reference's Pass. -/
import Derived.Test.YtmiojplbcjhggaaDoorRefM
import Derived.Test.YtmiojplbcjhggaaDoorGrow2
namespace Go.Proofs.YtmiojplbcjhggaaDoor
open Go Go.RowKit
open Go.RowKit (wrap32 wrap64)

theorem Blk.rdn {w : World} {b n : Nat} {S : List Value} {l : List UInt8} {t : TypeId} (h : Blk w b S t) (hS : Lib.byteCells l = S) (hl : l.length = n) : Rd w (fun k => k = b) (.slice (some ⟨b, 0, none⟩) n n) l := by
  subst hS
  refine ⟨_, b, 0, n, by rw [hl], by rw [hl]; exact Nat.le_refl _, (fun h => by cases h), fun _ => ⟨rfl, h.lt, rfl⟩, fun i hi => ?_⟩
  rw [Nat.zero_add, h.cell i]
  simp [Lib.byteCells, List.getElem?_eq_getElem hi]

theorem quietAt_slice0 {P : Program} {C : World → Prop} {o : Oper} {a : Act} {u : World} (t : TypeId) (x : Operand) (vx v : Value) (ho : o.op = .slice t x none none none) (hx : a.eval x = vx) (hr : (Instr.sliceAt t vx none none none).run P u = .ok v u) : o.quietAt P a C u v := by
  subst hx
  unfold Oper.quietAt execOp
  simp only [ho, Option.map_none]
  rw [Sem.run_bind, hr]
  exact ⟨rfl, rfl⟩
theorem arr24 (b : Nat) (u : World) : (Instr.sliceAt 24 (.pointer (some ⟨b, 0, none⟩)) none none none).run Tryd.prog u = .ok (.slice (some ⟨b, 0, none⟩) 32 32) u := by
  go_simp
theorem arr53 (b : Nat) (u : World) : (Instr.sliceAt 53 (.pointer (some ⟨b, 0, none⟩)) none none none).run Tryd.prog u = .ok (.slice (some ⟨b, 0, none⟩) 16 16) u := by
  go_simp

set_option maxRecDepth 100000 in
set_option maxHeartbeats 800000 in
theorem passR_no (w : World) (salt : List UInt8) (s : ByteArray) (r : Int) (hr : r < 1 ∨ 4096 < r) :
    Calls Tryd.prog 26 #[.agg (Lib.byteCells salt).toArray, .string s, .int .i64 r] w fun e w' => e = .returned (.tuple #[.agg y32.toArray, .int .i64 40]) ∧ w.grownBy w' none := by
  obtain ⟨cs, HCS⟩ : ∃ cs, Hid (Lib.byteCells salt = cs) := ⟨_, hid rfl⟩
  rw [HCS.out]
  by_cases h1 : r < 1
  · clear hr
    go_enter Tryd.func26, Tryd.ntmps26
    go_wp2_with (first
      | (refine wpList_box_row rfl 53 _ rfl cs rfl ?_; intro w1 B1 s1 g1; have HG1 := hid g1; have HS1 := hid s1; clear B1 g1 s1)
      | (refine wpList_alloc_row rfl 24 rfl y32 Tryd.zero24 ?_; intro w2 B2 s2 g2; have HB2 := hid B2; have HG2 := hid g2; clear B2 g2 s2)
      | (refine wpList_build_row rfl 24 rfl y32 Tryd.built24 ?_)
      | (refine wpList_store_all rfl 24 _ _ rfl _ y32 y32 24 rfl rfl HB2.out rfl Tryd.size24 one_y32 ?_; intro w3 B3 g3 s3; have HB3 := hid B3; have HG3 := hid g3; clear B3 g3 s3))
    refine bodyPost_ret (results_blk_tmp rfl _ w1.heap.size 24 y32 _ (.int .i64 40) rfl rfl HB3.out Tryd.underlying24 rfl Tryd.size24) rfl ?_
    exact ⟨rfl, (gtrans HG1.out HG2.out).andThen HG3.out (fun j hj => .inl (by injection hj with hj; have := HS1.out; omega))⟩
  · have h2 : 4096 < r := by omega
    clear hr
    go_enter Tryd.func26, Tryd.ntmps26
    go_wp2_with (first
      | (refine wpList_box_row rfl 53 _ rfl cs rfl ?_; intro w1 B1 s1 g1; have HG1 := hid g1; have HS1 := hid s1; clear B1 g1 s1)
      | (refine wpList_alloc_row rfl 24 rfl y32 Tryd.zero24 ?_; intro w2 B2 s2 g2; have HB2 := hid B2; have HG2 := hid g2; clear B2 g2 s2)
      | (refine wpList_build_row rfl 24 rfl y32 Tryd.built24 ?_)
      | (refine wpList_store_all rfl 24 _ _ rfl _ y32 y32 24 rfl rfl HB2.out rfl Tryd.size24 one_y32 ?_; intro w3 B3 g3 s3; have HB3 := hid B3; have HG3 := hid g3; clear B3 g3 s3))
    refine bodyPost_ret (results_blk_tmp rfl _ w1.heap.size 24 y32 _ (.int .i64 40) rfl rfl HB3.out Tryd.underlying24 rfl Tryd.size24) rfl ?_
    exact ⟨rfl, (gtrans HG1.out HG2.out).andThen HG3.out (fun j hj => .inl (by injection hj with hj; have := HS1.out; omega))⟩

set_option maxRecDepth 100000 in
set_option maxHeartbeats 800000 in
theorem passR_ok (w : World) (salt : List UInt8) (s : ByteArray) (r : Nat) (h1 : 1 ≤ r) (h2 : r ≤ 4096) (hs : salt.length = 16) (hn : s.size ≤ 1048576) :
    Calls Tryd.prog 26 #[.agg (Lib.byteCells salt).toArray, .string s, .int .i64 r] w fun e w' => e = .returned (.tuple #[.agg (Lib.byteCells (passN salt s.data.toList (r - 1))).toArray, .int .i64 0]) ∧ w.grownBy w' none := by
  obtain ⟨cs, HCS⟩ : ∃ cs, Hid (Lib.byteCells salt = cs) := ⟨_, hid rfl⟩
  obtain ⟨x, HXe⟩ : ∃ x, Hid (s.data.toList = x) := ⟨_, hid rfl⟩
  obtain ⟨R, HR⟩ : ∃ R, Hid (Lib.byteCells (passN salt x (r - 1)) = R) := ⟨_, hid rfl⟩
  have HRL : Hid (R.length = 32) := hid (by rw [← HR.out, byteCells_length, passN_length])
  have HR1 : Hid (∀ v ∈ R, v.oneCell' = true) := hid (by rw [← HR.out]; exact bcs_one _)
  have HPL : Hid (∀ k, (Lib.byteCells (passN salt x k)).length = 32) := hid (fun k => by rw [byteCells_length, passN_length])
  obtain ⟨N, HN⟩ : ∃ N, Hid (s.size = N) := ⟨_, hid rfl⟩
  have hNs : s.size = N := HN.out
  have hXl : x.length = N := by rw [← HXe.out, ← HN.out]; exact Array.length_toList
  have HXl := hid hXl
  have HNn : Hid (N ≤ 1048576) := hid (by rw [← HN.out]; exact hn)
  have hNb : (N : Int) ≤ 1048576 := by have := HNn.out; omega
  have HSl := hid hs
  have b1 : ¬ (r : Int) < 1 := by omega
  have b2 : ¬ (4096 : Int) < (r : Int) := by omega
  have HR0 := hid h1
  have HR2 := hid h2
  rw [HCS.out, HXe.out, HR.out]
  obtain ⟨inf, hi, hz0, hz1, hz2⟩ := info_parts Tryd.info5
  have hstr : Lib.strCells s = Lib.byteCells s.data.toList := rfl
  rw [HXe.out] at hstr
  have HStr := hid hstr
  have HP1 : Hid (sumL (salt ++ be N 8 ++ x) = passN salt x 0) := hid (by unfold passN pass1; rw [hXl])
  clear hs hn h1 h2 hXl hstr
  go_enter Tryd.func26, Tryd.ntmps26
  go_wp2_with (first
    | (refine wpList_box_row rfl 53 _ rfl cs rfl ?_; intro w1 B1 s1 g1; have HB1 := hid B1; have HG1 := hid g1; have HS1 := hid s1; clear B1 g1 s1)
    | (have := HB2; clear this; refine wpList_alloc_row rfl 24 rfl y32 Tryd.zero24 ?_; intro w7 B7 s7 g7; have HB7 := hid B7; have HG7 := hid g7; have HS7 := hid s7; clear B7 g7 s7)
    | (refine wpList_alloc_row rfl 24 rfl y32 Tryd.zero24 ?_; intro w2 B2 s2 g2; have HB2 := hid B2; have HG2 := hid g2; have HS2 := hid s2; clear B2 g2 s2; have HB12 := hid (HB1.out.keep HG2.out); have HGa := hid (gtrans HG1.out HG2.out))
    | (go_at_call 30; (refine (copyR_any _ _ (fun k => k = w.heap.size) salt (HB12.out.rdn HCS.out HSl.out) (by have := HSl.out; omega)).mono ?_); rintro e w3 ⟨v3, rfl, hO3, hg3⟩; have HO3 := hid hO3; have HG3 := hid hg3; clear hO3 hg3)
    | (go_at_call 31; (refine (numberR_any _ N (by have := HNn.out; omega)).mono ?_); rintro e w4 ⟨v4, rfl, hO4, hg4⟩; have HO4 := hid hO4; have HG4 := hid hg4; clear hO4 hg4)
    | (at_builtin; refine wpList_append_rdW rfl _ _ rfl w2.heap.size _ salt (be N 8) (HO3.out.keep HG4.out) HO4.out.rd (by rw [be_len, HSl.out]; decide) (by have := HG3.out.size; have := HG4.out.size; omega) ?_; intro v5 w5 hO5 hg5 _; have HO5 := hid hO5; have HG5 := hid hg5; have HZ5 : Hid (w2.heap.size ≤ w5.heap.size) := hid (by have := HG3.out.size; have := HG4.out.size; have := hg5.size; omega); clear hO5 hg5)
    | (at_builtin; refine Lib.wpList_append_own_string _ rfl _ _ 23 9 rfl w2.heap.size 5 inf Tryd.underlying23 Tryd.underlying9 hi hz0 hz1 hz2 _ _ _ rfl HO5.out s rfl (by rw [List.length_append, be_len, HSl.out]; unfold maxLen; have := HNn.out; omega) (by rw [List.length_append, be_len, HSl.out]; have := HNn.out; omega) HZ5.out ?_; intro v6 w6 hO6 hg6 _; have HO6 : Hid (Out w2.heap.size w6 v6 (salt ++ be N 8 ++ x)) := hid (Out.more hO6 (by rw [HXl.out, HN.out]) (by rw [HStr.out])); have HG6 := hid hg6; clear hO6 hg6)
    | (go_at_call 9; (refine (sumR_any _ _ _ _ HO6.out.rd (by rw [List.length_append, List.length_append, be_len, HSl.out, HXl.out]; have := HNn.out; omega)).mono ?_); rw [HP1.out]; rintro e w8 ⟨rfl, hg8⟩; have HG8 := hid hg8; clear hg8)
    | (refine wpList_store_all rfl 24 _ _ rfl _ y32 (Lib.byteCells (passN salt x 0)) 24 rfl rfl HB7.out (by rw [HPL.out]; rfl) (by rw [HPL.out]; exact Tryd.size24) (bcs_one _) ?_; intro w9 B9 g9 s9; have HB9 := hid B9; have HG9 := hid g9; have HS9 := hid s9; clear B9 g9 s9))
  obtain ⟨p1, hp1⟩ : ∃ p1, p1 = w.heap.size := ⟨_, rfl⟩
  obtain ⟨p2, hp2⟩ : ∃ p2, p2 = w1.heap.size := ⟨_, rfl⟩
  obtain ⟨p3, hp3⟩ : ∃ p3, p3 = w8.heap.size := ⟨_, rfl⟩
  rw [← hp1, ← hp2, ← hp3]
  rw [← hp1] at HB12
  rw [← hp2] at HB2
  rw [← hp3] at HB9 HG9
  have HG26 : Hid (w2.grownBy w6 none) := hid (((gtrans HG3.out HG4.out).andThen HG5.out (fun j hj => .inl (HO3.out.block j hj))).andThen HG6.out (fun j hj => .inl (HO5.out.block j hj)))
  have HNp := hid (show p1 ≠ p3 ∧ p2 ≠ p3 ∧ w.heap.size ≤ p3 ∧ w.heap.size ≤ p2 by have := HS1.out; have := HS2.out; have := HG26.out.size; have := HG8.out.size; omega)
  have HG28 := hid (gtrans (gtrans HG26.out HG8.out) HG7.out)
  have HGb := hid ((gtrans HGa.out HG28.out).andThen HG9.out (fun j hj => .inl (by injection hj with hj; have := HNp.out; omega)))
  have HB15 := hid ((HB12.out.keep HG28.out).on HG9.out (by simp; exact fun e => HNp.out.1 e.symm))
  have HB25 := hid ((HB2.out.keep HG28.out).on HG9.out (by simp; exact fun e => HNp.out.2.1 e.symm))
  obtain ⟨r1, hr1⟩ : ∃ r1, r = r1 + 1 := ⟨r - 1, by have := HR0.out; omega⟩
  have HR1e := hid hr1
  clear hp1 hp2 hp3 HG1 HG2 HG3 HG4 HG5 HG6 HG7 HG8 HG9 HS1 HS2 HS7 HS9 HB1 HB2 HB7 HB12 HGa HO3 HO4 HO5 HO6 HG26 HG28 HZ5 hr1
  go_wp2_with fail
  go_loopw [10] (fun iv wr => ∃ k : Nat, k ≤ r1 ∧ iv = .int .i64 ((k + 1 : Nat) : Int) ∧ Hid (Blk wr p3 (Lib.byteCells (passN salt x k)) 24) ∧ Hid (Blk wr p1 cs 53) ∧ Hid (Blk wr p2 y32 24) ∧ Hid (w.grownBy wr none)) (fun iv _ => r1 + 1 - (intOf iv).toNat)
  case atStart => exact ⟨0, by omega, rfl, HB9, HB15, HB25, HGb⟩
  case round =>
    clear HB9 HB15 HB25 HGb
    obtain ⟨k, hk, rfl, HK3, HK1, HK2, HW⟩ := hrel
    obtain ⟨K1, hK1⟩ : ∃ K1, k + 1 = K1 := ⟨_, rfl⟩
    rw [hK1]
    by_cases hlt : k < r1
    · have hlt' : (K1 : Int) < (r : Int) := by have := HR1e.out; omega
      have hb4 : (K1 : Int) < 4096 := by have := HR1e.out; have := HR2.out; omega
      have HPs : Hid (sumL (passN salt x k ++ salt) = passN salt x (k + 1)) := hid rfl
      have HPk : Hid ((passN salt x k).length = 32) := hid (passN_length _ _ _)
      obtain ⟨D, HD⟩ : ∃ D, Hid (passN salt x k = D) := ⟨_, hid rfl⟩
      obtain ⟨E, HE⟩ : ∃ D, Hid (passN salt x (k + 1) = D) := ⟨_, hid rfl⟩
      rw [HD.out] at HK3 HPs HPk
      rw [HE.out] at HPs
      have HDl : Hid ((Lib.byteCells D).length = 32) := hid (by rw [byteCells_length]; exact HPk.out)
      have HEl : Hid ((Lib.byteCells E).length = 32) := hid (by rw [← HE.out]; exact HPL.out _)
      have HCp : Hid (∀ u, wr.grownBy u none → Calls Tryd.prog 30 #[.slice (some ⟨p3, 0, none⟩) 32 32] u fun e w' => ∃ v', e = .returned v' ∧ Out u.heap.size w' v' D ∧ u.grownBy w' none) := fun u hu => copyR_any u _ _ D ((HK3.out.keep hu).rdn rfl HPk.out) (by rw [HPk.out]; decide)
      have HRs : Hid (∀ u, wr.grownBy u none → Rd u (fun g => g = p1) (.slice (some ⟨p1, 0, none⟩) 16 16) salt) := fun u hu => (HK1.out.keep hu).rdn HCS.out HSl.out
      have HSm : Hid (∀ (u : World) (v : Value) (B : Nat), Out B u v (D ++ salt) → Calls Tryd.prog 9 #[v] u fun e w' => e = .returned (.agg (Lib.byteCells E).toArray) ∧ u.grownBy w' none) := fun u v B h => by
        rw [← HPs.out]
        exact sumR_any u _ _ _ h.rd (by rw [List.length_append, HPk.out, HSl.out]; decide)
      go_wp2_with fail
      refine wp_region_list (by kernel_rfl) [fun v _ => v = (Value.slice (some ⟨p3, 0, none⟩) 32 32), fun v u => ∃ x, v = x ∧ Out wr.heap.size u x D, fun v _ => v = (Value.slice (some ⟨p1, 0, none⟩) 16 16)] (none) (fun _ => none) 3 (by kernel_rfl) (by kernel_rfl) (by kernel_rfl) (by kernel_rfl) (by decide) noRow_one (fun _ => .inl rfl) ⟨fun i v u u' hki h hg => h, fun i v u u' hki h hg => (by obtain ⟨x, rfl, h1⟩ := h; exact ⟨_, rfl, h1.keep hg⟩), fun i v u u' hki h hg => h, trivial⟩ ⟨?_, ?_, ?_, trivial⟩ ?_
      · intro A u hu hpu hsz hout hdeps
        have e9 : A.eval (.tmp 9) = (.pointer (some ⟨p3, 0, none⟩)) := (hout 9 (by kernel_rfl)).trans rfl
        refine ifw_none rfl ?_
        with_reducible refine shown_q (Value.slice (some ⟨p3, 0, none⟩) 32 32) ?qq_1_0 (fun _ _ => ?qr_1_0)
        case qr_1_0 => exact (rfl : (Value.slice (some ⟨p3, 0, none⟩) 32 32) = (Value.slice (some ⟨p3, 0, none⟩) 32 32))
        with_reducible refine quietAt_slice0 24 (.tmp 9) (Value.pointer (some ⟨p3, 0, none⟩)) (Value.slice (some ⟨p3, 0, none⟩) 32 32) ?h0_1_0 ?h1_1_0 ?h2_1_0
        case h0_1_0 => rfl
        case h1_1_0 => exact e9
        case h2_1_0 => exact (arr24 p3 u)
      · intro A u hu hpu hsz hout hdeps
        have e34 : A.eval (.tmp 34) = (.slice (some ⟨p3, 0, none⟩) 32 32) := by have h := depL hdeps 0 (by kernel_rfl) 34 (by kernel_rfl); exact h
        refine ifw_none rfl ?_
        with_reducible refine shown_call 30 Tryd.f30 ?h0_1_1 ?h1_1_1 ?h2_1_1 #[.tmp 34] #[23] ?h3_1_1 #[(Value.slice (some ⟨p3, 0, none⟩) 32 32)] ?h4_1_1 ?h5_1_1
        case h0_1_1 => exact Tryd.func30
        case h1_1_1 => kernel_rfl
        case h2_1_1 => kernel_rfl
        case h3_1_1 => rfl
        case h4_1_1 => exact map1 _ _ _ e34
        case h5_1_1 => exact (HCp.out u hu).mono fun e w' ⟨v', he, ho, hg⟩ => ⟨v', he, hg, v', rfl, ho.below hu.size⟩
      · intro A u hu hpu hsz hout hdeps
        have e3 : A.eval (.tmp 3) = (.pointer (some ⟨p1, 0, none⟩)) := (hout 3 (by kernel_rfl)).trans rfl
        refine ifw_none rfl ?_
        with_reducible refine shown_q (Value.slice (some ⟨p1, 0, none⟩) 16 16) ?qq_1_2 (fun _ _ => ?qr_1_2)
        case qr_1_2 => exact (rfl : (Value.slice (some ⟨p1, 0, none⟩) 16 16) = (Value.slice (some ⟨p1, 0, none⟩) 16 16))
        with_reducible refine quietAt_slice0 53 (.tmp 3) (Value.pointer (some ⟨p1, 0, none⟩)) (Value.slice (some ⟨p1, 0, none⟩) 16 16) ?h0_1_2 ?h1_1_2 ?h2_1_2
        case h0_1_2 => rfl
        case h1_1_2 => exact e3
        case h2_1_2 => exact (arr53 p1 u)
      · intro A u3 listed hh hall
        have hA := hh.frame
        have HU := hid hh.grown
        obtain ⟨x34, hx34⟩ : ∃ x, A.eval (.tmp 34) = x := ⟨_, rfl⟩
        have f34 : (fun v _ => v = (Value.slice (some ⟨p3, 0, none⟩) 32 32)) x34 u3 := by rw [← hx34]; exact hh.got 0 _ 34 rfl rfl (hall 0 (by decide))
        obtain ⟨x35, hx35⟩ : ∃ x, A.eval (.tmp 35) = x := ⟨_, rfl⟩
        have f35 : (fun v u => ∃ x, v = x ∧ Out wr.heap.size u x D) x35 u3 := by rw [← hx35]; exact hh.got 1 _ 35 rfl rfl (hall 1 (by decide))
        obtain ⟨x36, hx36⟩ : ∃ x, A.eval (.tmp 36) = x := ⟨_, rfl⟩
        have f36 : (fun v _ => v = (Value.slice (some ⟨p1, 0, none⟩) 16 16)) x36 u3 := by rw [← hx36]; exact hh.got 2 _ 36 rfl rfl (hall 2 (by decide))
        obtain ⟨x37, hx37⟩ : ∃ x, A.eval (.tmp 37) = x := ⟨_, rfl⟩
        obtain ⟨x38, hx38⟩ : ∃ x, A.eval (.tmp 38) = x := ⟨_, rfl⟩
        dsimp only [wrote, List.foldl] at hA
        rw [hx34, hx35, hx36, hx37, hx38] at hA
        clear hh hall hx34 hx35 hx36 hx37 hx38
        replace f34 := (f34 : x34 = (.slice (some ⟨p3, 0, none⟩) 32 32))
        subst f34
        obtain ⟨v35, e35, HO35⟩ := f35
        subst e35
        replace f36 := (f36 : x36 = (.slice (some ⟨p1, 0, none⟩) 16 16))
        subst f36
        subst hA
        show wpList _ _ _ [_, _, _] _ _
        simp only [Act.put, List.setIfInBounds_toArray, List.set_cons_succ, List.set_cons_zero]
        have HT3 := hid HU.out
        have HO3 := hid HO35
        clear HU HO35
        go_wp2_with (first
          | (refine wpList_append_rdW rfl _ _ rfl wr.heap.size _ D salt HO3.out (HRs.out _ HT3.out) (by rw [HPk.out, HSl.out]; decide) HT3.out.size ?_; intro v5 u5 hO5 hg5 _; have HO5 := hid hO5; have HT5 := hid (HT3.out.andThen hg5 (fun j hj => .inl (HO3.out.block j hj))); clear hO5 hg5)
          | (go_at_call 9; (refine (HSm.out _ _ _ HO5.out).mono ?_); rintro e u6 ⟨rfl, hg6⟩; have HT6 := hid (gtrans HT5.out hg6); clear hg6)
          | (refine wpList_store_all rfl 24 _ _ rfl p3 (Lib.byteCells D) (Lib.byteCells E) 24 rfl rfl (HK3.out.keep HT6.out) (by rw [HEl.out, HDl.out]) (by rw [HEl.out]; exact Tryd.size24) (bcs_one _) ?_; intro u7 B7 g7 s7; have HB7 := hid B7; have HG7 := hid g7; clear B7 g7 s7))
        go_roundw
        case rel => exact ⟨k + 1, by omega, by go_num, hid (by rw [HE.out]; exact HB7.out), hid ((HK1.out.keep HT6.out).on HG7.out (by simp; exact fun e => HNp.out.1 e.symm)), hid ((HK2.out.keep HT6.out).on HG7.out (by simp; exact fun e => HNp.out.2.1 e.symm)), hid ((gtrans HW.out HT6.out).andThen HG7.out (fun j hj => .inl (by injection hj with hj; have := HNp.out; omega)))⟩
        case measure => simp [intOf]; omega
    · have hkr : k = r1 := by omega
      have HF : Hid (Blk wr p3 R 24) := hid (by rw [← HR.out, HR1e.out, Nat.add_sub_cancel, ← hkr]; exact HK3.out)
      have hlt' : ¬ (K1 : Int) < (r : Int) := by have := HR1e.out; omega
      clear hkr hlt
      go_wp2_with (first
        | (refine wpList_load_part rfl 24 _ rfl p3 0 R _ rfl HF.out.whole Tryd.underlying24 rfl (by rw [HRL.out]; exact Tryd.size24) ?_)
        | (refine wpList_store_all rfl 24 _ _ rfl _ y32 R 24 rfl rfl HK2.out (by rw [HRL.out]; rfl) (by rw [HRL.out]; exact Tryd.size24) HR1.out ?_; intro w7 B7 g7 s7; have HB7 := hid B7; have HG7 := hid g7; clear B7 g7 s7))
      refine bodyPost_ret (results_blk_tmp rfl _ p2 24 R _ (.int .i64 0) rfl rfl HB7.out Tryd.underlying24 rfl (by rw [HRL.out]; exact Tryd.size24)) rfl ?_
      exact ⟨rfl, HW.out.andThen HG7.out (fun j hj => .inl (by injection hj with hj; have := HNp.out; omega))⟩
end Go.Proofs.YtmiojplbcjhggaaDoor
