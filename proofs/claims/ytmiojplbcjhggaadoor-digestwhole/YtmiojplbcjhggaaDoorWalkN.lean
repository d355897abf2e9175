/- Pass; wakes. -/
import Derived.Test.YtmiojplbcjhggaaDoorWalkM
import Derived.Laws.ResultCell
import Derived.Lib.SlBytesConst
namespace Go.Proofs.YtmiojplbcjhggaaDoor
open Go Go.RowKit
open Go.RowKit (wrap32 wrap64)

theorem results_blk_tmp {P : Program} {w : World} {fn : Func} {p q : Tmp} {ty : TypeId} (h : fn.results = #[.cell p ty, .tmp q]) (tmps : Array Value) (b : Nat) (t : TypeId) (cs : List Value) (d : TypeDesc) (v : Value)
    (hp : tmps.getD p undef = .pointer (some ⟨b, 0, none⟩)) (hq : tmps.getD q undef = v) (hb : Blk w b cs t) (hu : P.underlying ty = some d) (hd : d.isRow = true) (hi : (P.info? ty).map (·.size) = some cs.length) :
    (results fn tmps).run P w = .ok (.tuple #[.agg cs.toArray, v]) w := by
  rw [results_cell_tmp h, hp, hq]
  have ha : (asAddr (.pointer (some ⟨b, 0, none⟩))).run P w = .ok ⟨b, 0, none⟩ w := rfl
  rw [ha, Result.andThen_ok, run_loadVar_mid w b 0 ty cs d hb.whole hu hd hi]
  rfl
set_option maxRecDepth 100000 in
set_option maxHeartbeats 800000 in
theorem pass_no (w : World) (salt : List UInt8) (s : ByteArray) (r : Int) (hr : r < 1 ∨ 4096 < r) :
    Calls Tryd.prog 27 #[.agg (Lib.byteCells salt).toArray, .string s, .int .i64 r] w fun e w' => e = .returned (.tuple #[.agg y32.toArray, .int .i64 40]) ∧ w.grownBy w' none := by
  obtain ⟨cs, HCS⟩ : ∃ cs, Hid (Lib.byteCells salt = cs) := ⟨_, hid rfl⟩
  rw [HCS.out]
  have hor : (decide (r < 1) || decide (4096 < r)) = true := by
    rcases hr with h | h
    · rw [decide_eq_true h]; rfl
    · rw [decide_eq_true h, Bool.or_true]
  by_cases h1 : r < 1
  · clear hr hor
    go_enter Tryd.func27, Tryd.ntmps27
    go_wp2_with (first
      | (refine wpList_box_row rfl 53 _ rfl cs rfl ?_; intro w1 B1 s1 g1; have HG1 := hid g1; have HS1 := hid s1; clear B1 g1 s1)
      | (refine wpList_alloc_row rfl 24 rfl y32 Tryd.zero24 ?_; intro w2 B2 s2 g2; have HB2 := hid B2; have HG2 := hid g2; clear B2 g2 s2)
      | (refine wpList_build_row rfl 24 rfl y32 Tryd.built24 ?_)
      | (refine wpList_store_all rfl 24 _ _ rfl _ y32 y32 24 rfl rfl HB2.out rfl Tryd.size24 one_y32 ?_; intro w3 B3 g3 s3; have HB3 := hid B3; have HG3 := hid g3; clear B3 g3 s3))
    refine bodyPost_ret (results_blk_tmp rfl _ w1.heap.size 24 y32 _ (.int .i64 40) rfl rfl HB3.out Tryd.underlying24 rfl Tryd.size24) rfl ?_
    exact ⟨rfl, (gtrans HG1.out HG2.out).andThen HG3.out (fun j hj => .inl (by injection hj with hj; have := HS1.out; omega))⟩
  · have h2 : 4096 < r := by rcases hr with h | h
                             · exact absurd h h1
                             · exact h
    clear hr hor
    go_enter Tryd.func27, Tryd.ntmps27
    go_wp2_with (first
      | (refine wpList_box_row rfl 53 _ rfl cs rfl ?_; intro w1 B1 s1 g1; have HG1 := hid g1; have HS1 := hid s1; clear B1 g1 s1)
      | (refine wpList_alloc_row rfl 24 rfl y32 Tryd.zero24 ?_; intro w2 B2 s2 g2; have HB2 := hid B2; have HG2 := hid g2; clear B2 g2 s2)
      | (refine wpList_build_row rfl 24 rfl y32 Tryd.built24 ?_)
      | (refine wpList_store_all rfl 24 _ _ rfl _ y32 y32 24 rfl rfl HB2.out rfl Tryd.size24 one_y32 ?_; intro w3 B3 g3 s3; have HB3 := hid B3; have HG3 := hid g3; clear B3 g3 s3))
    refine bodyPost_ret (results_blk_tmp rfl _ w1.heap.size 24 y32 _ (.int .i64 40) rfl rfl HB3.out Tryd.underlying24 rfl Tryd.size24) rfl ?_
    exact ⟨rfl, (gtrans HG1.out HG2.out).andThen HG3.out (fun j hj => .inl (by injection hj with hj; have := HS1.out; omega))⟩

set_option maxRecDepth 100000 in
set_option maxHeartbeats 800000 in
theorem pass_ok (w : World) (salt : List UInt8) (s : ByteArray) (r : Nat) (h1 : 1 ≤ r) (h2 : r ≤ 4096) (hs : salt.length = 16) (hg : Glob w) (hn : s.size < 1152921504606840000) :
    Calls Tryd.prog 27 #[.agg (Lib.byteCells salt).toArray, .string s, .int .i64 r] w fun e w' => e = .returned (.tuple #[.agg (Lib.byteCells (passN salt s.data.toList (r - 1))).toArray, .int .i64 0]) ∧ w.grownBy w' none := by
  obtain ⟨cs, HCS⟩ : ∃ cs, Hid (Lib.byteCells salt = cs) := ⟨_, hid rfl⟩
  obtain ⟨x, HXe⟩ : ∃ x, Hid (s.data.toList = x) := ⟨_, hid rfl⟩
  obtain ⟨R, HR⟩ : ∃ R, Hid (Lib.byteCells (passN salt x (r - 1)) = R) := ⟨_, hid rfl⟩
  have HRL : Hid (R.length = 32) := hid (by rw [← HR.out, byteCells_length, passN_length])
  have HR1 : Hid (∀ v ∈ R, v.oneCell' = true) := hid (by rw [← HR.out]; exact bcs_one _)
  have HFD : Hid (∀ u, w.grownBy u none → Calls Tryd.prog 40 #[.agg cs.toArray, .string s] u fun e w' => e = .returned (.agg (Lib.byteCells (passN salt x 0)).toArray) ∧ u.grownBy w' none) := fun u hu => by
    have := firstDigest_any u salt s hs (hg.keep hu) hn
    rw [HCS.out, HXe.out] at this
    exact this
  have HND : Hid (∀ (u : World) (k : Nat), w.grownBy u none → Calls Tryd.prog 41 #[.agg (Lib.byteCells (passN salt x k)).toArray, .agg cs.toArray] u fun e w' => e = .returned (.agg (Lib.byteCells (passN salt x (k + 1))).toArray) ∧ u.grownBy w' none) := fun u k hu => by
    have := nextDigest_any u (passN salt x k) salt (passN_length _ _ _) hs (hg.keep hu)
    rw [HCS.out] at this
    exact this
  have HCL : Hid (cs.length = 16) := hid (by rw [← HCS.out, byteCells_length, hs])
  have HPL : Hid (∀ k, (Lib.byteCells (passN salt x k)).length = 32) := hid (fun k => by rw [byteCells_length, passN_length])
  rw [HCS.out, HXe.out, HR.out]
  have b1 : ¬ (r : Int) < 1 := by omega
  have b2 : ¬ (4096 : Int) < (r : Int) := by omega
  have b2' : (r : Int) ≤ 4096 := by omega
  have b1' : (1 : Int) ≤ (r : Int) := by omega
  have HR0 := hid h1
  clear hs hg hn h2 h1
  obtain ⟨r1, hr1⟩ : ∃ r1, r1 = r - 1 := ⟨_, rfl⟩
  have e1 : (r : Int) - 1 = (r1 : Int) := by have := HR0.out; omega
  have HR1e := hid hr1
  clear hr1
  go_enter Tryd.func27, Tryd.ntmps27
  go_wp2_with (first
    | (refine wpList_box_row rfl 53 _ rfl cs rfl ?_; intro w1 B1 s1 g1; have HB1 := hid B1; have HG1 := hid g1; have HS1 := hid s1; clear B1 g1 s1)
    | (have := HB2; clear this; refine wpList_alloc_row rfl 24 rfl y32 Tryd.zero24 ?_; intro w4 B4 s4 g4; have HB4 := hid B4; have HG4 := hid g4; have HS4 := hid s4; clear B4 g4 s4)
    | (refine wpList_alloc_row rfl 24 rfl y32 Tryd.zero24 ?_; intro w2 B2 s2 g2; have HB2 := hid B2; have HG2 := hid g2; have HS2 := hid s2; clear B2 g2 s2; have HB12 := hid (HB1.out.keep HG2.out); have HGa := hid (gtrans HG1.out HG2.out))
    | (refine wpList_load_part rfl 53 _ rfl w.heap.size 0 cs _ rfl HB12.out.whole Tryd.underlying53 rfl (by rw [HCL.out]; exact Tryd.size53) ?_)
    | (go_at_call 40; refine (HFD.out _ HGa.out).mono ?_; rintro e w3 ⟨rfl, hg3⟩; have HG3 := hid hg3; clear hg3)
    | (refine wpList_store_all rfl 24 _ _ rfl _ y32 (Lib.byteCells (passN salt x 0)) 24 rfl rfl HB4.out (by rw [HPL.out]; rfl) (by rw [HPL.out]; exact Tryd.size24) (bcs_one _) ?_; intro w5 B5 g5 s5; have HB5 := hid B5; have HG5 := hid g5; have HS5 := hid s5; clear B5 g5 s5))
  obtain ⟨p1, hp1⟩ : ∃ p1, p1 = w.heap.size := ⟨_, rfl⟩
  obtain ⟨p2, hp2⟩ : ∃ p2, p2 = w1.heap.size := ⟨_, rfl⟩
  obtain ⟨p3, hp3⟩ : ∃ p3, p3 = w3.heap.size := ⟨_, rfl⟩
  rw [← hp1, ← hp2, ← hp3]
  rw [← hp1] at HB12
  rw [← hp2] at HB2
  rw [← hp3] at HB5 HG5
  have HN := hid (show p1 ≠ p3 ∧ p2 ≠ p3 ∧ w.heap.size ≤ p3 ∧ w.heap.size ≤ p2 by have := HS1.out; have := HS2.out; have := HG3.out.size; omega)
  have HGb := hid ((gtrans HGa.out (gtrans HG3.out HG4.out)).andThen HG5.out (fun j hj => .inl (by injection hj with hj; have := HN.out; omega)))
  have HB15 := hid (((HB12.out.keep HG3.out).keep HG4.out).on HG5.out (by simp; exact fun e => HN.out.1 e.symm))
  have HB25 := hid (((HB2.out.keep HG3.out).keep HG4.out).on HG5.out (by simp; exact fun e => HN.out.2.1 e.symm))
  clear hp1 hp2 hp3 HG1 HG2 HG3 HG4 HG5 HS1 HS2 HS4 HS5 HB1 HB2 HB4 HB12 HGa HFD
  go_loopw [21] (fun iv wr => ∃ k : Nat, k ≤ r1 ∧ iv = .int .i64 k ∧ Hid (Blk wr p3 (Lib.byteCells (passN salt x k)) 24) ∧ Hid (Blk wr p1 cs 53) ∧ Hid (Blk wr p2 y32 24) ∧ Hid (w.grownBy wr none)) (fun iv _ => r1 - (intOf iv).toNat)
  case atStart => exact ⟨0, by omega, rfl, HB5, HB15, HB25, HGb⟩
  case round =>
    obtain ⟨k, hk, rfl, HK3, HK1, HK2, HW⟩ := hrel
    by_cases hlt : k < r1
    · have hlt' : (k : Int) < (r1 : Int) := by omega
      have hr1b : (r1 : Int) < 4096 := by have := HR0.out; omega
      go_wp2_with (first
        | (refine wpList_load_part rfl 24 _ rfl p3 0 _ _ rfl HK3.out.whole Tryd.underlying24 rfl (by rw [HPL.out]; exact Tryd.size24) ?_)
        | (refine wpList_load_part rfl 53 _ rfl p1 0 cs _ rfl HK1.out.whole Tryd.underlying53 rfl (by rw [HCL.out]; exact Tryd.size53) ?_)
        | (go_at_call 41; refine (HND.out _ _ HW.out).mono ?_; rintro e w6 ⟨rfl, hg6⟩; have HG6 := hid hg6; clear hg6)
        | (refine wpList_store_all rfl 24 _ _ rfl _ _ (Lib.byteCells (passN salt x (k + 1))) 24 rfl rfl (HK3.out.keep HG6.out) (by rw [HPL.out, HPL.out]) (by rw [HPL.out]; exact Tryd.size24) (bcs_one _) ?_; intro w7 B7 g7 s7; have HB7 := hid B7; have HG7 := hid g7; clear B7 g7 s7))
      go_roundw
      case rel =>
        first
          | exact ⟨k + 1, by omega, by go_num, HB7, hid ((HK1.out.keep HG6.out).on HG7.out (by simp; exact fun e => HN.out.1 e.symm)), hid ((HK2.out.keep HG6.out).on HG7.out (by simp; exact fun e => HN.out.2.1 e.symm)), hid ((gtrans HW.out HG6.out).andThen HG7.out (fun j hj => .inl (by injection hj with hj; have := HN.out; omega)))⟩
          | ((repeat apply Exists.intro); refine ⟨?r, ?f⟩; case f => rfl; case r => exact ⟨k + 1, by omega, by go_num, HB7, hid ((HK1.out.keep HG6.out).on HG7.out (by simp; exact fun e => HN.out.1 e.symm)), hid ((HK2.out.keep HG6.out).on HG7.out (by simp; exact fun e => HN.out.2.1 e.symm)), hid ((gtrans HW.out HG6.out).andThen HG7.out (fun j hj => .inl (by injection hj with hj; have := HN.out; omega)))⟩)
      case measure => simp [intOf]; omega
    · have hkr : k = r1 := by omega
      have HF : Hid (Blk wr p3 R 24) := hid (by rw [← HR.out, ← HR1e.out, ← hkr]; exact HK3.out)
      have hlt' : ¬ (k : Int) < (r1 : Int) := by omega
      clear hkr hlt
      go_wp2_with (first
        | (refine wpList_load_part rfl 24 _ rfl p3 0 R _ rfl HF.out.whole Tryd.underlying24 rfl (by rw [HRL.out]; exact Tryd.size24) ?_)
        | (refine wpList_store_all rfl 24 _ _ rfl _ y32 R 24 rfl rfl HK2.out (by rw [HRL.out]; rfl) (by rw [HRL.out]; exact Tryd.size24) HR1.out ?_; intro w7 B7 g7 s7; have HB7 := hid B7; have HG7 := hid g7; clear B7 g7 s7))
      refine bodyPost_ret (results_blk_tmp rfl _ p2 24 R _ (.int .i64 0) rfl rfl HB7.out Tryd.underlying24 rfl (by rw [HRL.out]; exact Tryd.size24)) rfl ?_
      exact ⟨rfl, HW.out.andThen HG7.out (fun j hj => .inl (by injection hj with hj; have := HN.out; omega))⟩
end Go.Proofs.YtmiojplbcjhggaaDoor
