/- wakes. -/
import Derived.Test.YtmiojplbcjhggaaDoorWalkN
namespace Go.Proofs.YtmiojplbcjhggaaDoor
open Go Go.RowKit
open Go.RowKit (wrap32 wrap64)

def abcL : List UInt8 := [97, 98, 99]
def jefe : List UInt8 := [74, 101, 102, 101]
def whatL : List UInt8 := [119, 104, 97, 116, 32, 100, 111, 32, 121, 97, 32, 119, 97, 110, 116, 32, 102, 111, 114, 32, 110, 111, 116, 104, 105, 110, 103, 63]
theorem abc0 : ((sumL abcL).getD 0 0).toNat = 186 := Nat.eq_of_beq_eq_true (by decide +kernel)
theorem abc31 : ((sumL abcL).getD 31 0).toNat = 173 := Nat.eq_of_beq_eq_true (by decide +kernel)
theorem mac0 : ((macL jefe whatL).getD 0 0).toNat = 91 := Nat.eq_of_beq_eq_true (by decide +kernel)
theorem mac31 : ((macL jefe whatL).getD 31 0).toNat = 67 := Nat.eq_of_beq_eq_true (by decide +kernel)
/-- a literal's bytes. -/
theorem lit_rd (w : World) (x : List UInt8) (fr : Nat × Nat) (cs : Array Value) (hcs : cs = (Lib.byteCells x).toArray) (n : Nat) (hn : n = x.length) : Rd (w.alloc (.cells cs 5 fr)) (fun _ => True) (.slice (some ⟨w.heap.size, 0, none⟩) n n) x := by
  subst hcs hn
  have hh : (w.alloc (.cells (Lib.byteCells x).toArray 5 fr)).heap[w.heap.size]? = some (.cells (Lib.byteCells x).toArray 5 fr) := heap_alloc_new w _
  refine ⟨some ⟨w.heap.size, 0, none⟩, w.heap.size, 0, x.length, rfl, Nat.le_refl _, (fun h => by cases h), fun _ => ⟨rfl, (Array.getElem?_eq_some_iff.1 hh).1, trivial⟩, fun i hi => ?_⟩
  rw [Nat.zero_add, cell_of_row _ _ i _ 5 fr hh]
  simp [Lib.byteCells, hi]
theorem bcs_at (x : List UInt8) (i k : Nat) (hi : i < x.length) (h : (x.getD i 0).toNat = k) : (Lib.byteCells x)[i]? = some (.int .u8 (k : Int)) := by
  rw [bcs_get x i hi, h]
theorem grow2 (w : World) (A B : Obj) : w.grownBy ((w.alloc A).alloc B) none := gtrans (galloc _ _ _) (galloc _ _ _)

theorem size1 (w : World) (o : Obj) : (w.alloc o).heap.size = w.heap.size + 1 := by simp
theorem conv2 (w : World) (o : Obj) (C : Array Value) (n c : Nat) : (convert 23 23 (.slice (some ⟨w.heap.size + 1, 0, none⟩) n c)).run Tryd.prog ((w.alloc o).alloc (.cells C 5)) = .ok (.slice (some ⟨w.heap.size + 1, 0, none⟩) n c) ((w.alloc o).alloc (.cells C 5 (C.size, C.size + 1))) := by
  have := Lib.run_convert_bytes_const (P := Tryd.prog) (w.alloc o) 23 5 C n c Tryd.underlying23 Tryd.underlying5
  rw [size1] at this
  exact this
theorem lit_rd2 (w : World) (o : Obj) (x : List UInt8) (fr : Nat × Nat) (cs : Array Value) (hcs : cs = (Lib.byteCells x).toArray) (n : Nat) (hn : n = x.length) : Rd ((w.alloc o).alloc (.cells cs 5 fr)) (fun _ => True) (.slice (some ⟨w.heap.size + 1, 0, none⟩) n n) x := by
  have := lit_rd (w.alloc o) x fr cs hcs n hn
  rw [size1] at this
  exact this
set_option maxRecDepth 100000 in
set_option maxHeartbeats 800000 in
theorem wakes_any (w : World) (hg : Glob w) : Calls Tryd.prog 15 #[] w fun e w' => e = .returned (.bool true) ∧ w.grownBy w' none := by
  have kc := fun (w : World) (C : Array Value) (n c : Nat) => Lib.run_convert_bytes_const (P := Tryd.prog) w 23 5 C n c Tryd.underlying23 Tryd.underlying5
  have kc2 := conv2
  obtain ⟨R, HR⟩ : ∃ R, Hid (Lib.byteCells (sumL abcL) = R) := ⟨_, hid rfl⟩
  have HRL : Hid (R.length = 32) := hid (by rw [← HR.out, byteCells_length, sumL_length])
  have HR1 : Hid (∀ v ∈ R, v.oneCell' = true) := hid (by rw [← HR.out]; exact bcs_one _)
  have HRa : Hid (R[0]? = some (.int .u8 186) ∧ R[31]? = some (.int .u8 173)) := hid (by rw [← HR.out]; exact ⟨bcs_at _ 0 186 (by rw [sumL_length]; decide) abc0, bcs_at _ 31 173 (by rw [sumL_length]; decide) abc31⟩)
  obtain ⟨M, HM⟩ : ∃ M, Hid (Lib.byteCells (macL jefe whatL) = M) := ⟨_, hid rfl⟩
  have HML : Hid (M.length = 32) := hid (by rw [← HM.out, byteCells_length, macL_length])
  have HM1 : Hid (∀ v ∈ M, v.oneCell' = true) := hid (by rw [← HM.out]; exact bcs_one _)
  have HMa : Hid (M[0]? = some (.int .u8 91) ∧ M[31]? = some (.int .u8 67)) := hid (by rw [← HM.out]; exact ⟨bcs_at _ 0 91 (by rw [macL_length]; decide) mac0, bcs_at _ 31 67 (by rw [macL_length]; decide) mac31⟩)
  have HS : Hid (∀ (u : World) (v : Value), w.grownBy u none → Rd u (fun _ => True) v abcL → Calls Tryd.prog 11 #[v] u fun e w' => e = .returned (.agg R.toArray) ∧ u.grownBy w' none) := fun u v hu hv => by
    have := dsum_any u v _ abcL hv (hg.keep hu) (by decide)
    rw [HR.out] at this
    exact this
  have HMc : Hid (∀ (u : World) (v v2 : Value), w.grownBy u none → Rd u (fun _ => True) v jefe → Rd u (fun _ => True) v2 whatL → Calls Tryd.prog 23 #[v, v2] u fun e w' => e = .returned (.agg M.toArray) ∧ u.grownBy w' none) := fun u v v2 hu hv hv2 => by
    have := mac_any u v v2 _ _ jefe whatL hv hv2 (by decide) (hg.keep hu) (by decide)
    rw [HM.out] at this
    exact this
  have HP : Hid (∀ u : World, Calls Tryd.prog 27 #[.agg y16.toArray, .string { data := #[120] }, .int .i64 0] u fun e w' => e = .returned (.tuple #[.agg y32.toArray, .int .i64 40]) ∧ u.grownBy w' none) := fun u => pass_no u (List.replicate 16 0) _ 0 (.inl (by decide))
  have HSa : Hid (∀ u : World, Calls Tryd.prog 25 #[.slice none 0 0, .slice none 0 0] u fun e w' => e = .returned (.bool true) ∧ u.grownBy w' none) := fun u => same_any u _ _ (fun _ => True) (fun _ => True) [] [] (Rd.nil _ _) (Rd.nil _ _) (by simp) (by simp)
  clear hg
  go_enter Tryd.func15, Tryd.ntmps15
  go_wp2_with (first
    | (go_at_call 11; refine (HS.out _ _ (galloc w _ none) (lit_rd w abcL (3, 4) _ rfl 3 rfl)).mono ?_; rintro e w1 ⟨rfl, hg1⟩; have HG1 := hid (gtrans (galloc w _ none) hg1); clear hg1)
    | (have := HG5; clear this; refine wpList_alloc_row rfl 24 rfl y32 Tryd.zero24 ?_; intro wb Bb sb gb; have HBb := hid Bb; have HGb := hid gb; have HSb := hid sb; clear Bb gb sb)
    | (have := HG4; clear this; refine wpList_alloc_row rfl 24 rfl y32 Tryd.zero24 ?_; intro w6 B6 s6 g6; have HB6 := hid B6; have HG6 := hid g6; have HS6 := hid s6; clear B6 g6 s6)
    | (refine wpList_alloc_row rfl 24 rfl y32 Tryd.zero24 ?_; intro w2 B2 s2 g2; have HB2 := hid B2; have HG2 := hid g2; have HS2 := hid s2; clear B2 g2 s2)
    | (refine wpList_store_all rfl 24 _ _ rfl _ y32 R 24 rfl rfl HB2.out (by rw [HRL.out]; rfl) (by rw [HRL.out]; exact Tryd.size24) HR1.out ?_; intro w3 B3 g3 s3; have HB3 := hid B3; have HGx := hid g3; clear B3 s3 g3; have HG3 := hid ((gtrans HG1.out HG2.out).andThen HGx.out (fun j hj => .inl (by injection hj with hj; have := HG1.out.size; omega))))
    | (go_at_call 23; refine (HMc.out _ _ _ (gtrans HG3.out (grow2 w3 _ _)) ((lit_rd w3 jefe (4, 5) _ rfl 4 rfl).keep (galloc _ _ _)) (lit_rd2 w3 _ whatL (28, 29) _ rfl 28 rfl)).mono ?_; rintro e w5 ⟨rfl, hg5⟩; have HG4 := hid (gtrans (grow2 w3 _ _) hg5); clear hg5; have HB35 := hid (HB3.out.keep HG4.out); have HGy := hid (gtrans HG3.out HG4.out))
    | (have := HB6; clear this; refine wpList_store_all rfl 24 _ _ rfl _ y32 M 24 rfl rfl HB6.out (by rw [HML.out]; rfl) (by rw [HML.out]; exact Tryd.size24) HM1.out ?_; intro w7 B7 g7 s7; have HB7 := hid B7; have HGz := hid g7; clear B7 s7 g7; have HG5 := hid ((gtrans HGy.out HG6.out).andThen HGz.out (fun j hj => .inl (by injection hj with hj; have := HGy.out.size; omega))); have HB37 := hid ((HB35.out.keep HG6.out).on HGz.out (by simp; have := HB35.out.lt; omega)))
    | (refine wpList_build_row rfl 53 rfl y16 Tryd.built53 ?_)
    | (go_at_call 27; refine (HP.out _).mono ?_; rintro e w8 ⟨rfl, hg8⟩; have HG8 := hid hg8; clear hg8; have HB38 := hid (HB37.out.keep HG8.out); have HB78 := hid (HB7.out.keep HG8.out))
    | (refine wpList_store_all rfl 24 _ _ rfl _ y32 y32 24 rfl rfl HBb.out rfl Tryd.size24 one_y32 ?_; intro wc Bc gc sc; have HGq := hid gc; clear Bc sc gc; have hl3 := HB38.out.lt; have hl7 := HB78.out.lt; have HB3c := hid ((HB38.out.keep HGb.out).on HGq.out (by simp; omega)); have HB7c := hid ((HB78.out.keep HGb.out).on HGq.out (by simp; omega)); have HGt := hid ((gtrans HG5.out (gtrans HG8.out HGb.out)).andThen HGq.out (fun j hj => .inl (by injection hj with hj; have := HG5.out.size; have := HG8.out.size; omega))); clear hl3 hl7; have x0 : wc.cell? ⟨w1.heap.size, 0, none⟩ = some (.int .u8 186) := (by rw [HB3c.out.cell]; exact HRa.out.1); have x31 : wc.cell? ⟨w1.heap.size, 31, none⟩ = some (.int .u8 173) := (by rw [HB3c.out.cell]; exact HRa.out.2); have z0 : wc.cell? ⟨w5.heap.size, 0, none⟩ = some (.int .u8 91) := (by rw [HB7c.out.cell]; exact HMa.out.1); have z31 : wc.cell? ⟨w5.heap.size, 31, none⟩ = some (.int .u8 67) := (by rw [HB7c.out.cell]; exact HMa.out.2))
    | (go_at_call 25; refine (HSa.out _).mono ?_; rintro e wd ⟨rfl, hgd⟩; have HGd := hid hgd; clear hgd)
    | (go_at_call 28; refine (num_any _ _).mono ?_; rintro e w' ⟨rfl, hw⟩; have hw' := hw.symm; clear hw; subst hw'))
  go_ret
  exact ⟨rfl, gtrans HGt.out HGd.out⟩
end Go.Proofs.YtmiojplbcjhggaaDoor
