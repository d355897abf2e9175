/- The walk of mixed. -/
import Derived.Test.YtfalgjdhdgkbfabDoorSumA
import Derived.Test.YtfalgjdhdgkbfabDoorOwn
import Derived.Deep.RegionHeld3
namespace Go.Proofs.YtfalgjdhdgkbfabDoor
open Go Go.RowKit
open Go.RowKit (wrap32 wrap64)

def min3 (a b c : Nat) : Nat := min (min a b) c
theorem min3_eq (A B C i : Nat) (h1 : i ≤ A) (h2 : i ≤ B) (h3 : i ≤ C) (h : ¬ (i < A ∧ i < B ∧ i < C)) : min3 A B C = i := by unfold min3; omega
theorem min3_le (A B C : Nat) : min3 A B C ≤ A ∧ min3 A B C ≤ B ∧ min3 A B C ≤ C := by unfold min3; omega
theorem getD_at (l : List UInt8) (i : Nat) (h : i < l.length) : l.getD i 0 = l[i] := by
  rw [List.getD_eq_getElem?_getD, List.getElem?_eq_getElem h]; rfl
set_option maxRecDepth 100000 in
set_option maxHeartbeats 2000000 in
theorem mixed_any (l m n : List UInt8) (v1 v2 v3 : Value) (w : World) (h1 : Rd w (fun _ => True) v1 l) (h2 : Rd w (fun _ => True) v2 m) (h3 : Rd w (fun _ => True) v3 n) (hl : l.length ≤ 1048576) (hm : m.length ≤ 140737488355328) (hn : n.length ≤ 140737488355328) :
    Calls Tryd.prog 23 #[v1, v2, v3] w fun e w' => ∃ v', e = .returned v' ∧ Out w.heap.size w' v' (mixI l m n (min3 l.length m.length n.length)) ∧ w.grownBy w' none := by
  obtain ⟨a1, b1, o1, c1, rfl, hc1, hn1, ha1, hcell1⟩ := h1
  obtain ⟨a2, b2, o2, c2, rfl, hc2, hn2, ha2, hcell2⟩ := h2
  obtain ⟨a3, b3, o3, c3, rfl, hc3, hn3, ha3, hcell3⟩ := h3
  have HA1 := hid ha1
  have HA2 := hid ha2
  have HA3 := hid ha3
  have HC1 := hid hcell1
  have HC2 := hid hcell2
  have HC3 := hid hcell3
  clear ha1 ha2 ha3 hcell1 hcell2 hcell3 hn1 hn2 hn3
  have HL := hid hl
  have HM := hid hm
  have HN := hid hn
  obtain ⟨A, HAA⟩ : ∃ x, Hid (l.length = x) := ⟨_, hid rfl⟩
  obtain ⟨B, HBB⟩ : ∃ x, Hid (m.length = x) := ⟨_, hid rfl⟩
  obtain ⟨C, HCC⟩ : ∃ x, Hid (n.length = x) := ⟨_, hid rfl⟩
  rw [HAA.out, HBB.out, HCC.out]
  have hA : A ≤ 1048576 := by have := HL.out; have := HAA.out; omega
  have HAB := hid hA
  clear hl hm hn hA hc1 hc2 hc3
  go_enter Tryd.func23, Tryd.ntmps23
  go_wp2_with fail
  go_loopw [7, 8] (fun ov iv wr => ∃ i : Nat, iv = .int .i64 i ∧ i ≤ A ∧ i ≤ B ∧ i ≤ C ∧ Hid (Out w.heap.size wr ov (mixI l m n i)) ∧ Hid (w.grownBy wr none)) (fun _ iv _ => A - (intOf iv).toNat)
  case atStart => exact ⟨0, rfl, Nat.zero_le _, Nat.zero_le _, Nat.zero_le _, Out.nil _ _, grefl _ _⟩
  case round =>
    obtain ⟨i, rfl, hiA, hiB, hiC, HO, HG⟩ := hrel
    have hz := HG.out.size
    have hib : i ≤ 1048576 := by have := HAB.out; omega
    by_cases hall : i < A ∧ i < B ∧ i < C
    · obtain ⟨k1, k2, k3⟩ := hall
      obtain ⟨rfl, hb1, -⟩ := HA1.out (by have := HAA.out; omega)
      obtain ⟨rfl, hb2, -⟩ := HA2.out (by have := HBB.out; omega)
      obtain ⟨rfl, hb3, -⟩ := HA3.out (by have := HCC.out; omega)
      have d1 := HC1.out i (by rw [HAA.out]; exact k1)
      have d2 := HC2.out i (by rw [HBB.out]; exact k2)
      have d3 := HC3.out i (by rw [HCC.out]; exact k3)
      rw [← cell_at HG.out hb1 (by simp)] at d1
      rw [← cell_at HG.out hb2 (by simp)] at d2
      rw [← cell_at HG.out hb3 (by simp)] at d3
      have HS : Hid (mixI l m n (i + 1) = mixI l m n i ++ [l[i]'(by rw [HAA.out]; exact k1) ^^^ m[i]'(by rw [HBB.out]; exact k2) ^^^ n[i]'(by rw [HCC.out]; exact k3)]) := hid (by rw [mixI_succ, getD_at l i (by rw [HAA.out]; exact k1), getD_at m i (by rw [HBB.out]; exact k2), getD_at n i (by rw [HCC.out]; exact k3)])
      obtain ⟨x, HX⟩ : ∃ x, Hid (l[i]'(by rw [HAA.out]; exact k1) = x) := ⟨_, hid rfl⟩
      obtain ⟨y, HY⟩ : ∃ x, Hid (m[i]'(by rw [HBB.out]; exact k2) = x) := ⟨_, hid rfl⟩
      obtain ⟨z, HZ⟩ : ∃ x, Hid (n[i]'(by rw [HCC.out]; exact k3) = x) := ⟨_, hid rfl⟩
      rw [HX.out] at d1 HS
      rw [HY.out] at d2 HS
      rw [HZ.out] at d3 HS
      have e1 := xor8 x y
      have e2 := xor8 (x ^^^ y) z
      obtain ⟨cc, HCX⟩ : ∃ x' : UInt8, Hid (x ^^^ y ^^^ z = x') := ⟨_, hid rfl⟩
      rw [HCX.out] at e2 HS
      obtain ⟨P, HPX⟩ : ∃ x' : Nat, Hid ((x ^^^ y).toNat = x') := ⟨_, hid rfl⟩
      rw [HPX.out] at e1 e2
      have i1 : (i : Int) < (A : Int) := by omega
      have i2 : (i : Int) < (B : Int) := by omega
      have i3 : (i : Int) < (C : Int) := by omega
      have hml : (mixI l m n i).length ≤ 1048576 := by rw [mixI_length]; have := HAB.out; omega
      have HML := hid hml
      clear hml
      go_wp2_with fail
      go_region_law (refine step_append_rd rfl _ _ rfl w.heap.size _ (mixI l m n i) [cc] (by exact (HO.out.keep (galloc wr _ none)).keep (gdrew1 _ none)) (by exact Rd.lit (W := (wr.alloc (.cells #[.int .u8 cc.toNat] 5)).drew) (litL wr _)) (by have := HML.out; simp; omega) (by simp; omega) ?_; intro v5 w5 hO5 hg5)
      all_goals
        go_wp2_with fail
        refine ⟨⟨i + 1, by go_num, by omega, by omega, by omega, ?_, hid (((HG.out.andThen (galloc wr _ none) (fun j hj => by cases hj)).andThen (gdrew1 _ none) (fun j hj => by cases hj)).andThen hg5 (fun j hj => .inl (HO.out.block j hj)))⟩, by simp only [intOf]; omega⟩
        rw [HS.out]
        exact hid hO5
    · have HE : Hid (min3 A B C = i) := hid (min3_eq A B C i hiA hiB hiC hall)
      have i0 : ¬ i < A ∨ (i < A ∧ ¬ i < B) ∨ (i < A ∧ i < B ∧ ¬ i < C) := by omega
      rcases i0 with j1 | ⟨j1, j2⟩ | ⟨j1, j2, j3⟩
      · have i1 : ¬ (i : Int) < (A : Int) := by omega
        go_wp2_with fail
        go_ret
        exact ⟨_, rfl, by rw [HE.out]; exact HO.out, HG.out⟩
      · have i1 : (i : Int) < (A : Int) := by omega
        have i2 : ¬ (i : Int) < (B : Int) := by omega
        go_wp2_with fail
        go_ret
        exact ⟨_, rfl, by rw [HE.out]; exact HO.out, HG.out⟩
      · have i1 : (i : Int) < (A : Int) := by omega
        have i2 : (i : Int) < (B : Int) := by omega
        have i3 : ¬ (i : Int) < (C : Int) := by omega
        go_wp2_with fail
        go_ret
        exact ⟨_, rfl, by rw [HE.out]; exact HO.out, HG.out⟩
end Go.Proofs.YtfalgjdhdgkbfabDoor
