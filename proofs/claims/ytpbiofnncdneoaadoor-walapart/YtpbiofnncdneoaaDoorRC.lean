/- The walks of Frame, readHead, Unframe. -/
import Derived.Test.YtpbiofnncdneoaaDoorRB
import Derived.Laws.MakeOwn
namespace Go.Proofs.YtpbiofnncdneoaaDoor
open Go Go.RowKit
open Go.RowKit (wrap32 wrap64)

theorem make0 (w : World) (n : Nat) (hn : n ≤ 140737488355328) : ∃ w', (Instr.makeSlice 36 (.int .i64 0) (.int .i64 (n : Int))).run Tryd.prog w = .ok (.slice (some ⟨w.heap.size, 0, none⟩) 0 n) w' ∧ Out w.heap.size w' (.slice (some ⟨w.heap.size, 0, none⟩) 0 n) [] ∧ w.grownBy w' none := by
  obtain ⟨inf, hi, hz0, hz1, hz2⟩ := info_parts Tryd.info5
  exact run_make_own w w.heap.size 36 5 inf (.int .u8 0) 1 Tryd.underlying36 hi hz0 hz1 .i64 .i64 n (by rw [hz2]; omega) (by unfold maxLen; omega) (Nat.le_refl _)

set_option maxRecDepth 100000 in
set_option maxHeartbeats 2000000 in
/-- Frame of a body that may be. -/
theorem frame_ok (l : List UInt8) (F : Nat → Prop) (v : Value) (w : World) (hl : l.length ≤ 16777216) (hr : Rd w F v l) (ht : Tab w) :
    Calls Tryd.prog 31 #[v] w fun e w' => ∃ v', e = .returned (.tuple #[v', .int .i64 0]) ∧ Out w.heap.size w' v' (frameL l) ∧ w.grownBy w' none := by
  have HR : Hid (∀ u : World, Below w.heap.size w u → Rd u F v l) := fun u hu => hr.keep (gof hu none)
  have HT : Hid (∀ u : World, Below w.heap.size w u → Tab u) := fun u hu => ht.keep (gof hu none)
  obtain ⟨w1, hmk, ho1, hg1⟩ := make0 w (l.length + 13) (by omega)
  rw [show ((l.length + 13 : Nat) : Int) = 9 + (l.length : Int) + 4 by omega] at hmk
  have HO1 := hid ho1
  have HB1 := hid (gbelow hg1)
  have hz1 := hg1.size
  obtain ⟨a, b, off, c, rfl, -⟩ := hr
  have hd : decide ((16777216 : Int) < (l.length : Int)) = false := decide_eq_false (by omega)
  have HFL : Hid (frameL l = [] ++ [201] ++ layL l.length 4 ++ layL (sumL ([] ++ [201] ++ layL l.length 4)) 4 ++ l ++ layL (sumL l) 4) := hid (by simp [frameL, head5])
  clear ho1 hg1 ht
  have k1 := layL_length l.length 4
  have k2 := layL_length (sumL ([] ++ [201] ++ layL l.length 4)) 4
  obtain ⟨L, HL⟩ : ∃ L, Hid (l.length = L) := ⟨_, hid rfl⟩
  have HLE : Hid (∀ x : List UInt8, x.length ≤ 33554432 → x.length ≤ 17592186044416 ∧ x.length ≤ 140737488355328) := hid (fun x hx => by omega)
  have HLA : Hid (([] ++ [201] : List UInt8).length ≤ 33554432 ∧ ([] ++ [201] ++ layL l.length 4).length ≤ 33554432 ∧ ([] ++ [201] ++ layL l.length 4 ++ layL (sumL ([] ++ [201] ++ layL l.length 4)) 4).length ≤ 33554432 ∧ ([] ++ [201] ++ layL l.length 4 ++ layL (sumL ([] ++ [201] ++ layL l.length 4)) 4 ++ l).length ≤ 33554432 ∧ l.length ≤ 33554432 ∧ ([] ++ [201] ++ layL l.length 4 ++ layL (sumL ([] ++ [201] ++ layL l.length 4)) 4).length + l.length ≤ 33554432) := hid (by
    simp only [List.length_append, List.length_cons, List.length_nil, layL_length]; omega)
  clear k1 k2
  go_enter Tryd.func31, Tryd.ntmps31
  go_wp2_with (first
    | (at_builtin; refine wpList_append_byte rfl _ _ rfl w.heap.size w1.heap.size _ 201 (HO1.out.keep (galloc w1 _ none)) rfl (litL w1 _) (by simp) (by simp; omega) ?_; intro v2 w2 hO2 hg2; have HO2 := hid hO2; have HB2 := hid ((HB1.out.trans ((Below.refl _ _).alloc hz1 _)).trans (rbelow_grown hg2 (by simp; omega) (fun j hj => HO1.out.block j hj))); have hz2 := HB2.out.size; clear hO2 hg2)
    | (go_at_call 45; refine (appendNumber_any w.heap.size l.length 4 _ _ _ (by omega) (by decide) HO2.out hz2 (HLE.out _ HLA.out.1).1).mono ?_; rintro e w3 ⟨v3, rfl, hO3, hB3⟩; have HO3 := hid hO3; have HB3 := hid (HB2.out.trans hB3); have hz3 := HB3.out.size; clear hO3 hB3)
    | (go_at_call 46; refine (appendSum_any w.heap.size _ _ _ _ _ _ HO3.out hz3 (HLE.out _ HLA.out.2.1).1 (HLE.out _ HLA.out.2.1).2 HO3.out.rd (HT.out _ HB3.out)).mono ?_; rintro e w4 ⟨v4, rfl, hO4, hB4⟩; have HO4 := hid hO4; have HB4 := hid (HB3.out.trans hB4); have hz4 := HB4.out.size; clear hO4 hB4)
    | (at_builtin; refine wpList_append_rd rfl _ _ rfl w.heap.size F _ l HO4.out (HR.out _ HB4.out) (by have := HLA.out.2.2.2.2.2; omega) hz4 ?_; intro v5 w5 hO5 hg5 _; have HO5 := hid hO5; have HB5 := hid (HB4.out.trans (rbelow_grown hg5 hz4 (fun j hj => HO4.out.block j hj))); have hz5 := HB5.out.size; clear hO5 hg5)
    | (go_at_call 46; refine (appendSum_any w.heap.size l F _ _ _ _ HO5.out hz5 (HLE.out _ HLA.out.2.2.2.1).1 (HLE.out _ HLA.out.2.2.2.2.1).2 (HR.out _ HB5.out) (HT.out _ HB5.out)).mono ?_; rintro e w6 ⟨v6, rfl, hO6, hB6⟩; have HO6 := hid hO6; have HB6 := hid (HB5.out.trans hB6); clear hO6 hB6))
  go_ret2
  exact ⟨_, rfl, by rw [HFL.out]; exact HO6.out, gof HB6.out none⟩

set_option maxHeartbeats 400000 in
theorem frame_no (v : Value) (n c : Nat) (a : Option Addr) (w : World) (hv : v = .slice a n c) (hn : 16777216 < n) (hn2 : n ≤ 140737488355328) :
    Calls Tryd.prog 31 #[v] w fun e w' => e = .returned (.tuple #[.slice none 0 0, .int .i64 31]) ∧ w' = w := by
  subst hv
  have hd : decide ((16777216 : Int) < (n : Int)) = true := decide_eq_true (by omega)
  go_enter Tryd.func31, Tryd.ntmps31
  go_wp2_with fail
  go_ret2
  exact ⟨rfl, rfl⟩

/-- A part of a slice that can be read. -/
theorem Rd.part {w : World} {F : Nat → Prop} {a : Option Addr} {b off : Nat} {l : List UInt8} (ha : 0 < l.length → a = some ⟨b, off, none⟩ ∧ b < w.heap.size ∧ F b) (hcell : ∀ i (h : i < l.length), w.cell? ⟨b, off + i, none⟩ = some (.int .u8 l[i].toNat))
    (i n cc : Nat) (h : i + n ≤ l.length) (hn : 0 < n) (hcc : n ≤ cc) : Rd w F (.slice (some ⟨b, off + i, none⟩) n cc) ((l.drop i).take n) := by
  have hl : ((l.drop i).take n).length = n := by rw [List.length_take, List.length_drop]; omega
  refine ⟨some ⟨b, off + i, none⟩, b, off + i, cc, by rw [hl], by rw [hl]; exact hcc, (fun h => by cases h), fun _ => ⟨rfl, (ha (by omega)).2⟩, fun j hj => ?_⟩
  rw [hl] at hj
  have := hcell (i + j) (by omega)
  rw [show off + i + j = off + (i + j) by omega, this]
  simp
end Go.Proofs.YtpbiofnncdneoaaDoor
