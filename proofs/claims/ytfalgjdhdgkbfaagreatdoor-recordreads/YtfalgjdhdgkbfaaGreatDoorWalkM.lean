/- The walk of works. -/
import Derived.Test.YtfalgjdhdgkbfaaGreatDoorWalkL
import Derived.Test.YtfalgjdhdgkbfaaGreatDoorWalkD
import Derived.Lib.SlBytesConst
namespace Go.Proofs.YtfalgjdhdgkbfaaGreatDoor
open Go Go.RowKit
open Go.RowKit (wrap32 wrap64)

/-- A new Writer. -/
theorem Wr.fresh (w : World) : Wr (w.alloc (.cells #[.pointer none, .int .i64 0, .int .i64 0] 26)) w.heap.size 26 3 0 (fun i => if i = 0 then .pointer none else .int .i64 0) (fun g => g ≠ w.heap.size) [] 0 := by
  refine ⟨?_, Nat.le_refl _, fun h => h rfl, none, [], rfl, rfl, rfl, rfl, rfl⟩
  refine World.rowIs_alloc w #[.pointer none, .int .i64 0, .int .i64 0] 26 _ (fun i hi => ?_)
  match i, hi with
  | 0, _ => rfl
  | 1, _ => rfl
  | 2, _ => rfl
theorem Rd.one (w : World) (c : UInt8) (fr : Nat × Nat) : Rd (w.alloc (.cells #[.int .u8 c.toNat] 5 fr)) (fun _ => True) (.slice (some ⟨w.heap.size, 0, none⟩) 1 1) [c] := by
  refine ⟨some ⟨w.heap.size, 0, none⟩, w.heap.size, 0, 1, rfl, Nat.le_refl _, (fun h => by cases h), fun _ => ⟨rfl, by simp, trivial⟩, fun i hi => ?_⟩
  have : i = 0 := by simp at hi; exact hi
  subst this
  have : (w.alloc (.cells #[.int .u8 c.toNat] 5 fr)).heap[w.heap.size]? = some (.cells #[.int .u8 c.toNat] 5 fr) := by
    show (w.heap.push _)[w.heap.size]? = _
    simp
  simp only [World.cell?, this]
  rfl

theorem wk1 : wrow 0 (wl 0 [] (layL 258 2)) [97] = [1, 2, 0, 0, 0, 1, 97] := by decide +kernel
theorem wk2 : numL (rt [1, 2, 0, 0, 0, 1, 97] 0 2) = 258 := by decide +kernel
theorem wk3 : rl [1, 2, 0, 0, 0, 1, 97] 0 2 = [0, 0, 0, 1, 97] := by decide +kernel
theorem wk4 : rb [1, 2, 0, 0, 0, 1, 97] 0 2 = 0 := by decide +kernel
theorem wk5 : rowT [0, 0, 0, 1, 97] 0 = [97] := by decide +kernel
theorem wk6 : rowL [0, 0, 0, 1, 97] 0 = [] := by decide +kernel
theorem wk7 : rowE [0, 0, 0, 1, 97] 0 = 0 := by decide +kernel
theorem wk8 : (frameL [97]).length = 14 := by decide +kernel
theorem wk9 : unfrE (frameL [97]) = 0 := by decide +kernel
theorem wk10 : cnt (frameL [97]) = 1 := by decide +kernel
theorem wk11 : unfB (frameL [97]) = [97] := by decide +kernel

set_option maxRecDepth 100000 in
set_option maxHeartbeats 4000000 in
theorem works_any (w : World) (ht : Tab w) : Calls Tryz.prog 10 #[] w fun e w' => e = .returned (.bool true) ∧ w.grownBy w' none := by
  have HT : Hid (∀ u, w.grownBy u none → Tab u) := fun u hu => ht.keep hu
  have HF : Hid (∀ (u : World), w.heap.size + 1 ≤ u.heap.size → ∀ g, u.heap.size ≤ g → g ≠ w.heap.size) := hid (fun u hu g hg => by omega)
  have HW0 := hid (Wr.fresh w)
  have HG0 : Hid (w.grownBy (w.alloc (.cells #[.pointer none, .int .i64 0, .int .i64 0] 26)) none) := galloc _ _ _
  have hz0 : (w.alloc (.cells #[.pointer none, .int .i64 0, .int .i64 0] 26)).heap.size = w.heap.size + 1 := by simp
  have HZ0 := hid hz0
  generalize (fun i => if i = 0 then Value.pointer none else .int .i64 0) = f0 at HW0
  have HNum : Hid (∀ u : World, Wr u w.heap.size 26 3 0 f0 (fun g => g ≠ w.heap.size) [] 0 → w.heap.size + 1 ≤ u.heap.size → Calls Tryz.prog 26 #[.pointer (some ⟨w.heap.size, 0, none⟩), .int .u64 258, .int .i64 2] u fun e w' => e = .returned (.tuple #[]) ∧ (∃ f', Wr w' w.heap.size 26 3 0 f' (fun g => g ≠ w.heap.size) (wl 0 [] (layL 258 2)) 0 ∧ Els 0 f0 f') ∧ u.grownBy w' (some w.heap.size)) := fun u hu hz =>
    wnum_ok u w.heap.size 26 3 0 f0 _ [] 0 258 2 hu (HF.out u hz) (by simp) (by decide) (by decide) (by decide) (by decide)
  have HTxt : Hid (∀ (u : World) (f : Nat → Value), Wr u w.heap.size 26 3 0 f (fun g => g ≠ w.heap.size) (wl 0 [] (layL 258 2)) 0 → w.heap.size + 1 ≤ u.heap.size → Calls Tryz.prog 34 #[.pointer (some ⟨w.heap.size, 0, none⟩), .string ⟨#[97]⟩] u fun e w' => e = .returned (.tuple #[]) ∧ (∃ f', Wr w' w.heap.size 26 3 0 f' (fun g => g ≠ w.heap.size) [1, 2, 0, 0, 0, 1, 97] 0 ∧ Els 0 f f') ∧ u.grownBy w' (some w.heap.size)) := fun u f hu hz => by
    have := wtext_ok u w.heap.size 26 3 0 f _ _ ⟨#[97]⟩ 0 hu (HF.out u hz) (by simp [wl, layL_length]) (by decide)
    rw [show (ByteArray.mk #[97]).data.toList = [97] from rfl, wk1] at this
    exact this
  have HDn : Hid (∀ (u : World) (f : Nat → Value), Wr u w.heap.size 26 3 0 f (fun g => g ≠ w.heap.size) [1, 2, 0, 0, 0, 1, 97] 0 → Calls Tryz.prog 38 #[.pointer (some ⟨w.heap.size, 0, none⟩)] u fun e w' => ∃ v', e = .returned (.tuple #[v', .int .i64 0]) ∧ Out u.heap.size w' v' [1, 2, 0, 0, 0, 1, 97] ∧ u.grownBy w' none) := fun u f hu => wdone_ok u _ 26 3 0 f _ _ hu (by decide)
  have HFr : Hid (∀ (u : World) (B : Nat) (v : Value), Out B u v [1, 2, 0, 0, 0, 1, 97] → Calls Tryz.prog 12 #[v] u fun r w' => ∃ b, r = .returned (.pointer (some ⟨b, 0, none⟩)) ∧ u.heap.size ≤ b ∧ Rr w' b (fun g => u.heap.size ≤ g ∧ g ≠ b) [1, 2, 0, 0, 0, 1, 97] 0 ∧ u.grownBy w' none) := fun u B v hv => from_any u _ v _ hv.rd (by decide)
  have HRn : Hid (∀ (u : World) (b : Nat) (F : Nat → Prop), Rr u b F [1, 2, 0, 0, 0, 1, 97] 0 → Calls Tryz.prog 45 #[.pointer (some ⟨b, 0, none⟩), .int .i64 2] u fun r w' => r = .returned (.int .u64 258) ∧ Rr w' b F [0, 0, 0, 1, 97] 0 ∧ u.grownBy w' (some b)) := fun u b F hu => by
    have := rnum_ok u b F _ 0 2 hu (by decide) (by decide)
    rw [wk2, wk3, wk4] at this
    exact this
  have HRt : Hid (∀ (u : World) (b : Nat) (F : Nat → Prop), Rr u b F [0, 0, 0, 1, 97] 0 → Calls Tryz.prog 46 #[.pointer (some ⟨b, 0, none⟩)] u fun r w' => r = .returned (.string ⟨#[97]⟩) ∧ Rr w' b F [] 0 ∧ u.grownBy w' (some b)) := fun u b F hu => by
    have := rtext_any u b F _ 0 hu
    rw [wk5, wk6, wk7] at this
    exact this
  have HFm : Hid (∀ (u : World), w.grownBy u none → Calls Tryz.prog 47 #[.slice (some ⟨u.heap.size, 0, none⟩) 1 1] (u.alloc (.cells #[.int .u8 97] 5 (1, 2))) fun e w' => ∃ v', e = .returned (.tuple #[v', .int .i64 0]) ∧ Out (u.alloc (.cells #[.int .u8 97] 5 (1, 2))).heap.size w' v' (frameL [97]) ∧ (u.alloc (.cells #[.int .u8 97] 5 (1, 2))).grownBy w' none) := fun u hu =>
    frame_ok [97] _ _ _ (by decide) (Rd.one u 97 (1, 2)) ((HT.out u hu).keep (galloc _ _ _))
  have HUn : Hid (∀ (u : World) (B : Nat) (v : Value), w.grownBy u none → Out B u v (frameL [97]) → Calls Tryz.prog 48 #[v] u fun e w' => ∃ v', e = .returned (.tuple #[v', .int .i64 14, .int .i64 0]) ∧ Out u.heap.size w' v' [97] ∧ u.grownBy w' none) := fun u B v hu hv => by
    have := unframe_any (frameL [97]) _ v u (by rw [wk8]; decide) hv.rd (HT.out u hu)
    rw [wk9, wk10, wk11] at this
    exact this
  have HEn : Hid (∀ (u : World) (b : Nat) (F : Nat → Prop), Rr u b F [] 0 → Calls Tryz.prog 20 #[.pointer (some ⟨b, 0, none⟩)] u fun r w' => r = .returned (.int .i64 0) ∧ w' = u) := fun u b F hu => end_any u b F [] 0 hu
  have HLF : Hid (∀ (u : World) (B : Nat) (v : Value), Out B u v (frameL [97]) → ∃ a c, v = .slice a 14 c) := hid (fun u B v hv => by
    obtain ⟨a, b', off, c, e, -⟩ := hv.rd
    rw [wk8] at e
    exact ⟨a, c, e⟩)
  generalize frameL [97] = FL at HFm HUn HLF
  have hcc := fun (u : World) => Lib.run_convert_bytes_const (P := Tryz.prog) u 28 5 #[.int .u8 97] 1 1 Tryz.underlying28 Tryz.underlying5
  clear ht hz0
  go_enter Tryz.func10, Tryz.ntmps10
  go_wp2_with (first
    | (go_at_call 26; refine (HNum.out _ HW0.out (by rw [HZ0.out]; exact Nat.le_refl _)).mono ?_; rintro e w1 ⟨rfl, ⟨f1, hW1, _⟩, hg1⟩; have HW1 := hid hW1; have HG1 := hid ((HG0.out).andThen hg1 (fun j hj => .inl (by injection hj with hj; omega))); have HS1 := hid (Nat.le_trans (Nat.le_of_eq HZ0.out.symm) hg1.size); clear hW1 hg1)
    | (go_at_call 34; refine (HTxt.out _ _ HW1.out HS1.out).mono ?_; rintro e w2 ⟨rfl, ⟨f2, hW2, _⟩, hg2⟩; have HW2 := hid hW2; have HG2 := hid ((HG1.out).andThen hg2 (fun j hj => .inl (by injection hj with hj; omega))); clear hW2 hg2)
    | (go_at_call 38; refine (HDn.out _ _ HW2.out).mono ?_; rintro e w3 ⟨v3, rfl, hO3, hg3⟩; have HO3 := hid hO3; have HG3 := hid (gtrans HG2.out hg3); clear hO3 hg3)
    | (go_at_call 12; refine (HFr.out _ _ _ HO3.out).mono ?_; rintro e w4 ⟨b4, rfl, hb4, hR4, hg4⟩; have HR4 := hid hR4; have HO4 := hid (HO3.out.keep hg4); have HG4 := hid (gtrans HG3.out hg4); have HB4 := hid (show w.heap.size ≤ b4 from Nat.le_trans HG3.out.size hb4); have HV4 := hid (show ∀ j, v3.ownBlock = some j → j ≠ b4 from fun j hj => by have := (HO3.out.lt j hj).2; omega); clear hR4 hg4 hb4)
    | (go_at_call 45; refine (HRn.out _ _ _ HR4.out).mono ?_; rintro e w5 ⟨rfl, hR5, hg5⟩; have HR5 := hid hR5; have HO5 := hid (HO4.out.on hg5 (fun k e he => HV4.out k he (by injection e with e; exact e.symm))); have HG5 := hid ((HG4.out).andThen hg5 (fun j hj => .inl (by injection hj with hj; have := HB4.out; omega))); clear hR5 hg5)
    | (go_at_call 46; refine (HRt.out _ _ _ HR5.out).mono ?_; rintro e w6 ⟨rfl, hR6, hg6⟩; have HR6 := hid hR6; have HO6 := hid (HO5.out.on hg6 (fun k e he => HV4.out k he (by injection e with e; exact e.symm))); have HG6 := hid ((HG5.out).andThen hg6 (fun j hj => .inl (by injection hj with hj; have := HB4.out; omega))); clear hR6 hg6)
    | (go_at_call 47; refine (HFm.out w6 HG6.out).mono ?_; rintro e w7 ⟨v7, rfl, hO7, hg7⟩; have hg7' := gtrans (galloc w6 (.cells #[.int .u8 97] 5 (1, 2)) none) hg7; have HR7 := hid (HR6.out.keep hg7'); have HO7 := hid (HO6.out.keep hg7'); have HP7 := hid hO7; have HG7 := hid (gtrans HG6.out hg7'); obtain ⟨a7, c7, rfl⟩ := HLF.out _ _ _ hO7; clear hO7 hg7 hg7')
    | (go_at_call 48; refine (HUn.out _ _ _ HG7.out HP7.out).mono ?_; rintro e w8 ⟨v8, rfl, hO8, hg8⟩; have HR8 := hid (HR7.out.keep hg8); have hcv3 := (HO7.out.keep hg8).rd.convert; have hcv8 := hO8.rd.convert; have HG8 := hid (gtrans HG7.out hg8); clear hO8 hg8)
    | (go_at_call 19; refine (num_any _ _).mono ?_; rintro e w' ⟨rfl, hw⟩; have hw' := hw.symm; clear hw; subst hw')
    | (go_at_call 20; refine (HEn.out _ _ _ HR8.out).mono ?_; rintro e w' ⟨rfl, hw⟩; have hw' := hw.symm; clear hw; subst hw'))
  trace_state
  go_ret
  exact ⟨rfl, HG8.out⟩
end Go.Proofs.YtfalgjdhdgkbfaaGreatDoor
