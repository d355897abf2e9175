/- Slices of bytes that can be read; the walk of the law's lays. -/
import Derived.Test.YtipjjhccbgbdiaaGreatDoorWalkI
import Derived.Lib.SmallJoins
namespace Go.Proofs.YtipjjhccbgbdiaaGreatDoor
open Go Go.RowKit
open Go.RowKit (wrap32 wrap64)

/-- A slice of bytes that reads as l. -/
def Rd (w : World) (v : Value) (l : List UInt8) : Prop :=
  ∃ (a : Option Addr) (b off c : Nat), v = .slice a l.length c ∧ l.length ≤ c ∧ (a = none → c = 0) ∧ (0 < l.length → a = some ⟨b, off, none⟩ ∧ b < w.heap.size) ∧ ∀ i (h : i < l.length), w.cell? ⟨b, off + i, none⟩ = some (.int .u8 l[i].toNat)

theorem Rd.below {w w' : World} {v : Value} {l : List UInt8} (h : Rd w v l) (hb : Below w.heap.size w w') : Rd w' v l := by
  obtain ⟨a, b, off, c, hv, hc, hn, ha, hcell⟩ := h
  refine ⟨a, b, off, c, hv, hc, hn, fun hl => ⟨(ha hl).1, Nat.lt_of_lt_of_le (ha hl).2 hb.size⟩, fun i hi => ?_⟩
  rw [hb.cell (p := ⟨b, off + i, none⟩) (ha (by omega)).2]
  exact hcell i hi

theorem Rd.own {w : World} {B n : Nat} {v : Value} {l : List UInt8} (hown : w.ownsRow B 5 1 v n (cb l)) : Rd w v l := by
  have hn : l.length = n := by have := hown.1; rw [cb_length] at this; omega
  rcases hown.2 with ⟨rfl, h0⟩ | ⟨g, cap, cur, rfl, hb, hg, hle, hm, hs, ht⟩
  · have : l = [] := by cases l with | nil => rfl | cons _ _ => simp at hn; omega
    subst this
    exact ⟨none, 0, 0, 0, rfl, Nat.le_refl _, fun _ => rfl, fun h => by simp at h, fun i h => by simp at h⟩
  · refine ⟨some ⟨g, 0, none⟩, g, 0, cap, by rw [hn], by omega, (fun h => by cases h), fun _ => ⟨rfl, (hown.lt g rfl).2⟩, fun i hi => ?_⟩
    have := hown.cells (g := g) rfl i (.int .u8 (l[i]'(by omega)).toNat) (by simp [cb, List.getElem?_eq_getElem (show i < l.length by omega)])
    rw [Addr.add_lit] at this
    exact this

theorem Rd.text64 {w : World} {v : Value} {l : List UInt8} (h : Rd w v l) (hl : l.length ≤ 1048576) :
    Calls Tryz.prog 19 #[v] w fun e w' => e = .returned (.string ⟨(enc urlL l).toArray⟩) ∧ Below w.heap.size w w' := by
  obtain ⟨a, b, off, c, rfl, hc, _, ha, hcell⟩ := h
  exact text64_any l a b off c w hl hc ha hcell

theorem Rd.textPad {w : World} {v : Value} {l : List UInt8} (h : Rd w v l) (hl : l.length ≤ 1048576) :
    Calls Tryz.prog 21 #[v] w fun e w' => e = .returned (.string ⟨(encPad l).toArray⟩) ∧ Below w.heap.size w w' := by
  obtain ⟨a, b, off, c, rfl, hc, _, ha, hcell⟩ := h
  exact textPad_any l a b off c w hl hc ha hcell

theorem Rd.text16 {w : World} {v : Value} {l : List UInt8} (h : Rd w v l) (hl : l.length ≤ 1048576) :
    Calls Tryz.prog 23 #[v] w fun e w' => e = .returned (.string ⟨(enc16 l).toArray⟩) ∧ Below w.heap.size w w' := by
  obtain ⟨a, b, off, c, rfl, hc, _, ha, hcell⟩ := h
  exact text16_any l a b off c w hl hc ha hcell

theorem Rd.convert {w : World} {v : Value} {l : List UInt8} (h : Rd w v l) : (convert 58 9 v).run Tryz.prog w = .ok (.string ⟨l.toArray⟩) w := by
  obtain ⟨a, b, off, c, rfl, hc, _, ha, hcell⟩ := h
  exact convert_sl l a b off c w (fun hl => (ha hl).1) hcell

/-- Lay, as a slice that can be read. -/
theorem lay_rd (n k : Nat) (w : World) (h1 : 1 ≤ k) (h8 : k ≤ 8) (hfit : ((n : Int) / 2 ^ (8 * k) != 0) = false) : Calls Tryz.prog 39 #[.int .u64 n, .int .i64 k] w fun e w' =>
    ∃ v, e = .returned (.tuple #[v, .int .i64 0]) ∧ Rd w' v (layL n k) ∧ Below w.heap.size w w' := by
  refine (lay_ok n k w h1 h8 hfit).mono ?_
  rintro e w' ⟨rfl, hlt, hc, hbel⟩
  refine ⟨_, rfl, ⟨some ⟨w.heap.size, 0, none⟩, w.heap.size, 0, k, by rw [layL_length], by rw [layL_length]; exact Nat.le_refl _, (fun h => by cases h), fun _ => ⟨rfl, hlt⟩, fun i hi => ?_⟩, hbel⟩
  rw [layL_length] at hi
  rw [Nat.zero_add, hc i hi, layF_at n k i hi]

theorem tabName : Tryz.prog.globalNamed "internal/strconv.uint64pow10" = some 0 := by kernel_rfl

/-- The table of tens lies as it was laid. -/
def Tens (w : World) : Prop := Lib.TabIs Tryz.prog w "internal/strconv.uint64pow10" .u64 Lib.pow10Tab
theorem Tens.below {w w' : World} (h : Tens w) (hb : Below w.heap.size w w') : Tens w' := Go.Joins.tab_stays tabName h hb (Nat.le_refl _)

theorem Below.step {w w1 w2 : World} (h : Below w.heap.size w w1) (h' : Below w1.heap.size w1 w2) : Below w.heap.size w w2 := h.trans (h'.mono h.size)

theorem code64_ex : code64 [45, 95, 56] = 0 := by decide +kernel
theorem dec64_ex : dec urlL [45, 95, 56] = [251, 255] := by decide +kernel
theorem enc64_ex : enc urlL [251, 255] = [45, 95, 56] := by decide +kernel
theorem num10_ex : num10 (Lib.hasPrefix [45, 52, 53] [45]) (Lib.trimPrefix [45, 52, 53] [45]) = (-45, 0) := by decide +kernel
theorem lay_ex : layL 258 2 = [1, 2] := by decide +kernel
theorem itoa_ex : Lib.itoa (-45) = [45, 52, 53] := by decide +kernel

set_option maxRecDepth 100000 in
set_option maxHeartbeats 400000 in
theorem lays_any (w : World) (ht : Tens w) : Calls Tryz.prog 14 #[] w fun e w' => e = .returned (.bool true) ∧ Below w.heap.size w w' := by
  have HT := hid ht
  clear ht
  go_enter Tryz.func14, Tryz.ntmps14
  go_wp2_with fail
  refine (bytes64_any ⟨#[45, 95, 56]⟩ [45, 95, 56] _ rfl (by decide)).mono ?_
  rintro e w1 ⟨v1, rfl, hb1, ho1, -⟩
  have ho2 := ho1 code64_ex
  rw [dec64_ex] at ho2
  have r1 : Rd w1 v1 [251, 255] := Rd.own ho2
  rw [code64_ex]
  clear ho1 ho2
  have R1 := hid r1
  have HB1 := hid hb1
  clear r1 hb1
  go_wp2_with fail
  refine (number10_any ⟨#[45, 52, 53]⟩ [45, 52, 53] _ rfl (by decide)).mono ?_
  rintro e w' ⟨rfl, hw⟩
  have hw' := hw.symm
  clear hw
  subst hw'
  rw [num10_ex]
  have HLY := hid (fun w => lay_rd 258 2 w (by decide) (by decide) (by decide +kernel) : ∀ w, Calls Tryz.prog 39 #[.int .u64 258, .int .i64 2] w fun e w' => ∃ v, e = .returned (.tuple #[v, .int .i64 0]) ∧ Rd w' v (layL 258 2) ∧ Below w.heap.size w w')
  go_wp2_with fail
  refine (HLY.out _).mono ?_
  rintro e w2 ⟨v2, rfl, r2, hb2⟩
  rw [lay_ex] at r2
  have HB2 := hid (Below.step HB1.out hb2)
  have R1' := hid (R1.out.below hb2)
  have R2 := hid r2
  have T2 := hid (HT.out.below HB2.out)
  clear HB1 hb2 R1 r2 HT
  have hc1 := R1'.out.convert
  go_wp2_with (go_at_call 25; refine (num_any _ _).mono ?_; rintro e w' ⟨rfl, hw⟩; have hw' := hw.symm; clear hw; subst hw')
  refine (R1'.out.text64 (by decide)).mono ?_
  rintro e w3 ⟨rfl, hb3⟩
  rw [enc64_ex]
  have HB3 := hid (Below.step HB2.out hb3)
  have R3 := hid (R2.out.below hb3)
  have T3 := hid (T2.out.below hb3)
  clear HB2 hb3 R1' R2 T2 hc1
  go_wp2_with (go_at_call 25; refine (num_any _ _).mono ?_; rintro e w' ⟨rfl, hw⟩; have hw' := hw.symm; clear hw; subst hw')
  refine (text10_any (-45) _ (by decide) (by decide) T3.out).mono ?_
  rintro e w4 ⟨rfl, hb4⟩
  rw [itoa_ex]
  have HB4 := hid (Below.step HB3.out hb4)
  have hc4 := (R3.out.below hb4).convert
  clear HB3 hb4 R3 T3
  go_wp2_with (go_at_call 25; refine (num_any _ _).mono ?_; rintro e w' ⟨rfl, hw⟩; have hw' := hw.symm; clear hw; subst hw')
  go_ret
  exact ⟨rfl, HB4.out⟩
end Go.Proofs.YtipjjhccbgbdiaaGreatDoor
