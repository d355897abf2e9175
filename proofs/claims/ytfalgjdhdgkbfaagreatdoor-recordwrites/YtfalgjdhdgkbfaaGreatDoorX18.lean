/- The reference's Writer: Num, Int, Flag, Bytes, Text, ID, Done. -/
import Derived.Test.YtfalgjdhdgkbfaaGreatDoorX17
import Derived.Test.YtfalgjdhdgkbfaaGreatDoorBookD
namespace Go.Proofs.YtfalgjdhdgkbfaaGreatDoor
open Go Go.RowKit
open Go.RowKit (wrap32 wrap64)

theorem KF.cell {w w' : World} {b : Nat} {F : Nat → Prop} (h : KF w w' b F) {g o : Nat} (hl : g < w.heap.size) (h1 : g ≠ b) (h2 : ¬ F g) : w'.cell? ⟨g, o, none⟩ = w.cell? ⟨g, o, none⟩ := by
  simp only [World.cell?, h.block g hl h1 h2]
theorem Rd.kf {w w' : World} {b : Nat} {F G : Nat → Prop} {v : Value} {x : List UInt8} (h : Rd w G v x) (k : KF w w' b F) (hG : ∀ g, g < w.heap.size → G g → g ≠ b ∧ ¬ F g) : Rd w' G v x := by
  obtain ⟨a, g, off, c, e, hc, hn, ha, hcell⟩ := h
  refine ⟨a, g, off, c, e, hc, hn, fun hl => ⟨(ha hl).1, Nat.lt_of_lt_of_le (ha hl).2.1 k.size, (ha hl).2.2⟩, fun i hi => ?_⟩
  have h3 := ha (by omega)
  have h4 := hG g h3.2.1 h3.2.2
  rw [k.cell h3.2.1 h4.1 h4.2]
  exact hcell i hi
theorem KF.weak {w w' : World} {b : Nat} {F G : Nat → Prop} (h : KF w w' b F) (hf : ∀ g, F g → G g) : KF w w' b G := ⟨h.os, h.tape, h.output, h.size, fun k h1 h2 h3 => h.block k h1 h2 (fun e => h3 (hf k e))⟩

set_option maxRecDepth 100000 in
set_option maxHeartbeats 1000000 in
theorem vnum_ok (w : World) (b t m o : Nat) (f : Nat → Value) (F : Nat → Prop) (l : List UInt8) (bad n k : Nat) (h : Wv w b t m o f F l bad) (hF : ∀ g, w.heap.size ≤ g → F g) (hl : l.length ≤ 17592186044416) (hn : n < 18446744073709551616) (h1 : 1 ≤ k) (h8 : k ≤ 8) (hfit : n < 256 ^ k) :
    Calls Tryz.prog 27 #[.pointer (some ⟨b, o, none⟩), .int .u64 n, .int .i64 k] w fun e w' => e = .returned (.tuple #[]) ∧ (∃ f', Wv w' b t m o f' F (wl bad l (layL n k)) bad ∧ Els2 o f f') ∧ KF w w' b F := by
  have HN := hid (numbR_any w n k hn h8)
  rw [decide_eq_true hfit] at HN
  have HL : Hid (∀ (u : World) (v : Value), w.grownBy u none → Rd u (fun g => w.heap.size ≤ g) v (layL n k) → Calls Tryz.prog 72 #[.pointer (some ⟨b, o, none⟩), v] u fun e w' => e = .returned (.tuple #[]) ∧ (∃ f', Wv w' b t m o f' F (wl bad l (layL n k)) bad ∧ Els2 o f f') ∧ KF u w' b F) := fun u v hu hv =>
    vlay_any u b t m o f F _ l bad v _ (h.keep hu) hv (fun g hg => hF g (Nat.le_trans hu.size hg)) (by rw [layL_length]; omega)
  have i1 : ¬ (k : Int) < 1 := by omega
  have i8 : ¬ (8 : Int) < (k : Int) := by omega
  clear h hfit
  go_enter Tryz.func27, Tryz.ntmps27
  go_wp2_with (first
    | (go_at_call 71; refine (HN.out).mono ?_; rintro e w1 ⟨v1, rfl, hO1, hg1⟩; have HO1 := hid hO1.rd; have HG1 := hid hg1; clear hO1 hg1)
    | (go_at_call 72; refine (HL.out _ _ HG1.out HO1.out).mono ?_; rintro e w2 ⟨rfl, hW2, hg2⟩))
  go_end0
  exact ⟨rfl, hW2, (KF.new HG1.out).trans hg2⟩

set_option maxRecDepth 100000 in
set_option maxHeartbeats 1000000 in
theorem vnum_no (w : World) (b t m o : Nat) (f : Nat → Value) (F : Nat → Prop) (l : List UInt8) (bad n : Nat) (x : Int) (h : Wv w b t m o f F l bad) (hn : n < 18446744073709551616) (hx : ¬ (1 ≤ x ∧ x ≤ 8 ∧ n < 256 ^ x.toNat)) :
    Calls Tryz.prog 27 #[.pointer (some ⟨b, o, none⟩), .int .u64 n, .int .i64 x] w fun e w' => e = .returned (.tuple #[]) ∧ (∃ f', Wv w' b t m o f' F l (ref bad 34) ∧ Els2 o f f') ∧ KF w w' b F := by
  have HR : Hid (∀ u, w.grownBy u none → Calls Tryz.prog 70 #[.pointer (some ⟨b, o, none⟩), .int .i64 34] u fun r w' => r = .returned (.tuple #[]) ∧ (∃ f', Wv w' b t m o f' F l (ref bad 34) ∧ Els2 o f f') ∧ KF u w' b F) := hid (fun u hu => vrefuse_any u b t m o f F l bad 34 (h.keep hu))
  clear h
  by_cases hw : 1 ≤ x ∧ x ≤ 8
  · obtain ⟨k, rfl⟩ : ∃ k : Nat, x = k := ⟨x.toNat, by omega⟩
    have HN := hid (numbR_any w n k hn (by omega))
    rw [decide_eq_false (fun e => hx ⟨hw.1, hw.2, by simpa using e⟩)] at HN
    have i1 : ¬ (k : Int) < 1 := by omega
    have i8 : ¬ (8 : Int) < (k : Int) := by omega
    clear hx hw
    go_enter Tryz.func27, Tryz.ntmps27
    go_wp2_with (first
      | (go_at_call 71; refine (HN.out).mono ?_; rintro e w1 ⟨v1, rfl, hO1, hg1⟩; have HG1 := hid hg1; clear hO1 hg1)
      | (go_at_call 70; refine (HR.out _ HG1.out).mono ?_; rintro e w2 ⟨rfl, hW2, hg2⟩))
    refine bodyPost_ret (results_none rfl _ _ _) rfl ?_
    exact ⟨rfl, hW2, (KF.new HG1.out).trans hg2⟩
  · by_cases h1 : x < 1
    · clear hx hw
      go_enter Tryz.func27, Tryz.ntmps27
      go_wp2_with (go_at_call 70; refine (HR.out _ (grefl _ _)).mono ?_; rintro e w2 ⟨rfl, hW2, hg2⟩)
      refine bodyPost_ret (results_none rfl _ _ _) rfl ?_
      exact ⟨rfl, hW2, hg2⟩
    · have h8 : 8 < x := by omega
      clear hx hw
      go_enter Tryz.func27, Tryz.ntmps27
      go_wp2_with (go_at_call 70; refine (HR.out _ (grefl _ _)).mono ?_; rintro e w2 ⟨rfl, hW2, hg2⟩)
      refine bodyPost_ret (results_none rfl _ _ _) rfl ?_
      exact ⟨rfl, hW2, hg2⟩

set_option maxRecDepth 100000 in
set_option maxHeartbeats 1000000 in
theorem vint_any (w : World) (b t m o : Nat) (f : Nat → Value) (F : Nat → Prop) (l : List UInt8) (bad : Nat) (x : Int) (h : Wv w b t m o f F l bad) (hF : ∀ g, w.heap.size ≤ g → F g) (hl : l.length ≤ 17592186044416) :
    Calls Tryz.prog 29 #[.pointer (some ⟨b, o, none⟩), .int .i64 x] w fun e w' => e = .returned (.tuple #[]) ∧ (∃ f', Wv w' b t m o f' F (wl bad l (layL (i64u x) 8)) bad ∧ Els2 o f f') ∧ KF w w' b F := by
  have HN := hid (vnum_ok w b t m o f F l bad (i64u x) 8 h hF hl (i64u_lt x) (by decide) (by decide) (by have := i64u_lt x; omega))
  have e1 : IntKind.u64.wrap x = (i64u x : Int) := by rw [IntKind.wrap_u64]; unfold i64u; omega
  generalize i64u x = n at HN e1 ⊢
  clear h
  go_enter Tryz.func29, Tryz.ntmps29
  go_wp2_with (go_at_call 27; refine (HN.out).mono ?_; rintro e w1 ⟨rfl, hW1, hg1⟩)
  go_end0
  exact ⟨rfl, hW1, hg1⟩
set_option maxRecDepth 100000 in
set_option maxHeartbeats 1000000 in
theorem vflag_any (w : World) (b t m o : Nat) (f : Nat → Value) (F : Nat → Prop) (l : List UInt8) (bad : Nat) (c : Bool) (h : Wv w b t m o f F l bad) (hF : ∀ g, w.heap.size ≤ g → F g) (hl : l.length ≤ 17592186044416) :
    Calls Tryz.prog 31 #[.pointer (some ⟨b, o, none⟩), .bool c] w fun e w' => e = .returned (.tuple #[]) ∧ (∃ f', Wv w' b t m o f' F (wl bad l (layL c.toNat 1)) bad ∧ Els2 o f f') ∧ KF w w' b F := by
  cases c with
  | true =>
    have HN : Hid (Calls Tryz.prog 27 #[.pointer (some ⟨b, o, none⟩), .int .u64 1, .int .i64 1] w fun e w' => e = .returned (.tuple #[]) ∧ (∃ f', Wv w' b t m o f' F (wl bad l (layL (Bool.toNat true) 1)) bad ∧ Els2 o f f') ∧ KF w w' b F) := vnum_ok w b t m o f F l bad 1 1 h hF hl (by decide) (by decide) (by decide) (by decide)
    clear h
    go_enter Tryz.func31, Tryz.ntmps31
    go_wp2_with (go_at_call 27; refine (HN.out).mono ?_; rintro e w1 ⟨rfl, hW1, hg1⟩)
    refine bodyPost_ret (results_none rfl _ _ _) rfl ?_
    exact ⟨rfl, hW1, hg1⟩
  | false =>
    have HN : Hid (Calls Tryz.prog 27 #[.pointer (some ⟨b, o, none⟩), .int .u64 0, .int .i64 1] w fun e w' => e = .returned (.tuple #[]) ∧ (∃ f', Wv w' b t m o f' F (wl bad l (layL (Bool.toNat false) 1)) bad ∧ Els2 o f f') ∧ KF w w' b F) := vnum_ok w b t m o f F l bad 0 1 h hF hl (by decide) (by decide) (by decide) (by decide)
    clear h
    go_enter Tryz.func31, Tryz.ntmps31
    go_wp2_with (go_at_call 27; refine (HN.out).mono ?_; rintro e w1 ⟨rfl, hW1, hg1⟩)
    go_end0
    exact ⟨rfl, hW1, hg1⟩

set_option maxRecDepth 100000 in
set_option maxHeartbeats 1000000 in
theorem vbytes_ok (w : World) (b t m o : Nat) (f : Nat → Value) (F G : Nat → Prop) (l x : List UInt8) (bad : Nat) (v : Value) (h : Wv w b t m o f F l bad) (hv : Rd w G v x) (hG : ∀ g, g < w.heap.size → G g → g ≠ b ∧ ¬ F g) (hF : ∀ g, w.heap.size ≤ g → F g) (hl : l.length ≤ 17592186040000) (hx : x.length ≤ 1048576) :
    Calls Tryz.prog 33 #[.pointer (some ⟨b, o, none⟩), v] w fun e w' => e = .returned (.tuple #[]) ∧ (∃ f', Wv w' b t m o f' F (wrow bad l x) bad ∧ Els2 o f f') ∧ KF w w' b F := by
  have HN := hid (vnum_ok w b t m o f F l bad x.length 4 h hF (by omega) (by omega) (by decide) (by decide) (by omega))
  have HV : Hid (∀ u, KF w u b F → Rd u G v x) := hid (fun u hu => hv.kf hu hG)
  have HL : Hid (∀ (u : World) (g : Nat → Value), Wv u b t m o g F (wl bad l (layL x.length 4)) bad → w.heap.size ≤ u.heap.size → Rd u G v x → Calls Tryz.prog 72 #[.pointer (some ⟨b, o, none⟩), v] u fun e w' => e = .returned (.tuple #[]) ∧ (∃ f', Wv w' b t m o f' F (wrow bad l x) bad ∧ Els2 o g f') ∧ KF u w' b F) := fun u g hW hz hy => by
    have hlen : (wl bad l (layL x.length 4)).length ≤ l.length + 4 := by unfold wl; split <;> simp [layL_length]
    have := vlay_any u b t m o g F G _ bad v x hW hy (fun k hk => hF k (Nat.le_trans hz hk)) (by omega)
    rw [show wl bad (wl bad l (layL x.length 4)) x = wrow bad l x from wl_wl bad l _ x] at this
    exact this
  have hd : decide ((1048576 : Int) < (x.length : Int)) = false := decide_eq_false (by omega)
  have hd' : ¬ (1048576 : Int) < (x.length : Int) := by omega
  have hu : IntKind.u64.wrap (x.length : Int) = (x.length : Int) := by rw [IntKind.wrap_u64]; omega
  obtain ⟨a, b', off, c, rfl, -⟩ := hv
  obtain ⟨N, hN⟩ : ∃ N, x.length = N := ⟨_, rfl⟩
  rw [hN] at HN HV HL hd hd' hu ⊢
  clear h hN
  go_enter Tryz.func33, Tryz.ntmps33
  go_wp2_with (first
    | (go_at_call 27; refine (HN.out).mono ?_; rintro e w1 ⟨rfl, ⟨f1, hW1, hE1⟩, hg1⟩; have HW1 := hid hW1; have HE1 := hid hE1; have HG1 := hid hg1; clear hW1 hE1 hg1)
    | (go_at_call 72; refine (HL.out _ _ HW1.out HG1.out.size (HV.out _ HG1.out)).mono ?_; rintro e w3 ⟨rfl, ⟨f3, hW3, hE3⟩, hg3⟩))
  go_end0
  exact ⟨rfl, ⟨f3, hW3, HE1.out.trans hE3⟩, HG1.out.trans hg3⟩
set_option maxRecDepth 100000 in
set_option maxHeartbeats 1000000 in
theorem vbytes_no (w : World) (b t m o : Nat) (f : Nat → Value) (F : Nat → Prop) (l : List UInt8) (bad n c : Nat) (a : Option Addr) (h : Wv w b t m o f F l bad) (hn : 1048576 < n) :
    Calls Tryz.prog 33 #[.pointer (some ⟨b, o, none⟩), .slice a n c] w fun e w' => e = .returned (.tuple #[]) ∧ (∃ f', Wv w' b t m o f' F l (ref bad 31) ∧ Els2 o f f') ∧ KF w w' b F := by
  have HR : Hid (Calls Tryz.prog 70 #[.pointer (some ⟨b, o, none⟩), .int .i64 31] w fun r w' => r = .returned (.tuple #[]) ∧ (∃ f', Wv w' b t m o f' F l (ref bad 31) ∧ Els2 o f f') ∧ KF w w' b F) := vrefuse_any w b t m o f F l bad 31 h
  have hd : (1048576 : Int) < (n : Int) := by omega
  clear h
  go_enter Tryz.func33, Tryz.ntmps33
  go_wp2_with (go_at_call 70; refine (HR.out).mono ?_; rintro e w1 ⟨rfl, hW1, hg1⟩)
  refine bodyPost_ret (results_none rfl _ _ _) rfl ?_
  exact ⟨rfl, hW1, hg1⟩

set_option maxRecDepth 100000 in
set_option maxHeartbeats 1000000 in
theorem vid_any (w : World) (b t m o : Nat) (f : Nat → Value) (F : Nat → Prop) (l d : List UInt8) (bad : Nat) (h : Wv w b t m o f F l bad) (hF : ∀ g, w.heap.size ≤ g → F g) (hl : l.length ≤ 17592186044416) (hd : d.length = 16) :
    Calls Tryz.prog 37 #[.pointer (some ⟨b, o, none⟩), .agg (Lib.byteCells d).toArray] w fun e w' => e = .returned (.tuple #[]) ∧ (∃ f', Wv w' b t m o f' F (wl bad l d) bad ∧ Els2 o f f') ∧ KF w w' b F := by
  have HL : Hid (Calls Tryz.prog 72 #[.pointer (some ⟨b, o, none⟩), .slice (some ⟨w.heap.size, 0, none⟩) 16 16] (w.alloc (.cells (Lib.byteCells d).toArray 65)) fun e w' => e = .returned (.tuple #[]) ∧ (∃ f', Wv w' b t m o f' F (wl bad l d) bad ∧ Els2 o f f') ∧ KF (w.alloc (.cells (Lib.byteCells d).toArray 65)) w' b F) :=
    vlay_any _ b t m o f F (fun _ => True) l bad _ d (h.keep (galloc w _ none)) ⟨some ⟨w.heap.size, 0, none⟩, w.heap.size, 0, 16, by rw [hd], by omega, (fun h => by cases h), fun _ => ⟨rfl, by simp, trivial⟩, fun i hi => by
      have := heap_new w (Lib.byteCells d).toArray 65
      simp only [World.cell?, this]
      simp [Lib.byteCells, List.getElem?_eq_getElem hi]⟩ (fun k hk => hF k (by simp at hk; omega)) (by omega)
  clear h
  generalize (Lib.byteCells d).toArray = cs at HL ⊢
  go_enter Tryz.func37, Tryz.ntmps37
  go_wp2_with (go_at_call 72; refine (HL.out).mono ?_; rintro e w3 ⟨rfl, hW3, hg3⟩)
  go_end0
  exact ⟨rfl, hW3, (KF.new (galloc w _ none)).trans hg3⟩

set_option maxRecDepth 100000 in
set_option maxHeartbeats 1000000 in
theorem vtext_ok (w : World) (b t m o : Nat) (f : Nat → Value) (F : Nat → Prop) (l : List UInt8) (s : ByteArray) (bad : Nat) (h : Wv w b t m o f F l bad) (hF : ∀ g, w.heap.size ≤ g → F g) (hl : l.length ≤ 17592186040000) (hx : s.size ≤ 1048576) :
    Calls Tryz.prog 35 #[.pointer (some ⟨b, o, none⟩), .string s] w fun e w' => e = .returned (.tuple #[]) ∧ (∃ f', Wv w' b t m o f' F (wrow bad l s.data.toList) bad ∧ Els2 o f f') ∧ KF w w' b F := by
  obtain ⟨x, hxe⟩ : ∃ x, s.data.toList = x := ⟨_, rfl⟩
  have hxl : x.length = s.size := by rw [← hxe, Array.length_toList]; rfl
  obtain ⟨w1, c1, hcv, hg1, hr1⟩ := conv_sb w s
  rw [hxe] at hr1 ⊢
  have hlt := h.cells.2.2.2
  have hW1 : Wv w1 b t m o f (fun g => F g ∧ (g < w.heap.size ∨ w1.heap.size ≤ g)) l bad := (h.mono (fun k hk hf => ⟨hf, .inl hk⟩) (fun hb => h.2.2.1 hb.1)).keep hg1
  have HB := hid (vbytes_ok w1 b t m o f _ _ l x bad _ hW1 hr1 (fun g hg hq => ⟨by omega, fun hh => by omega⟩) (fun g hg => ⟨hF g (Nat.le_trans hg1.size hg), .inr hg⟩) hl (by omega))
  have HG1 := hid hg1
  have HNb : Hid (¬ F b) := hid h.2.2.1
  clear h hW1 hg1 hr1 hxe hxl
  go_enter Tryz.func35, Tryz.ntmps35
  go_wp2_with (go_at_call 33; refine (HB.out).mono ?_; rintro e w3 ⟨rfl, ⟨f3, hW3, hE3⟩, hg3⟩)
  go_end0
  exact ⟨rfl, ⟨f3, hW3.mono (fun k _ hk => hk.1) HNb.out, hE3⟩, (KF.new HG1.out).trans (hg3.weak (fun g hg => hg.1))⟩
set_option maxRecDepth 100000 in
set_option maxHeartbeats 1000000 in
theorem vtext_no (w : World) (b t m o : Nat) (f : Nat → Value) (F : Nat → Prop) (l : List UInt8) (bad : Nat) (s : ByteArray) (h : Wv w b t m o f F l bad) (hn : 1048576 < s.size) :
    Calls Tryz.prog 35 #[.pointer (some ⟨b, o, none⟩), .string s] w fun e w' => e = .returned (.tuple #[]) ∧ (∃ f', Wv w' b t m o f' F l (ref bad 31) ∧ Els2 o f f') ∧ KF w w' b F := by
  obtain ⟨w1, c1, hcv, hg1, hr1⟩ := conv_sb w s
  have HB := hid (vbytes_no w1 b t m o f F l bad s.size c1 (some ⟨w.heap.size, 0, none⟩) (h.keep hg1) hn)
  have HG1 := hid hg1
  clear h hg1 hr1
  go_enter Tryz.func35, Tryz.ntmps35
  go_wp2_with (go_at_call 33; refine (HB.out).mono ?_; rintro e w3 ⟨rfl, hW3, hg3⟩)
  go_end0
  exact ⟨rfl, hW3, (KF.new HG1.out).trans hg3⟩

set_option maxRecDepth 100000 in
set_option maxHeartbeats 1000000 in
theorem vdone_ok (w : World) (b t m o : Nat) (f : Nat → Value) (F : Nat → Prop) (l : List UInt8) (h : Wv w b t m o f F l 0) (hl : l.length ≤ 17592186044416) :
    Calls Tryz.prog 39 #[.pointer (some ⟨b, o, none⟩)] w fun e w' => ∃ v', e = .returned (.tuple #[v', .int .i64 0]) ∧ Out w.heap.size w' v' l ∧ w.grownBy w' none := by
  obtain ⟨c0, c1, hfz, hlt⟩ := h.cells
  have HC := hid (copyC hl h.2.2.2.2.1.rd w (grefl _ _))
  generalize f o = v0 at c0 HC
  clear h
  go_enter Tryz.func39, Tryz.ntmps39
  go_wp2_with (go_at_call 51; refine (HC.out).mono ?_; rintro e w1 ⟨v1, rfl, hO1, hg1⟩)
  go_ret2
  exact ⟨v1, rfl, hO1, hg1⟩
set_option maxRecDepth 100000 in
set_option maxHeartbeats 1000000 in
theorem vdone_no (w : World) (b t m o : Nat) (f : Nat → Value) (F : Nat → Prop) (l : List UInt8) (bad : Nat) (h : Wv w b t m o f F l bad) (hb : bad ≠ 0) :
    Calls Tryz.prog 39 #[.pointer (some ⟨b, o, none⟩)] w fun e w' => e = .returned (.tuple #[.slice none 0 0, .int .i64 bad]) ∧ w.grownBy w' none := by
  obtain ⟨c0, c1, hfz, hlt⟩ := h.cells
  have hd : ((bad : Int) != 0) = true := by simpa using hb
  have hd2 : (bad != 0) = true := by simpa using hb
  clear h hb c0
  go_enter Tryz.func39, Tryz.ntmps39
  go_wp2_with fail
  go_region_held3 (fun u => u.cell? ⟨b, o + 1, none⟩ = some (.int .i64 (bad : Int))) (first | assumption | simpa using c1) (fail)
  all_goals (go_wp2_with fail; go_ret2; exact ⟨rfl, gdrew1 _ _⟩)
end Go.Proofs.YtfalgjdhdgkbfaaGreatDoor

namespace Go.Proofs.YtfalgjdhdgkbfaaGreatDoor.Bq
open Go Go.RowKit Go.Proofs.YtfalgjdhdgkbfaaGreatDoor.Bk
open Go.RowKit (wrap32 wrap64)

/-- Every new block is in the footprint. -/
def NewB (B : Nat → Prop) (w : World) : Prop := ∀ b, w.heap.size ≤ b → B b
theorem NewB.up {B : Nat → Prop} {w w' : World} (h : NewB B w) (hs : w.heap.size ≤ w'.heap.size) : NewB B w' := fun b hb => h b (Nat.le_trans hs hb)
/-- All blocks stay but those of the footprint. -/
structure Bel (B : Nat → Prop) (w w' : World) : Prop where
  os : w'.os = w.os
  tape : w'.tape = w.tape
  output : w'.output = w.output
  size : w.heap.size ≤ w'.heap.size
  block : ∀ k, k < w.heap.size → ¬ B k → w'.heap[k]? = w.heap[k]?
variable {B B' : Nat → Prop} {w w1 w2 w' : World} {e e' : TypeId} {v : Value} {n : Nat} {xs : List Value}
theorem Bel.refl (B : Nat → Prop) (w : World) : Bel B w w := ⟨rfl, rfl, rfl, Nat.le_refl _, fun _ _ _ => rfl⟩
theorem Bel.trans (h : Bel B w w1) (k : Bel B w1 w2) : Bel B w w2 := ⟨k.os.trans h.os, k.tape.trans h.tape, k.output.trans h.output, Nat.le_trans h.size k.size, fun b hb hn => (k.block b (Nat.lt_of_lt_of_le hb h.size) hn).trans (h.block b hb hn)⟩
theorem Bel.of (h : Below w.heap.size w w') : Bel B w w' := ⟨h.os, h.tape, h.output, h.size, fun b hb _ => h.block b hb⟩
theorem Bel.alloc (h : Bel B w w1) (_hb : NewB B w1) (o : Obj) : Bel B w (w1.alloc o) := h.trans (.of ((Below.refl _ _).alloc (Nat.le_refl _) o))
theorem Bel.grown {row : Option Nat} (h : Bel B w w1) (hg : w1.grownBy w2 row) (hr : ∀ j, row = some j → B j) : Bel B w w2 :=
  h.trans ⟨hg.os, hg.tape, hg.output, hg.size, fun b hb hn => hg.block b hb (fun k => hn (hr b k.symm))⟩
theorem Bel.setCell {b i : Nat} (h : Bel B w w1) (hb : B b) (u : Value) : Bel B w (w1.setCell ⟨b, i, none⟩ u) :=
  h.trans ⟨(Below.refl b w1 |>.setCell (Nat.le_refl _) u).os, (Below.refl b w1 |>.setCell (Nat.le_refl _) u).tape, (Below.refl b w1 |>.setCell (Nat.le_refl _) u).output, by simp [World.setCell], fun k _ hn => Below.heap_setCell _ _ _ _ (fun e => hn (by rw [show k = b from e]; exact hb))⟩
theorem Bel.drewN' (w : World) (d : Nat) : Bel B w (w.drewN d) := .of (Below.drewN' w d)
theorem Bel.drew (h : Bel B w w1) : Bel B w w1.drew := h.trans (Bel.drewN' w1 1)
theorem But.bel {b : Nat} (h : But w w' b) (hB : B b) : Bel B w w' := ⟨h.os, h.tape, h.output, Nat.le_of_eq h.size.symm, fun k _ hn => h.block k (fun e => hn (by rw [e]; exact hB))⟩
/-- A row of one's own, in the footprint. -/
def OwnR (w : World) (B : Nat → Prop) (e : TypeId) (v : Value) (n : Nat) (xs : List Value) : Prop :=
  xs.length = n * 1 ∧
  ((v = .slice none 0 0 ∧ n = 0) ∨
   ∃ g cap cur, v = .slice (some ⟨g, 0, none⟩) n cap ∧ B g ∧ w.heap[g]? = some (.cells cur e (0, 0)) ∧ n ≤ cap ∧ cap ≤ maxLen ∧ cur.size = cap * 1 ∧ cur.toList.take (n * 1) = xs)
theorem OwnR.own (h : OwnR w B e v n xs) : w.ownsRow 0 e 1 v n xs := by
  refine ⟨h.1, ?_⟩
  rcases h.2 with h2 | ⟨g, cap, cur, h1, _, h3⟩
  · exact .inl h2
  · exact .inr ⟨g, cap, cur, h1, Nat.zero_le _, h3⟩
theorem OwnR.of (h : w.ownsRow 0 e 1 v n xs) (hB : ∀ b, v.ownBlock = some b → B b) : OwnR w B e v n xs := by
  refine ⟨h.1, ?_⟩
  rcases h.2 with h2 | ⟨g, cap, cur, h1, _, h3⟩
  · exact .inl h2
  · exact .inr ⟨g, cap, cur, h1, hB g (by rw [h1]; rfl), h3⟩
theorem OwnR.lt (h : OwnR w B e v n xs) (b : Nat) (hb : v.ownBlock = some b) : B b ∧ b < w.heap.size := by
  refine ⟨?_, (h.own.lt b hb).2⟩
  rcases h.2 with ⟨h2, _⟩ | ⟨g, cap, cur, h1, hB, _⟩
  · rw [h2] at hb; cases hb
  · rw [h1] at hb
    have : g = b := by simpa [Value.ownBlock] using hb
    rw [← this]
    exact hB
theorem OwnR.inb (h : OwnR w B e v n xs) (b : Nat) (hb : v.ownBlock = some b) : B b := (h.lt b hb).1
theorem OwnR.alloc (h : OwnR w B e v n xs) (o : Obj) : OwnR (w.alloc o) B e v n xs := .of (h.own.alloc o) h.inb
theorem OwnR.kept {row : Option Nat} (h : OwnR w B e v n xs) (hg : w.grownBy w' row) (hne : v.ownBlock = none ∨ v.ownBlock ≠ row) : OwnR w' B e v n xs := .of (h.own.kept hg hne) h.inb
theorem OwnR.cells (h : OwnR w B e v n xs) {g : Nat} (hg : v.ownBlock = some g) : ∀ j u, xs[j]? = some u → w.cell? ((⟨g, 0, none⟩ : Addr).add j) = some u := h.own.cells hg
theorem OwnR.frozenAt {g cap : Nat} (h : OwnR w B e (.slice (some ⟨g, 0, none⟩) n cap) n xs) (j : Nat) : w.frozen? ⟨g, j, none⟩ = false := h.own.frozenAt j
theorem OwnR.stored {g cap : Nat} (h : OwnR w B e (.slice (some ⟨g, 0, none⟩) n cap) n xs) (j : Nat) (u : Value) : OwnR (w.setCell ⟨g, j, none⟩ u) B e (.slice (some ⟨g, 0, none⟩) n cap) n (xs.set j u) ∧ True := ⟨.of (h.own.stored j u).1 h.inb, trivial⟩
theorem OwnR.nil (w : World) (B : Nat → Prop) (e : TypeId) : OwnR w B e (.slice none 0 0) 0 [] := ⟨rfl, .inl ⟨rfl, rfl⟩⟩
theorem OwnR.mono (h : OwnR w B e v n xs) (hb : ∀ b, b < w.heap.size → B b → B' b) : OwnR w B' e v n xs := .of h.own (fun b k => hb b (h.lt b k).2 (h.lt b k).1)
theorem own_cells {a : Option Addr} {c : Nat} (h : OwnR w B e (.slice a n c) n xs) (hn : 0 < n) :
    ∃ b, a = some ⟨b, 0, none⟩ ∧ b < w.heap.size ∧ B b ∧ n ≤ c ∧ ∀ j, j < n → w.cell? ⟨b, j, none⟩ = xs[j]? := by
  obtain ⟨b, h1, h2, _, h4, h5⟩ := Bk.own_cells h.own hn
  exact ⟨b, h1, h2, h.inb b (by rw [h1]; rfl), h4, h5⟩
theorem own_shape' (h : OwnR w B e v n xs) : ∃ a c, v = .slice a n c := Bk.own_shape' h.own
theorem Same.grown (ho : OwnR w B e' v n xs) (hg : w.grownBy w' v.ownBlock) (hne : e ≠ e') : Same e w w' := Bk.Same.grown ho.own hg hne
theorem wpList_append_keeps {P : Program} (w : World) {ops : Array Oper} {rest : List Oper} {o : Oper} {a : Act} {Q : Exit → Act → World → Prop} (hgd : o.guard = none) (s x : Operand) (t : TypeId)
    (ho : o.op = .call { callee := .builtin .append, args := #[s, x], argTypes := #[t, t] })
    (base : Nat → Prop) (e : TypeId) (i : TypeInfo) (z : Value) (bytes : Nat) (ht : P.underlying t = some (.slice e)) (hi : P.info? e = some i) (hz : i.zero = some z)
    (hsize : i.size = 1) (hby : i.bytes = bytes) (hzs : z.cells.size = 1)
    (v : Value) (n : Nat) (xs : List Value) (hs : a.eval s = v) (hown : OwnR w base e v n xs)
    (ad : Addr) (c : Nat) (u : Value) (hx : a.eval x = .slice (some ad) 1 c) (hu : w.cell? ad = some u) (h1 : u.oneCell' = true)
    (h63 : n + 1 ≤ maxLen) (hbytes : (n + 1) * bytes ≤ 140737488355328) (hbase : NewB base w)
    (h : ∀ g cap w', OwnR w' base e (.slice (some ⟨g, 0, none⟩) (n + 1) cap) (n + 1) (xs ++ [u]) → w.grownBy w' v.ownBlock → (v.ownBlock = some g ∨ g = w.heap.size) → (∀ k, v.ownBlock = some k → KeepsTo w w' k n e) → wpList P ops Q rest (a.put o.dst (.slice (some ⟨g, 0, none⟩) (n + 1) cap)) w') : wpList P ops Q (o :: rest) a w :=
  Bk.wpList_append_keeps w hgd s x t ho 0 e i z bytes ht hi hz hsize hby hzs v n xs hs hown.own ad c u hx hu h1 h63 hbytes (Nat.zero_le _) (fun g cap w' q1 q2 q3 q4 => h g cap w' (.of q1 (fun b hb => by
    have hgb : g = b := by simpa [Value.ownBlock] using hb
    rw [← hgb]
    rcases q3 with q | q
    · exact hown.inb g q
    · exact hbase g (by omega))) q2 q3 q4)
end Go.Proofs.YtfalgjdhdgkbfaaGreatDoor.Bq

namespace Go.Proofs.YtfalgjdhdgkbfaaGreatDoor.Bq
open Go Go.RowKit Go.Proofs.YtfalgjdhdgkbfaaGreatDoor.Bk
open Go.RowKit (wrap32 wrap64)

theorem own_same {e : TypeId} {w w' : World} {B : Nat → Prop} {n : Nat} {v : Value} {xs : List Value} (h : OwnR w B e v n xs) (s : Same e w w') : OwnR w' B e v n xs := by
  refine ⟨h.1, ?_⟩
  rcases h.2 with h2 | ⟨g, cap, cur, hv, hg, hh, r⟩
  · exact Or.inl h2
  · exact Or.inr ⟨g, cap, cur, hv, hg, by rw [s g _ _ hh]; exact hh, r⟩






/-- A list that is the book's own, marked. -/
def Fresh (w : World) (B : Nat → Prop) (g : Value) (m : Nat) : Prop := ∃ n, n ≤ 16777216 ∧ OwnR w B 5 g n (cb (markL m n))


theorem own_held {w : World} {B : Nat → Prop} {n m : Nat} {g : Value} (hn : n ≤ 33554432) (h : OwnR w B 5 g n (cb (markL m n))) : Held w g m := by
  rcases h.2 with ⟨rfl, rfl⟩ | ⟨b, cap, cur, rfl, _, hg, hle, _, hs, ht⟩
  · exact ⟨_, _, _, rfl, hn, fun h => by omega⟩
  · refine ⟨_, _, _, rfl, hn, fun _ => ⟨b, cur, rfl, hg, fun j hj => ?_⟩⟩
    rw [← cb_markL m n j hj, ← ht, List.getElem?_take, if_pos (by omega)]
    simp

/-- The book: its cells, its lists, their marks; those from k to N are its own, each alone. -/
structure Bst (w : World) (B : Nat → Prop) (bk : Nat) (v0 v1 : Value) (A T D U : Int) (gs : List Value) (ms : List Nat) (k N : Nat) : Prop where
  cells : Bkc w bk v0 v1 A T D U
  row0 : OwnR w B 28 v0 gs.length gs
  row1 : OwnR w B 3 v1 gs.length (ci ms)
  held : ∀ (i : Nat) g m, gs[i]? = some g → ms[i]? = some m → Held w g m
  mle : ∀ m ∈ ms, m ≤ 1099511627776
  fresh : ∀ (i : Nat) g m, k ≤ i → i < N → gs[i]? = some g → ms[i]? = some m → Fresh w B g m ∧ ∀ (j : Nat) g', j ≠ i → gs[j]? = some g' → Apart g' g
  lowb : ∀ (i : Nat) g b, gs[i]? = some g → g.ownBlock = some b → b < w.heap.size ∧ B b
theorem Bst.low {w : World} {B : Nat → Prop} {bk : Nat} {v0 v1 : Value} {A T D U : Int} {gs : List Value} {ms : List Nat} {k N : Nat} (h : Bst w B bk v0 v1 A T D U gs ms k N) : ∀ (i : Nat) g b, gs[i]? = some g → g.ownBlock = some b → b < w.heap.size := fun i g b q1 q2 => (h.lowb i g b q1 q2).1

theorem Bst.len {w : World} {B : Nat → Prop} {bk : Nat} {v0 v1 : Value} {A T D U : Int} {gs : List Value} {ms : List Nat} {k N : Nat} (h : Bst w B bk v0 v1 A T D U gs ms k N) : ms.length = gs.length := by
  have := h.row1.1
  rw [ci_length] at this
  omega

theorem Bst.same {w w' : World} {B : Nat → Prop} {bk : Nat} {v0 v1 : Value} {A T D U : Int} {gs : List Value} {ms : List Nat} {k N : Nat} (h : Bst w B bk v0 v1 A T D U gs ms k N) (s : ∀ e, e = 5 ∨ e = 28 ∨ e = 3 ∨ e = 59 → Same e w w') (hsz : w.heap.size ≤ w'.heap.size) : Bst w' B bk v0 v1 A T D U gs ms k N where
  cells := bkc_same h.cells (s 59 (by simp))
  row0 := own_same h.row0 (s 28 (by simp))
  row1 := own_same h.row1 (s 3 (by simp))
  held := fun i g m hg hm => held_same (h.held i g m hg hm) (s 5 (by simp))
  mle := h.mle
  fresh := fun i g m h1 h2 hg hm => by
    obtain ⟨⟨n, hn, ho⟩, h4⟩ := h.fresh i g m h1 h2 hg hm
    exact ⟨⟨n, hn, own_same ho (s 5 (by simp))⟩, h4⟩
  lowb := fun i g b hg hb => ⟨Nat.lt_of_lt_of_le (h.low i g b hg hb) hsz, (h.lowb i g b hg hb).2⟩

/-- The book behind one more byte of mark at the end of a list of its own. -/
theorem Bst.grew {w w' : World} {B : Nat → Prop} {bk : Nat} {v0 v1 : Value} {A T D U : Int} {gs : List Value} {ms : List Nat} {k N : Nat} (h : Bst w B bk v0 v1 A T D U gs ms k N) {gv : Value} {lg : Nat} {xs : List Value} (ho : OwnR w B 5 gv lg xs)
    (hg : w.grownBy w' gv.ownBlock) (hk : ∀ b, gv.ownBlock = some b → KeepsTo w w' b lg 5)
    (hsafe : ∀ (j : Nat) g', gs[j]? = some g' → slen g' ≤ lg ∨ g'.ownBlock ≠ gv.ownBlock) (hap : ∀ (i : Nat) r, k ≤ i → i < N → gs[i]? = some r → Apart r gv) : Bst w' B bk v0 v1 A T D U gs ms k N where
  cells := bkc_same h.cells (Same.grown ho hg (by decide))
  row0 := own_same h.row0 (Same.grown ho hg (by decide))
  row1 := own_same h.row1 (Same.grown ho hg (by decide))
  held := fun i g m hgi hm => by
    refine held_keeps (h.held i g m hgi hm) (fun b hb => ?_)
    by_cases hq : some b = gv.ownBlock
    · intro cs hcs
      obtain ⟨cs', hb', hc'⟩ := hk b hq.symm cs hcs
      refine ⟨cs', hb', fun j hj => hc' j ?_⟩
      rcases hsafe i g hgi with h1 | h1
      · omega
      · exact absurd (hb.trans hq) h1
    · intro cs hcs
      exact ⟨cs, by rw [hg.block b (Array.getElem?_eq_some_iff.1 hcs).1 hq]; exact hcs, fun _ _ => rfl⟩
  mle := h.mle
  fresh := fun i g m h1 h2 hgi hm => by
    obtain ⟨⟨n, hn, hown⟩, h4⟩ := h.fresh i g m h1 h2 hgi hm
    exact ⟨⟨n, hn, hown.kept hg (hap i g h1 h2 hgi)⟩, h4⟩
  lowb := fun i g b hgi hb => ⟨Nat.lt_of_lt_of_le (h.low i g b hgi hb) hg.size, (h.lowb i g b hgi hb).2⟩


/-- The book behind one list more. -/
theorem Bst.push {w w' : World} {B : Nat → Prop} {bk : Nat} {v0 v1 v0' v1' : Value} {A T D U U' T' : Int} {gs : List Value} {ms : List Nat} {k N : Nat} (h : Bst w B bk v0 v1 A T D U gs ms k N) {gv : Value} {m : Nat}
    (hc : Bkc w' bk v0' v1' A T' D U') (h0 : OwnR w' B 28 v0' (gs.length + 1) (gs ++ [gv])) (h1 : OwnR w' B 3 v1' (gs.length + 1) (ci ms ++ [.int .i64 m])) (hs : Same 5 w w')
    (hh : Held w' gv m) (hm : m ≤ 1099511627776) (hN : N ≤ gs.length) (hap : ∀ (i : Nat) r, k ≤ i → i < N → gs[i]? = some r → Apart gv r) (hsz : w.heap.size ≤ w'.heap.size) (hgl : ∀ b, gv.ownBlock = some b → b < w'.heap.size ∧ B b) : Bst w' B bk v0' v1' A T' D U' (gs ++ [gv]) (ms ++ [m]) k N where
  cells := hc
  row0 := by rw [List.length_append]; exact h0
  row1 := by rw [List.length_append]; simpa [ci] using h1
  held := fun i g q hg hq => by
    have hl := h.len
    by_cases hi : i < gs.length
    · rw [List.getElem?_append_left hi] at hg
      rw [List.getElem?_append_left (by omega)] at hq
      exact held_same (h.held i g q hg hq) hs
    · rw [List.getElem?_append_right (by omega)] at hg
      rw [List.getElem?_append_right (by omega)] at hq
      have hi2 : i = gs.length := by
        have := (List.getElem?_eq_some_iff.1 hg).1
        simp at this
        omega
      subst hi2
      rw [hl] at hq
      simp at hg hq
      subst hg
      subst hq
      exact hh
  mle := fun q hq => by
    rcases List.mem_append.1 hq with h2 | h2
    · exact h.mle q h2
    · simp at h2; omega
  fresh := fun i g q h2 h3 hg hq => by
    have hl := h.len
    rw [List.getElem?_append_left (by omega)] at hg
    rw [List.getElem?_append_left (by omega)] at hq
    obtain ⟨⟨n, hn, ho⟩, h4⟩ := h.fresh i g q h2 h3 hg hq
    refine ⟨⟨n, hn, own_same ho hs⟩, fun j g' hj hg' => ?_⟩
    by_cases hjl : j < gs.length
    · rw [List.getElem?_append_left hjl] at hg'
      exact h4 j g' hj hg'
    · rw [List.getElem?_append_right (by omega)] at hg'
      have hj2 : j = gs.length := by
        have := (List.getElem?_eq_some_iff.1 hg').1
        simp at this
        omega
      subst hj2
      simp at hg'
      subst hg'
      exact hap i g h2 h3 hg
  lowb := fun i g b hg hb => by
    by_cases hi : i < gs.length
    · rw [List.getElem?_append_left hi] at hg
      exact ⟨Nat.lt_of_lt_of_le (h.low i g b hg hb) hsz, (h.lowb i g b hg hb).2⟩
    · rw [List.getElem?_append_right (by omega)] at hg
      have hi2 : i = gs.length := by
        have := (List.getElem?_eq_some_iff.1 hg).1
        simp at this
        omega
      subst hi2
      simp at hg
      subst hg
      exact hgl b hb
end Go.Proofs.YtfalgjdhdgkbfaaGreatDoor.Bq
