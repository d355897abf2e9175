/- The walks of the Writer's Text, ID, Done. -/
import Derived.Test.YtfalgjdhdgkbfaaGreatDoorWalkF
import Derived.Laws.IdiomStrings
import Derived.Laws.CopyOwn
namespace Go.Proofs.YtfalgjdhdgkbfaaGreatDoor
open Go Go.RowKit
open Go.RowKit (wrap32 wrap64)

theorem conv_sb (w : World) (s : ByteArray) : ∃ w' c, (convert 9 28 (.string s)).run Tryz.prog w = .ok (.slice (some ⟨w.heap.size, 0, none⟩) s.size c) w' ∧ w.grownBy w' none ∧ Rd w' (fun g => w.heap.size ≤ g) (.slice (some ⟨w.heap.size, 0, none⟩) s.size c) s.data.toList := by
  have hge := grownCap_ge w s.size 0 5
  refine ⟨_, _, run_bytes_of_string w 9 28 5 s Tryz.underlying9 Tryz.underlying28 Tryz.underlying5, ⟨rfl, rfl, rfl, by simp, fun k hk _ => ?_⟩, ?_⟩
  · show (w.heap.push _)[k]? = _
    rw [Array.getElem?_push, if_neg (by omega)]
  · have hh : ∀ (cs : Array Value) (fr : Nat × Nat), (w.drew.alloc (.cells cs 5 fr)).heap[w.heap.size]? = some (.cells cs 5 fr) := fun cs fr => by
      show (w.heap.push _)[w.heap.size]? = _
      simp
    refine ⟨some ⟨w.heap.size, 0, none⟩, w.heap.size, 0, _, by rw [Array.length_toList]; rfl, by rw [Array.length_toList]; exact hge, (fun h => by cases h), fun _ => ⟨rfl, by simp, Nat.le_refl _⟩, fun i hi => ?_⟩
    rw [Array.length_toList] at hi
    have := bytesRow_at s (grownCap w s.size 0 5) i hi
    simp only [World.cell?, hh]
    simpa using this

set_option maxRecDepth 100000 in
set_option maxHeartbeats 1000000 in
theorem wtext_ok (w : World) (b t m o : Nat) (f : Nat → Value) (F : Nat → Prop) (l : List UInt8) (s : ByteArray) (bad : Nat) (h : Wr w b t m o f F l bad) (hF : ∀ g, w.heap.size ≤ g → F g) (hl : l.length ≤ 17592186040000) (hx : s.size ≤ 1048576) :
    Calls Tryz.prog 34 #[.pointer (some ⟨b, o, none⟩), .string s] w fun e w' => e = .returned (.tuple #[]) ∧ (∃ f', Wr w' b t m o f' F (wrow bad l s.data.toList) bad ∧ Els o f f') ∧ w.grownBy w' (some b) := by
  obtain ⟨x, hxe⟩ : ∃ x, s.data.toList = x := ⟨_, rfl⟩
  have hxl : x.length = s.size := by rw [← hxe, Array.length_toList]; rfl
  rw [hxe]
  have HB := hid (begin_ok w b t m o f F l bad x.length h hF (by omega) (by omega))
  rw [hxl] at HB
  have hlen : (wl bad l (layL x.length 4)).length ≤ l.length + 4 := by unfold wl; split <;> simp [layL_length]
  have HL : Hid (∀ (u : World) (g : Nat → Value) (y : Value), Wr u b t m o g F (wl bad l (layL s.size 4)) bad → w.heap.size ≤ u.heap.size → Rd u F y x → Calls Tryz.prog 68 #[.pointer (some ⟨b, o, none⟩), y] u fun e w' => e = .returned (.tuple #[]) ∧ (∃ f', Wr w' b t m o f' F (wrow bad l x) bad ∧ Els o g f') ∧ u.grownBy w' (some b)) := fun u g y hW hz hy => by
    rw [← hxl] at hW
    have := lay_any u b t m o g F _ bad y x hW hy (fun k hk => hF k (Nat.le_trans hz hk)) (by omega)
    rw [show (if bad = 0 then wl bad l (layL x.length 4) ++ x else wl bad l (layL x.length 4)) = wrow bad l x from wl_wl bad l _ x] at this
    exact this
  have HC : Hid (∀ u : World, ∃ w' c, (convert 9 28 (.string s)).run Tryz.prog u = .ok (.slice (some ⟨u.heap.size, 0, none⟩) s.size c) w' ∧ u.grownBy w' none ∧ Rd w' (fun g => u.heap.size ≤ g) (.slice (some ⟨u.heap.size, 0, none⟩) s.size c) x) := fun u => by
    have := conv_sb u s
    rw [hxe] at this
    exact this
  have HZ : Hid (bad ≠ 0 → wl bad l (layL s.size 4) = wrow bad l x) := hid (fun hb => by unfold wrow wl; rw [if_neg hb, if_neg hb])
  clear h hlen hxe hxl
  by_cases hb : bad = 0
  · rw [show (bad == 0) = true by simpa using hb] at HB
    clear hb HZ
    go_enter Tryz.func34, Tryz.ntmps34
    go_wp2_with (first
      | (go_at_call 73; refine (HB.out).mono ?_; rintro e w1 ⟨rfl, ⟨f1, hW1, hE1⟩, hg1⟩; have HW1 := hid hW1; have HE1 := hid hE1; have HG1 := hid hg1; clear hW1 hE1 hg1; obtain ⟨w2, c2, hcv, hg2, hr2⟩ := HC.out w1; have HW2 := hid (HW1.out.keep hg2); have HR2 := hid (hr2.mono (fun k _ hk => hF k (Nat.le_trans HG1.out.size hk))); have HG2 := hid (gtrans HG1.out (gsome hg2 (some b))); clear hg2 hr2)
      | (go_at_call 68; refine (HL.out _ _ _ HW2.out HG2.out.size HR2.out).mono ?_; rintro e w3 ⟨rfl, ⟨f3, hW3, hE3⟩, hg3⟩))
    go_end0
    exact ⟨rfl, ⟨f3, hW3, HE1.out.trans hE3⟩, gtrans HG2.out hg3⟩
  · rw [show (bad == 0) = false by simpa using hb, HZ.out hb] at HB
    clear hb HZ
    go_enter Tryz.func34, Tryz.ntmps34
    go_wp2_with (go_at_call 73; refine (HB.out).mono ?_; rintro e w1 ⟨rfl, ⟨f1, hW1, hE1⟩, hg1⟩; have HW1 := hid hW1; have HE1 := hid hE1; have HG1 := hid hg1; clear hW1 hE1 hg1)
    go_end0
    exact ⟨rfl, ⟨f1, HW1.out, HE1.out⟩, HG1.out⟩
set_option maxRecDepth 100000 in
set_option maxHeartbeats 1000000 in
theorem wtext_no (w : World) (b t m o : Nat) (f : Nat → Value) (F : Nat → Prop) (l : List UInt8) (bad : Nat) (s : ByteArray) (h : Wr w b t m o f F l bad) (hn : 1048576 < s.size) (hn2 : s.size ≤ 140737488355328) :
    Calls Tryz.prog 34 #[.pointer (some ⟨b, o, none⟩), .string s] w fun e w' => e = .returned (.tuple #[]) ∧ (∃ f', Wr w' b t m o f' F (wz bad l) (ref bad 31) ∧ Els o f f') ∧ w.grownBy w' (some b) := by
  have HB := hid (begin_no w b t m o f F l bad s.size h hn hn2)
  clear h
  go_enter Tryz.func34, Tryz.ntmps34
  go_wp2_with (go_at_call 73; refine (HB.out).mono ?_; rintro e w1 ⟨rfl, hW1, hg1⟩)
  go_end0
  exact ⟨rfl, hW1, hg1⟩

set_option maxRecDepth 100000 in
set_option maxHeartbeats 1000000 in
theorem wid_any (w : World) (b t m o : Nat) (f : Nat → Value) (F : Nat → Prop) (l d : List UInt8) (bad : Nat) (h : Wr w b t m o f F l bad) (hF : ∀ g, w.heap.size ≤ g → F g) (hl : l.length ≤ 17592186044416) (hd : d.length = 16) :
    Calls Tryz.prog 36 #[.pointer (some ⟨b, o, none⟩), .agg (Lib.byteCells d).toArray] w fun e w' => e = .returned (.tuple #[]) ∧ (∃ f', Wr w' b t m o f' F (wl bad l d) bad ∧ Els o f f') ∧ w.grownBy w' (some b) := by
  have HL : Hid (∀ (u : World) (y : Value), w.grownBy u none → Rd u F y d → Calls Tryz.prog 68 #[.pointer (some ⟨b, o, none⟩), y] u fun e w' => e = .returned (.tuple #[]) ∧ (∃ f', Wr w' b t m o f' F (wl bad l d) bad ∧ Els o f f') ∧ u.grownBy w' (some b)) := fun u y hu hy =>
    lay_any u b t m o f F l bad y d (h.keep hu) hy (fun k hk => hF k (Nat.le_trans hu.size hk)) (by omega)
  have HC : Hid (Calls Tryz.prog 50 #[.slice (some ⟨w.heap.size, 0, none⟩) 16 16] (w.alloc (.cells (Lib.byteCells d).toArray 65)) fun e w' => ∃ v', e = .returned v' ∧ Out (w.alloc (.cells (Lib.byteCells d).toArray 65)).heap.size w' v' d ∧ (w.alloc (.cells (Lib.byteCells d).toArray 65)).grownBy w' none) :=
    clone_any d (fun _ => True) _ _ (by omega) ⟨some ⟨w.heap.size, 0, none⟩, w.heap.size, 0, 16, by rw [hd], by omega, (fun h => by cases h), fun _ => ⟨rfl, by simp, trivial⟩, fun i hi => by
      have := heap_new w (Lib.byteCells d).toArray 65
      simp only [World.cell?, this]
      simp [Lib.byteCells, List.getElem?_eq_getElem hi]⟩
  clear h
  generalize (Lib.byteCells d).toArray = cs at HC ⊢
  go_enter Tryz.func36, Tryz.ntmps36
  go_wp2_with (first
    | (go_at_call 50; refine (HC.out).mono ?_; rintro e w2 ⟨v2, rfl, hO2, hg2⟩; have HG2 := hid (gtrans (galloc w _ none) hg2); have HR2 := hid (hO2.rdF (fun k hk => hF k (by simp at hk; omega))); clear hO2 hg2)
    | (go_at_call 68; refine (HL.out _ _ HG2.out HR2.out).mono ?_; rintro e w3 ⟨rfl, hW3, hg3⟩))
  go_end0
  exact ⟨rfl, hW3, gtrans (gsome HG2.out (some b)) hg3⟩
end Go.Proofs.YtfalgjdhdgkbfaaGreatDoor
