/- RingLives: one cell of a fate of the call's own is stored. -/
import Derived.Test.YtmpcpakdocaieaaFateB
import Derived.Laws.OwnMore
namespace Go.Proofs.Ytmpcpakdocaieaa
open Go Go.RowKit

theorem Ft.set34 {f : Ft} (h : f.sec.length = 32) (k : Nat) (x : Bool) : (Ft.mk f.sec f.til x).cells k = (f.cells k).set 34 (.bool x) := by
  unfold Ft.cells
  rw [List.set_cons_succ, List.set_append_right _ _ (by rw [byteCells_length]; omega), byteCells_length, h]
  rfl
theorem Ft.set33 {f : Ft} (h : f.sec.length = 32) (k : Nat) (x : Int) : (Ft.mk f.sec x f.gone).cells k = (f.cells k).set 33 (.int .i64 x) := by
  unfold Ft.cells
  rw [List.set_cons_succ, List.set_append_right _ _ (by rw [byteCells_length]; omega), byteCells_length, h]
  rfl
theorem fcs_set : ∀ (fs : List Ft) (k i : Nat) (f f' : Ft) (j : Nat) (v : Value), (∀ f ∈ fs, f.sec.length = 32) → fs[i]? = some f → j < 35 → f'.cells (k + i) = (f.cells (k + i)).set j v → fcs k (fs.set i f') = (fcs k fs).set (i * 35 + j) v
  | [], _, _, _, _, _, _, _, h, _, _ => by simp at h
  | g :: fs, k, 0, f, f', j, v, hs, h, hj, hc => by
    simp only [List.getElem?_cons_zero, Option.some.injEq] at h
    subst h
    show f'.cells k ++ fcs (k + 1) fs = (g.cells k ++ fcs (k + 1) fs).set (0 * 35 + j) v
    rw [Nat.zero_mul, Nat.zero_add, List.set_append_left _ _ (by rw [Ft.cells_length (hs g List.mem_cons_self)]; exact hj)]
    rw [Nat.add_zero] at hc
    rw [hc]
  | g :: fs, k, i + 1, f, f', j, v, hs, h, hj, hc => by
    have ih := fcs_set fs (k + 1) i f f' j v (fun g hg => hs g (List.mem_cons_of_mem _ hg)) (by simpa using h) hj (by rw [show k + 1 + i = k + (i + 1) by omega]; exact hc)
    have hl := Ft.cells_length (k := k) (hs g List.mem_cons_self)
    show g.cells k ++ fcs (k + 1) (fs.set i f') = (g.cells k ++ fcs (k + 1) fs).set ((i + 1) * 35 + j) v
    rw [ih, List.set_append_right _ _ (by rw [hl]; omega), hl, show (i + 1) * 35 + j - 35 = i * 35 + j by omega]
theorem OutF.set {B : Nat} {w : World} {g c : Nat} {fs : List Ft} (h : OutF B w (.slice (some ⟨g, 0, none⟩) fs.length c) fs) (i : Nat) (f f' : Ft) (j : Nat) (v : Value) (hi : fs[i]? = some f) (hj : j < 35) (hf' : f'.sec.length = 32) (hc : f'.cells (1 + i) = (f.cells (1 + i)).set j v) :
    OutF B (w.setCell ⟨g, i * 35 + j, none⟩ v) (.slice (some ⟨g, 0, none⟩) (fs.set i f').length c) (fs.set i f') := by
  refine ⟨fun x hx => ?_, ?_⟩
  · rcases List.mem_or_eq_of_mem_set hx with hx | rfl
    · exact h.1 x hx
    · exact hf'
  · rw [fcs_set fs 1 i f f' j v h.1 hi hj hc, List.length_set]
    exact (World.ownsRow.stored h.2 (i * 35 + j) v).1
theorem OutF.gone {B : Nat} {w : World} {g c : Nat} {fs : List Ft} (h : OutF B w (.slice (some ⟨g, 0, none⟩) fs.length c) fs) (i : Nat) (f : Ft) (x : Bool) (hi : fs[i]? = some f) :
    OutF B (w.setCell ⟨g, i * 35 + 34, none⟩ (.bool x)) (.slice (some ⟨g, 0, none⟩) fs.length c) (fs.set i ⟨f.sec, f.til, x⟩) := by
  have hs := h.1 f (List.mem_of_getElem? hi)
  have := h.set i f ⟨f.sec, f.til, x⟩ 34 (.bool x) hi (by decide) hs (Ft.set34 hs _ _)
  rw [List.length_set] at this
  exact this
theorem OutF.til {B : Nat} {w : World} {g c : Nat} {fs : List Ft} (h : OutF B w (.slice (some ⟨g, 0, none⟩) fs.length c) fs) (i : Nat) (f : Ft) (x : Int) (hi : fs[i]? = some f) :
    OutF B (w.setCell ⟨g, i * 35 + 33, none⟩ (.int .i64 x)) (.slice (some ⟨g, 0, none⟩) fs.length c) (fs.set i ⟨f.sec, x, f.gone⟩) := by
  have hs := h.1 f (List.mem_of_getElem? hi)
  have := h.set i f ⟨f.sec, x, f.gone⟩ 33 (.int .i64 x) hi (by decide) hs (Ft.set33 hs _ _)
  rw [List.length_set] at this
  exact this
end Go.Proofs.Ytmpcpakdocaieaa
