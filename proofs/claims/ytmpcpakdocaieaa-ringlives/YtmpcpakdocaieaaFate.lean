/- RingLives: a fate's cells, and rows of fates. -/
import Derived.Test.YtmpcpakdocaieaaLvQ
import Derived.Test.YtmpcpakdocaieaaGrow2
namespace Go.Proofs.Ytmpcpakdocaieaa
open Go Go.RowKit

/-- A fate's cells: its kid, secret, until, gone. -/
def Ft.cells (k : Nat) (f : Ft) : List Value := .int .u64 k :: (Lib.byteCells f.sec ++ [.int .i64 f.til, .bool f.gone])
theorem Ft.cells_length {k : Nat} {f : Ft} (h : f.sec.length = 32) : (f.cells k).length = 35 := by simp [Ft.cells, byteCells_length, h]
theorem Ft.one (k : Nat) (f : Ft) : ∀ v ∈ f.cells k, v.oneCell' = true := by
  intro v hv
  unfold Ft.cells at hv
  simp only [List.mem_cons, List.mem_append, List.not_mem_nil, or_false] at hv
  rcases hv with rfl | hv | rfl | rfl
  · rfl
  · exact bcs_one _ v hv
  · rfl
  · rfl
theorem Ft.c0 (k : Nat) (f : Ft) : (f.cells k)[0]? = some (.int .u64 k) := rfl
theorem Ft.c33 {k : Nat} {f : Ft} (h : f.sec.length = 32) : (f.cells k)[33]? = some (.int .i64 f.til) := by
  unfold Ft.cells
  rw [List.getElem?_cons_succ, List.getElem?_append_right (by rw [byteCells_length]; omega), byteCells_length, h]
  rfl
theorem Ft.c34 {k : Nat} {f : Ft} (h : f.sec.length = 32) : (f.cells k)[34]? = some (.bool f.gone) := by
  unfold Ft.cells
  rw [List.getElem?_cons_succ, List.getElem?_append_right (by rw [byteCells_length]; omega), byteCells_length, h]
  rfl
theorem Ft.sec_at {k : Nat} {f : Ft} {u : World} {b o : Nat} (h : u.rangeAt b o (f.cells k)) : u.rangeAt b (o + 1) (Lib.byteCells f.sec) := by
  intro j v hv
  have h1 : (f.cells k)[j + 1]? = some v := by
    unfold Ft.cells
    rw [List.getElem?_cons_succ, List.getElem?_append_left (List.getElem?_eq_some_iff.1 hv).1]
    exact hv
  have := h (j + 1) v h1
  rw [show o + 1 + j = o + (j + 1) by omega]
  exact this
theorem Try.size96 : (Try.prog.info? 96).map (·.size) = some 35 := by kernel_rfl
theorem Try.zero96 : (Try.prog.info? 96).map (fun i => i.zero) = some (some (.agg ((Ft.mk z32 0 false).cells 0).toArray)) := by kernel_rfl
theorem idx97 (b o n c i : Nat) (h : i < n) (u : World) : (Instr.indexAt 97 (.slice (some ⟨b, o, none⟩) n c) (.int .i64 (i : Nat))).run Try.prog u = .ok (.pointer (some ⟨b, o + i * 35, none⟩)) u := by
  have h' : (i : Int) < (n : Int) := by omega
  go_simp
/-- The cells of a row of fates, the first one's kid being k. -/
def fcs : Nat → List Ft → List Value
  | _, [] => []
  | k, f :: fs => f.cells k ++ fcs (k + 1) fs
theorem fcs_length : ∀ (fs : List Ft) (k : Nat), (∀ f ∈ fs, f.sec.length = 32) → (fcs k fs).length = fs.length * 35
  | [], _, _ => rfl
  | f :: fs, k, h => by
    show (f.cells k ++ fcs (k + 1) fs).length = _
    rw [List.length_append, Ft.cells_length (h f List.mem_cons_self), fcs_length fs (k + 1) (fun g hg => h g (List.mem_cons_of_mem _ hg)), List.length_cons]
    omega
theorem fcs_append : ∀ (fs gs : List Ft) (k : Nat), fcs k (fs ++ gs) = fcs k fs ++ fcs (k + fs.length) gs
  | [], gs, k => rfl
  | f :: fs, gs, k => by
    show f.cells k ++ fcs (k + 1) (fs ++ gs) = (f.cells k ++ fcs (k + 1) fs) ++ _
    rw [fcs_append fs gs (k + 1), List.append_assoc, show k + 1 + fs.length = k + (f :: fs).length by simp; omega]
theorem fcs_get : ∀ (fs : List Ft) (k : Nat), (∀ f ∈ fs, f.sec.length = 32) → ∀ (i : Nat) (f : Ft), fs[i]? = some f → ∀ j, j < 35 → (fcs k fs)[i * 35 + j]? = (f.cells (k + i))[j]?
  | [], _, _, i, f, h, _, _ => by simp at h
  | g :: fs, k, hs, 0, f, h, j, hj => by
    simp only [List.getElem?_cons_zero, Option.some.injEq] at h
    subst h
    show (g.cells k ++ fcs (k + 1) fs)[0 * 35 + j]? = _
    rw [Nat.zero_mul, Nat.zero_add, List.getElem?_append_left (by rw [Ft.cells_length (hs g List.mem_cons_self)]; exact hj)]
    rfl
  | g :: fs, k, hs, i + 1, f, h, j, hj => by
    have ih := fcs_get fs (k + 1) (fun g hg => hs g (List.mem_cons_of_mem _ hg)) i f (by simpa using h) j hj
    show (g.cells k ++ fcs (k + 1) fs)[(i + 1) * 35 + j]? = _
    have hl := Ft.cells_length (k := k) (hs g List.mem_cons_self)
    rw [List.getElem?_append_right (by rw [hl]; omega), hl, show (i + 1) * 35 + j - 35 = i * 35 + j by omega, ih, show k + 1 + i = k + (i + 1) by omega]
end Go.Proofs.Ytmpcpakdocaieaa
