/- Values that were lent come back: BackValues, BackValue. -/
import Derived.Test.YtdmnhkgiojkphaaGreatDoorX26
import Derived.Test.YtdmnhkgiojkphaaGreatDoorX27
namespace Go.Proofs.YtdmnhkgiojkphaaGreatDoor
open Go Go.RowKit
open Go.RowKit (wrap32 wrap64)

theorem idx22 (b o n c i : Nat) (h : i < n) (u : World) : (Instr.indexAt 22 (.slice (some ⟨b, o, none⟩) n c) (.int .i64 (i : Nat))).run Tryz.prog u = .ok (.pointer (some ⟨b, o + i * 6, none⟩)) u := by
  have h' : (i : Int) < (n : Int) := by omega
  go_simp
theorem range6 {u : World} {b o : Nat} {a0 a1 a2 a3 a4 a5 : Value} (y0 : u.cell? ⟨b, o, none⟩ = some a0) (y1 : u.cell? ⟨b, o + 1, none⟩ = some a1) (y2 : u.cell? ⟨b, o + 2, none⟩ = some a2) (y3 : u.cell? ⟨b, o + 3, none⟩ = some a3) (y4 : u.cell? ⟨b, o + 4, none⟩ = some a4) (y5 : u.cell? ⟨b, o + 5, none⟩ = some a5) : u.rangeAt b o [a0, a1, a2, a3, a4, a5] := by
  intro j v hv
  match j, hv with
  | 0, hv => simp at hv; subst hv; exact y0
  | 1, hv => simp at hv; subst hv; exact y1
  | 2, hv => simp at hv; subst hv; exact y2
  | 3, hv => simp at hv; subst hv; exact y3
  | 4, hv => simp at hv; subst hv; exact y4
  | 5, hv => simp at hv; subst hv; exact y5
  | j + 6, hv => simp at hv
theorem LentIs.row {w : World} {F : Nat → Prop} {g : Nat} : ∀ (l : List Tree) {o : Nat}, LentIs w F g o l → ∀ (i : Nat) (hi : i < l.length), ∃ cs, cs.length = 6 ∧ w.rangeAt g (o + i * 6) cs ∧ LentT w F l[i] (.agg cs.toArray)
  | [], _, _, i, hi => by simp at hi
  | x :: r, o, h, 0, _ => by
    rw [LentIs] at h
    obtain ⟨⟨a, b, c, d, e, f, h0, h1, h2, h3, h4, h5, ht⟩, _⟩ := h
    exact ⟨[a, b, c, d, e, f], rfl, by rw [Nat.zero_mul]; exact range6 h0 h1 h2 h3 h4 h5, ht⟩
  | x :: r, o, h, i + 1, hi => by
    rw [LentIs] at h
    obtain ⟨cs, h1, h2, h3⟩ := LentIs.row r h.2 i (by simpa using hi)
    exact ⟨cs, h1, by rw [show o + (i + 1) * 6 = o + 6 + i * 6 by omega]; exact h2, h3⟩
theorem RdIs.row {w : World} {F : Nat → Prop} {g : Nat} : ∀ (l : List Tree) {o : Nat}, RdIs w F g o l → ∀ (i : Nat) (hi : i < l.length), ∃ cs, cs.length = 6 ∧ w.rangeAt g (o + i * 6) cs ∧ RdT w F l[i] (.agg cs.toArray)
  | [], _, _, i, hi => by simp at hi
  | x :: r, o, h, 0, _ => by
    rw [RdIs] at h
    obtain ⟨⟨a, b, c, d, e, f, h0, h1, h2, h3, h4, h5, ht⟩, _⟩ := h
    exact ⟨[a, b, c, d, e, f], rfl, by rw [Nat.zero_mul]; exact range6 h0 h1 h2 h3 h4 h5, ht⟩
  | x :: r, o, h, i + 1, hi => by
    rw [RdIs] at h
    obtain ⟨cs, h1, h2, h3⟩ := RdIs.row r h.2 i (by simpa using hi)
    exact ⟨cs, h1, by rw [show o + (i + 1) * 6 = o + 6 + i * 6 by omega]; exact h2, h3⟩
theorem range_grown {w u : World} {g o : Nat} {cs : List Value} (h : w.rangeAt g o cs) (hg : w.grownBy u none) (hlt : g < w.heap.size) : u.rangeAt g o cs := fun j v hv => by
  rw [World.cell?_of_block (w := w) (a := ⟨g, o + j, none⟩) (hg.block g hlt (by simp))]
  exact h j v hv
end Go.Proofs.YtdmnhkgiojkphaaGreatDoor
