/- A new book, a new late. -/
import Derived.Test.YtfalgjdhdgkbfaaGreatDoorLawE
import Derived.Laws.Tables
namespace Go.Proofs.YtfalgjdhdgkbfaaGreatDoor.Bk
open Go Go.RowKit

def zeroB : Array Value := ((List.range 75).map (bkF (.slice none 0 0) (.slice none 0 0) 0 0 0 0)).toArray
def zeroL : Array Value := #[.slice none 0 0, .slice none 0 0]

theorem build59 (w : World) : (Instr.build 59 #[]).run Tryz.prog w = .ok (.agg zeroB) w := by kernel_rfl
theorem build62 (w : World) : (Instr.build 62 #[]).run Tryz.prog w = .ok (.agg zeroL) w := by kernel_rfl

theorem built59 : Tryz.prog.built 59 [] = some zeroB := by kernel_rfl
theorem built62 : Tryz.prog.built 62 [] = some zeroL := by kernel_rfl

theorem wp_build59 {o : Oper} {a : Act} {w : World} {K : Act → World → Prop} {Q : Exit → Act → World → Prop} (ho : o.op = .build 59 #[]) (h : K (a.put o.dst (.agg zeroB)) w) : o.wp Tryz.prog a w K Q := by
  have e0 : ((#[] : Array (Nat × Operand)).map fun (i, x) => (i, a.eval x)).toList = [] := by simp
  have e : Tryz.prog.built 59 ((#[] : Array (Nat × Operand)).map fun (i, x) => (i, a.eval x)).toList = some zeroB := by rw [e0]; exact built59
  refine wp_build 59 #[] ho (by rw [e]; rfl) ?_
  rw [e]
  exact h

theorem wp_build62 {o : Oper} {a : Act} {w : World} {K : Act → World → Prop} {Q : Exit → Act → World → Prop} (ho : o.op = .build 62 #[]) (h : K (a.put o.dst (.agg zeroL)) w) : o.wp Tryz.prog a w K Q := by
  have e0 : ((#[] : Array (Nat × Operand)).map fun (i, x) => (i, a.eval x)).toList = [] := by simp
  have e : Tryz.prog.built 62 ((#[] : Array (Nat × Operand)).map fun (i, x) => (i, a.eval x)).toList = some zeroL := by rw [e0]; exact built62
  refine wp_build 62 #[] ho (by rw [e]; rfl) ?_
  rw [e]
  exact h

theorem zeroB_row (w : World) : Bkc (w.alloc (.cells zeroB 59)) w.heap.size (.slice none 0 0) (.slice none 0 0) 0 0 0 0 :=
  ⟨zeroB, heap_alloc_new w _, by simp [zeroB], fun i hi => by simp [zeroB, hi]⟩

theorem zeroL_row (w : World) : (w.alloc (.cells zeroL 62)).rowIs w.heap.size 62 2 (ltF (.slice none 0 0) (.slice none 0 0)) :=
  ⟨zeroL, heap_alloc_new w _, rfl, fun i hi => by
    rcases (show i = 0 ∨ i = 1 by omega) with rfl | rfl <;> simp [zeroL, ltF]⟩

/-- All of it, at the beginning. -/
theorem ST.new {w : World} {B bk lt : Nat} (h1 : Bkc w bk (.slice none 0 0) (.slice none 0 0) 0 0 0 0) (h2 : w.rowIs lt 62 2 (ltF (.slice none 0 0) (.slice none 0 0))) (hB : B ≤ bk) (hL : B ≤ lt) (hw : B ≤ w.heap.size) : ST w B bk lt 0 [] 0 :=
  ⟨0, 0, .slice none 0 0, .slice none 0 0, 0, [], [], .slice none 0 0, .slice none 0 0, [], ⟨⟨⟨h1, World.ownsRow_nil _ _ _ _, World.ownsRow_nil _ _ _ _, fun i g m hg => by simp at hg, fun m hm => by simp at hm, fun i g m _ h => by simp at h, fun i g b hg => by simp at hg⟩, Nat.le_refl _, by decide, by decide, by decide, h2, World.ownsRow_nil _ _ _ _, Or.inl rfl, fun p hp => by simp at hp, List.Pairwise.nil, fun j g hg => by simp at hg, ⟨hB, hL, hw⟩⟩, World.ownsRow_nil _ _ _ _, Or.inl rfl, Or.inl rfl, fun i x p hx => by simp at hx, fun x hx => by simp at hx, fun x hx => by simp at hx, Nat.le_refl _⟩⟩

/-- Look over all of it. -/
theorem ST.look {w : World} {B bk lt T : Nat} {ps : List Item} {n : Nat} (h : ST w B bk lt T ps n) : Calls Tryz.prog 9 #[.pointer (some ⟨bk, 0, none⟩)] w fun e w' => e = .returned (.bool true) ∧ Below B w w' := by
  obtain ⟨A, D, v0, v1, U, gs, ms, vg, vw, xs, h⟩ := h
  refine (look_any w B bk A v0 v1 T D U gs ms h.sl.book h.sl.ale h.sl.use h.sl.u1 h.sl.hB.1 h.sl.hB.2.2).mono ?_
  rintro e w' ⟨rfl, _, _, _, _, _, _, _, _, _, hb, _⟩
  exact ⟨rfl, hb⟩
end Go.Proofs.YtfalgjdhdgkbfaaGreatDoor.Bk
