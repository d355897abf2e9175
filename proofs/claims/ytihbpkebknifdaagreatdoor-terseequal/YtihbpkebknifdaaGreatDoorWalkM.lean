/- The walk of Parse's deferred closure. -/
import Derived.Test.YtihbpkebknifdaaGreatDoorWalkL
import Derived.Defers
import Derived.Recover
namespace Go.Proofs.YtihbpkebknifdaaGreatDoor
open Go Go.RowKit Go.Maps
open Go.RowKit (wrap32 wrap64)

theorem catch_idle (p r : Addr) (w : World) :
    CallsD Tryz.prog 19 #[.pointer (some p), .pointer (some r)] .returning w fun e u' w' => e = .returned (.tuple #[]) ∧ u' = .returning ∧ w' = w := by
  refine callsD_of_wpS Tryz.func19 rfl fun c₀ cs hu => ?_
  apply wpS_seq
  apply wpS_region
  simp [wpOpsS, go_sem, recoverD, hu, Tryz.ntmps19, Exit.thenS]
  apply wpS_seq
  apply wpS_region
  simp [wpOpsS, go_sem, Exit.thenS, Array.replicate]
  refine wpS_cond (t := false) (by simp [Act.eval]) ?_
  simp only [Bool.false_eq_true, if_false]
  refine wpS_of_wp (wp_skip ?_)
  cases c₀
  simp_all [bodyPostS, results, Tryz.results19]

theorem laid69 {w : World} {p r : Nat} {a0 a1 a2 a3 a4 a5 b0 b1 : Value} (c q : Int) (hp : w.heap[p]? = some (.cells #[a0, a1, a2, a3, a4, a5] 25 (0, 0))) (hr : w.heap[r]? = some (.cells #[b0, b1] 40 (0, 0))) (hpr : p ≠ r) :
    ∃ W : World, ((((((((w.setCell ⟨p, 0, none⟩ (.int .i64 0)).setCell ⟨p, 1, none⟩ (.bool false)).setCell ⟨p, 2, none⟩ (.int .i64 0)).setCell ⟨p, 3, none⟩ (.string ⟨#[]⟩)).setCell ⟨p, 4, none⟩ (.slice none 0 0)).setCell ⟨p, 5, none⟩ (.slice none 0 0)).setCell ⟨r, 0, none⟩ (.int .i64 c)).setCell ⟨r, 1, none⟩ (.int .i64 q)).drew = W ∧ W.heap[p]? = some (.cells #[.int .i64 0, .bool false, .int .i64 0, .string ⟨#[]⟩, .slice none 0 0, .slice none 0 0] 25 (0, 0)) ∧ W.heap[r]? = some (.cells #[.int .i64 c, .int .i64 q] 40 (0, 0)) ∧ Two p r w W := by
  have g6 := put6_grown w p (.int .i64 0) (.bool false) (.int .i64 0) (.string ⟨#[]⟩) (.slice none 0 0) (.slice none 0 0)
  have h6 := put6_heap hp (.int .i64 0) (.bool false) (.int .i64 0) (.string ⟨#[]⟩) (.slice none 0 0) (.slice none 0 0)
  have r6 : (put6 w p (.int .i64 0) (.bool false) (.int .i64 0) (.string ⟨#[]⟩) (.slice none 0 0) (.slice none 0 0)).heap[r]? = some (.cells #[b0, b1] 40 (0, 0)) := (g6.block r (Array.getElem?_eq_some_iff.1 hr).1 (by simp; exact hpr.symm)).trans hr
  refine ⟨(((put6 w p (.int .i64 0) (.bool false) (.int .i64 0) (.string ⟨#[]⟩) (.slice none 0 0) (.slice none 0 0)).setCell ⟨r, 0, none⟩ (.int .i64 c)).setCell ⟨r, 1, none⟩ (.int .i64 q)).drew, rfl, ?_⟩
  generalize (put6 w p (.int .i64 0) (.bool false) (.int .i64 0) (.string ⟨#[]⟩) (.slice none 0 0) (.slice none 0 0)) = W6 at g6 h6 r6
  have g1 := gset W6 ⟨r, 0, none⟩ (.int .i64 c)
  have g2 := gset (W6.setCell ⟨r, 0, none⟩ (.int .i64 c)) ⟨r, 1, none⟩ (.int .i64 q)
  have g3 := gdrew ((W6.setCell ⟨r, 0, none⟩ (.int .i64 c)).setCell ⟨r, 1, none⟩ (.int .i64 q)) 1 none
  have hl := (Array.getElem?_eq_some_iff.1 h6).1
  refine ⟨?_, ?_, ((Two.of g6 (.inr (.inl rfl))).trans (Two.of g1 (.inr (.inr rfl)))).trans ((Two.of g2 (.inr (.inr rfl))).trans (Two.of g3 (.inl rfl)))⟩
  · show ((W6.setCell ⟨r, 0, none⟩ (.int .i64 c)).setCell ⟨r, 1, none⟩ (.int .i64 q)).heap[p]? = _
    rw [g2.block p (Nat.lt_of_lt_of_le hl g1.size) (by simp; exact hpr), g1.block p hl (by simp; exact hpr)]
    exact h6
  · show ((W6.setCell ⟨r, 0, none⟩ (.int .i64 c)).setCell ⟨r, 1, none⟩ (.int .i64 q)).heap[r]? = _
    simp [World.setCell, Array.getElem?_modify, r6]

set_option maxRecDepth 100000 in
theorem catch_panicking (p r : Nat) (c : Int) (q : Int) (older : List PanicEntry) (w : World) (a0 a1 a2 a3 a4 a5 b0 b1 : Value)
    (hp : w.heap[p]? = some (.cells #[a0, a1, a2, a3, a4, a5] 25 (0, 0))) (hr : w.heap[r]? = some (.cells #[b0, b1] 40 (0, 0))) (hpr : p ≠ r) :
    CallsD Tryz.prog 19 #[.pointer (some ⟨p, 0, none⟩), .pointer (some ⟨r, 0, none⟩)] (.panicking ({ v := faultV c q, recovered := false } :: older)) w fun e u' w' =>
      e = .returned (.tuple #[]) ∧ u' = .panicking ({ v := faultV c q, recovered := true } :: older) ∧ w'.heap[p]? = some (.cells #[.int .i64 0, .bool false, .int .i64 0, .string ⟨#[]⟩, .slice none 0 0, .slice none 0 0] 25 (0, 0)) ∧ w'.heap[r]? = some (.cells #[.int .i64 c, .int .i64 q] 40 (0, 0)) ∧ Two p r w w' := by
  unfold faultV
  refine callsD_of_wpS Tryz.func19 rfl fun c₀ cs hu => ?_
  apply wpS_seq
  apply wpS_region
  simp [wpOpsS, go_sem, recoverD, hu, Tryz.ntmps19, Exit.thenS]
  apply wpS_seq
  apply wpS_region
  simp [wpOpsS, go_sem, Exit.thenS, Array.replicate]
  refine wpS_cond (t := true) (by simp [Act.eval]) ?_
  simp only [if_true]
  refine wpS_of_wp ?_
  obtain ⟨⟨x0, x1, x2, x3, x4, x5⟩, xf⟩ := cells6 hp
  have z0 : w.cell? ⟨r, 0, none⟩ = some b0 := by simp [World.cell?, hr]
  have z1 : w.cell? ⟨r, 1, none⟩ = some b1 := by simp [World.cell?, hr]
  have zf : ∀ o, w.frozen? ⟨r, o, none⟩ = false := fun o => by simp [World.frozen?, hr]
  have HP := hid hp
  have HR := hid hr
  have HU := hid hu
  clear hp hr hu
  have hta : ∀ w' : World, (Instr.typeAssert (Value.iface 40 (Value.agg #[Value.int IntKind.i64 c, Value.int IntKind.i64 q])) 20 40 false).run Tryz.prog w' = .ok (Value.agg #[Value.int IntKind.i64 c, Value.int IntKind.i64 q]) w' := fun _ => by first | rfl | kernel_rfl | simp [go_sem]
  go_region
  obtain ⟨W, hW, L1, L2, L3⟩ := laid69 c q HP.out HR.out hpr
  rw [hW]
  simp [bodyPostS, results, Tryz.results19, L1, L2, L3]
end Go.Proofs.YtihbpkebknifdaaGreatDoor
