/- RecordBack's row of fields of its own: 23 cells each. -/
import Derived.Test.YtfalgjdhdgkbfabDoorOpenP
namespace Go.Proofs.YtfalgjdhdgkbfabDoor
open Go Go.RowKit

def zop : Array Value := #[.int .i64 0, .int .i64 0, .int .u64 0, .int .i64 0, .int .i64 0, .bool false, .slice none 0 0, .int .u8 0, .int .u8 0, .int .u8 0, .int .u8 0, .int .u8 0, .int .u8 0, .int .u8 0, .int .u8 0, .int .u8 0, .int .u8 0, .int .u8 0, .int .u8 0, .int .u8 0, .int .u8 0, .int .u8 0, .int .u8 0]
theorem Tryd.info33 : (Tryd.prog.info? 33).map (fun i => (i.zero, i.size, i.bytes)) = some (some (.agg zop), 23, 88) := by kernel_rfl
/-- The cells of fields one behind the other. -/
def keptO (l : List Fv) : List Value := l.flatMap Fv.cells
theorem keptO_snoc (l : List Fv) (q : Fv) : keptO (l ++ [q]) = keptO l ++ q.cells := by simp [keptO]
theorem keptO_length : ∀ (l : List Fv), (∀ q ∈ l, q.D.length = 16) → (keptO l).length = l.length * 23
  | [], _ => rfl
  | q :: l, h => by
    have h1 := keptO_length l (fun q' hq => h q' (List.mem_cons_of_mem _ hq))
    have h2 : q.cells.length = 23 := by unfold Fv.cells Lib.byteCells; simp [h q (List.mem_cons_self)]
    have h3 : keptO (q :: l) = q.cells ++ keptO l := rfl
    rw [h3, List.length_append, h1, h2, List.length_cons]; omega
theorem keptO_get : ∀ (l : List Fv), (∀ q ∈ l, q.D.length = 16) → ∀ (i : Nat) (q : Fv), l[i]? = some q → ∀ j, j < 23 → (keptO l)[i * 23 + j]? = q.cells[j]?
  | [], _, i, q, h, _, _ => by simp at h
  | q0 :: l, hD, i, q, h, j, hj => by
    have h2 : q0.cells.length = 23 := by unfold Fv.cells Lib.byteCells; simp [hD q0 (List.mem_cons_self)]
    have h3 : keptO (q0 :: l) = q0.cells ++ keptO l := rfl
    rw [h3]
    cases i with
    | zero =>
      simp only [List.getElem?_cons_zero, Option.some.injEq] at h
      subst h
      rw [Nat.zero_mul, Nat.zero_add, List.getElem?_append_left (by omega)]
    | succ i =>
      rw [List.getElem?_append_right (by omega), h2, show (i + 1) * 23 + j - 23 = i * 23 + j by omega]
      exact keptO_get l (fun q' hq => hD q' (List.mem_cons_of_mem _ hq)) i q (by simpa using h) j hj
theorem row_on {B : Nat} {w w' : World} {e : TypeId} {s n : Nat} {v : Value} {xs : List Value} {row : Option Nat} (h : w.ownsRow B e s v n xs) (hg : w.grownBy w' row) (hr : ∀ k, row = some k → v.ownBlock ≠ some k) : w'.ownsRow B e s v n xs := by
  refine World.ownsRow.kept h hg ?_
  cases hv : v.ownBlock with
  | none => exact .inl rfl
  | some g => exact .inr (fun e => hr g e.symm hv)
/-- Such a row, read. -/
theorem keptO_open {w : World} {B : Nat} {kv : Value} {l : List Fv} (hD : ∀ q ∈ l, q.D.length = 16) (h : w.ownsRow B 33 23 kv l.length (keptO l)) : ∃ (ka : Option Addr) (kc g : Nat), kv = .slice ka l.length kc ∧ l.length ≤ kc ∧ (0 < l.length → ka = some ⟨g, 0, none⟩ ∧ B ≤ g ∧ g < w.heap.size) ∧ ∀ (i : Nat) (q : Fv), l[i]? = some q → w.rangeAt g (i * 23) q.cells := by
  have hc := fun (g : Nat) (hg : kv.ownBlock = some g) => h.cells (g := g) hg
  have hl := fun (g : Nat) (hg : kv.ownBlock = some g) => (h.lt g hg).2
  rcases h.2 with ⟨rfl, h0⟩ | ⟨g, cap, cur, rfl, hb, hg, hle, hm, hs, ht⟩
  · refine ⟨none, 0, 0, by rw [h0], by omega, fun h => by omega, fun i q hq => ?_⟩
    have := (List.getElem?_eq_some_iff.1 hq).1
    omega
  · refine ⟨some ⟨g, 0, none⟩, cap, g, rfl, hle, fun _ => ⟨rfl, hb, hl g rfl⟩, fun i q hq j v hj => ?_⟩
    have hql : q.cells.length = 23 := by unfold Fv.cells Lib.byteCells; simp [hD q (List.mem_of_getElem? hq)]
    have hj' : j < 23 := by have := (List.getElem?_eq_some_iff.1 hj).1; omega
    have := hc g rfl (i * 23 + j) v (by rw [keptO_get l hD i q hq j hj', hj])
    rw [Addr.add_lit, Nat.zero_add] at this
    exact this
/-- append of one field onto such a row. -/
theorem wpList_append_op {w : World} {ops : Array Oper} {rest : List Oper} {o : Oper} {a : Act} {Q : Exit → Act → World → Prop} (hgd : o.guard = none) (s x : Operand)
    (ho : o.op = .call { callee := .builtin .append, args := #[s, x], argTypes := #[22, 22] })
    (B L : Nat) (l : List Fv) (q : Fv) (hown : w.ownsRow B 33 23 (a.eval s) l.length (keptO l)) (hx : a.eval x = .slice (some ⟨L, 0, none⟩) 1 1) (hL : w.heap[L]? = some (.cells q.cells.toArray 33 (0, 0))) (hq : q.D.length = 16) (hs : q.s.oneCell' = true) (hn : l.length ≤ 1048576) (hB : B ≤ w.heap.size)
    (h : ∀ v' w', w'.ownsRow B 33 23 v' (l ++ [q]).length (keptO (l ++ [q])) → w.grownBy w' (a.eval s).ownBlock → wpList Tryd.prog ops Q rest (a.put o.dst v') w') : wpList Tryd.prog ops Q (o :: rest) a w := by
  obtain ⟨inf, hi, hz0, hz1, hz2⟩ := info_parts Tryd.info33
  have hql : q.cells.length = 23 := by unfold Fv.cells Lib.byteCells; simp [hq]
  refine wpList_append_own w hgd s x 22 ho B 33 inf (.agg zop) 23 88 Tryd.underlying22 hi hz0 hz1 hz2 rfl (by decide) _ l.length (keptO l) rfl hown ⟨L, 0, none⟩ 1 1 q.cells hx (by rw [hql]) ?_ ?_ (by unfold maxLen; omega) (by omega) hB ?_
  · intro j u hu
    rw [Addr.add_lit]
    simp [World.cell?, hL, hu]
  · intro u hu
    unfold Fv.cells Lib.byteCells at hu
    simp only [List.mem_append, List.mem_cons, List.not_mem_nil, or_false, List.mem_map] at hu
    rcases hu with (rfl | rfl | rfl | rfl | rfl | rfl | rfl) | ⟨b, _, rfl⟩ <;> first | rfl | exact hs
  · intro v' w' h1 h2 _
    refine h v' w' ?_ h2
    rw [keptO_snoc, List.length_append]
    exact h1
end Go.Proofs.YtfalgjdhdgkbfabDoor
