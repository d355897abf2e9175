/- Plain facts for FrameRow; the argument. -/
import Derived.Test.YtfalgjdhdgkbfabDoorWalkM
import Derived.Test.YtfalgjdhdgkbfabDoorDoorC
namespace Go.Proofs.YtfalgjdhdgkbfabDoor
open Go Go.RowKit
open Go.RowKit (wrap32 wrap64)

/-- Frames one behind the other. -/
def frs (L : Nat → List UInt8) : Nat → Nat → List UInt8
  | _, 0 => []
  | i, k + 1 => frameL (L i) ++ frs L (i + 1) k
theorem frs_snoc (L : Nat → List UInt8) : ∀ (k i : Nat), frs L i (k + 1) = frs L i k ++ frameL (L (i + k))
  | 0, i => by simp [frs]
  | k + 1, i => by
    rw [frs, frs_snoc L k (i + 1), frs, List.append_assoc]
    rw [show i + 1 + k = i + (k + 1) by omega]
theorem frs_one (L : Nat → List UInt8) (i k : Nat) (h : (L i).length ≤ 16777216) : unfrE (frs L i (k + 1)) = 0 ∧ cnt (frs L i (k + 1)) = (L i).length ∧ unfB (frs L i (k + 1)) = L i ∧ (frs L i (k + 1)).drop ((L i).length + 13) = frs L (i + 1) k := by
  obtain ⟨h1, h2, h3⟩ := unfr_frame (L i) (frs L (i + 1) k) h
  refine ⟨h1, h2, ?_, ?_⟩
  · unfold unfB; rw [frs, if_pos h1]; exact h3
  · have := List.drop_left (l₁ := frameL (L i)) (l₂ := frs L (i + 1) k)
    rw [frameL_length] at this
    exact this

theorem Tryd.info29 : (Tryd.prog.info? 29).map (fun i => (i.zero, i.size, i.bytes)) = some (some (.slice none 0 0), 1, 24) := by kernel_rfl
/-- Rows of bytes, as the walks read them. -/
def ArgB (W : World) (aB : Option Addr) (bB oB nB : Nat) (V : Nat → Value) (L : Nat → List UInt8) : Prop :=
  (0 < nB → aB = some ⟨bB, oB, none⟩ ∧ bB < W.heap.size) ∧ ∀ i, i < nB → W.cell? ⟨bB, oB + i, none⟩ = some (V i) ∧ Rd W (fun _ => True) (V i) (L i) ∧ (L i).length ≤ 140737488355328
theorem ArgB.on {W u : World} {aB : Option Addr} {bB oB nB : Nat} {V : Nat → Value} {L : Nat → List UInt8} (h : ArgB W aB bB oB nB V L) (hg : W.grownBy u none) : ArgB u aB bB oB nB V L :=
  ⟨fun h0 => ⟨(h.1 h0).1, Nat.lt_of_lt_of_le (h.1 h0).2 hg.size⟩, fun i hi => ⟨(cell_at hg (h.1 (by omega)).2 (by simp)).trans (h.2 i hi).1, (h.2 i hi).2.1.keep hg, (h.2 i hi).2.2⟩⟩
theorem newsN (w : World) (cs : Array Value) (t : TypeId) : ∀ j u, cs.toList[j]? = some u → (w.alloc (.cells cs t)).cell? ((⟨w.heap.size, 0, none⟩ : Addr).add j) = some u :=
  World.news_of_block (B := w.heap.size) (cs := cs) (t := t) (fr := (0, 0)) (by show (w.heap.push _)[w.heap.size]? = _; simp)
/-- Slices that were kept. -/
def kept (V : Nat → Value) (k : Nat) : List Value := (List.range k).map V
theorem kept_succ (V : Nat → Value) (k : Nat) : kept V (k + 1) = kept V k ++ [V k] := by unfold kept; rw [List.range_succ, List.map_append]; rfl
theorem kept_length (V : Nat → Value) (k : Nat) : (kept V k).length = k := by simp [kept]
theorem apart_rows {w : World} {B C n m : Nat} {e e' : TypeId} {s s' : Nat} {v u : Value} {xs ys : List Value} (h : w.ownsRow B e s v n xs) (k : w.ownsRow C e' s' u m ys) (hne : e ≠ e') : ∀ j, v.ownBlock = some j → u.ownBlock ≠ some j := by
  intro j hj hu
  rcases h.2 with ⟨rfl, _⟩ | ⟨g, cap, cur, rfl, _, hg, _⟩
  · simp [Value.ownBlock] at hj
  · rcases k.2 with ⟨rfl, _⟩ | ⟨g', cap', cur', rfl, _, hg', _⟩
    · simp [Value.ownBlock] at hu
    · simp [Value.ownBlock] at hj hu
      subst hj
      subst hu
      rw [hg] at hg'
      injection hg' with hg'
      injection hg' with _ h2 _
      exact hne h2
theorem row_on {B : Nat} {w w' : World} {e : TypeId} {s n : Nat} {v : Value} {xs : List Value} {row : Option Nat} (h : w.ownsRow B e s v n xs) (hg : w.grownBy w' row) (hr : ∀ k, row = some k → v.ownBlock ≠ some k) : w'.ownsRow B e s v n xs := by
  refine World.ownsRow.kept h hg ?_
  cases hv : v.ownBlock with
  | none => exact .inl rfl
  | some g => exact .inr (fun e => hr g e.symm hv)
theorem kept_open {w : World} {B n : Nat} {kv : Value} {V : Nat → Value} (h : w.ownsRow B 29 1 kv n (kept V n)) : ∃ (ka : Option Addr) (kc g : Nat), kv = .slice ka n kc ∧ n ≤ kc ∧ (0 < n → ka = some ⟨g, 0, none⟩) ∧ ∀ u : World, w.grownBy u none → ∀ j, j < n → u.cell? ⟨g, j, none⟩ = some (V j) := by
  have hc := fun (g : Nat) (hg : kv.ownBlock = some g) => h.cells (g := g) hg
  have hl := fun (g : Nat) (hg : kv.ownBlock = some g) => (h.lt g hg).2
  rcases h.2 with ⟨rfl, rfl⟩ | ⟨g, cap, cur, rfl, hb, hg, hle, hm, hs, ht⟩
  · exact ⟨none, 0, 0, rfl, Nat.le_refl _, fun h => by omega, fun u _ j hj => by omega⟩
  · refine ⟨some ⟨g, 0, none⟩, cap, g, rfl, hle, fun _ => rfl, fun u hu j hj => ?_⟩
    rw [cell_at hu (hl g rfl) (by simp)]
    have := hc g rfl j (V j) (by simp [kept, List.getElem?_range hj])
    rw [Addr.add_lit, Nat.zero_add] at this
    exact this
/-- append of one slice onto a row of the call's own. -/
theorem wpList_append_slice {w : World} {ops : Array Oper} {rest : List Oper} {o : Oper} {a : Act} {Q : Exit → Act → World → Prop} (hgd : o.guard = none) (s x : Operand)
    (ho : o.op = .call { callee := .builtin .append, args := #[s, x], argTypes := #[62, 62] })
    (B L n : Nat) (xs : List Value) (y : Value) (hown : w.ownsRow B 29 1 (a.eval s) n xs) (hx : a.eval x = .slice (some ⟨L, 0, none⟩) 1 1) (hL : w.heap[L]? = some (.cells #[y] 29 (0, 0))) (hy : y.oneCell' = true) (hn : n ≤ 1048576) (hB : B ≤ w.heap.size)
    (h : ∀ v' w', w'.ownsRow B 29 1 v' (n + 1) (xs ++ [y]) → w.grownBy w' (a.eval s).ownBlock → wpList Tryd.prog ops Q rest (a.put o.dst v') w') : wpList Tryd.prog ops Q (o :: rest) a w := by
  obtain ⟨inf, hi, hz0, hz1, hz2⟩ := info_parts Tryd.info29
  refine wpList_append_own w hgd s x 62 ho B 29 inf (.slice none 0 0) 1 24 Tryd.underlying62 hi hz0 hz1 hz2 rfl (by decide) _ n xs rfl hown ⟨L, 0, none⟩ 1 1 [y] hx rfl ?_ ?_ (by unfold maxLen; omega) (by omega) hB ?_
  · intro j u hu
    have hj : j = 0 := by have := (List.getElem?_eq_some_iff.1 hu).1; simp at this; exact this
    subst hj
    simp at hu
    rw [Addr.add_lit]
    simp [World.cell?, hL, hu]
  · intro u hu
    simp at hu
    rw [hu]; exact hy
  · intro v' w' h1 h2 _
    exact h v' w' h1 h2
end Go.Proofs.YtfalgjdhdgkbfabDoor
