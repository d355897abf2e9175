/- A place: rows of slices of the call's own; its state. -/
import Derived.Test.YtmiojplbcjhggaaDoorPtX
namespace Go.Proofs.YtmiojplbcjhggaaDoor
open Go Go.RowKit
open Go.RowKit (wrap32 wrap64)

theorem Tryd.info23 : (Tryd.prog.info? 23).map (fun i => (i.zero, i.size, i.bytes)) = some (some (.slice none 0 0), 1, 24) := by kernel_rfl
/-- A row of slices that the call owns. -/
def RowV (C : Nat) (w : World) (v : Value) (vs : List Value) : Prop := w.ownsRow C 23 1 v vs.length vs
theorem RowV.on {C : Nat} {w w' : World} {v : Value} {vs : List Value} {row : Option Nat} (h : RowV C w v vs) (hg : w.grownBy w' row) (hr : ∀ k, row = some k → v.ownBlock ≠ some k) : RowV C w' v vs := by
  refine World.ownsRow.kept h hg ?_
  cases hv : v.ownBlock with
  | none => exact .inl rfl
  | some g => exact .inr (fun e => hr g e.symm hv)
theorem RowV.keep {C : Nat} {w w' : World} {v : Value} {vs : List Value} (h : RowV C w v vs) (hg : w.grownBy w' none) : RowV C w' v vs := h.on hg (fun k hk => by cases hk)
theorem RowV.nil (C : Nat) (w : World) : RowV C w (.slice none 0 0) [] := World.ownsRow_nil _ _ _ _
theorem RowV.blk {C g : Nat} {w : World} {v : Value} {vs : List Value} (h : RowV C w v vs) (hv : v.ownBlock = some g) : ∃ cs, Blk w g cs 23 ∧ C ≤ g := by
  rcases h.2 with ⟨rfl, _⟩ | ⟨g', cap, cur, rfl, hb, hg, _⟩
  · simp [Value.ownBlock] at hv
  · have : g' = g := by simpa [Value.ownBlock] using hv
    subst this
    exact ⟨cur.toList, by unfold Blk; simpa using hg, hb⟩
theorem RowV.cell {C g n c : Nat} {w : World} {vs : List Value} (h : RowV C w (.slice (some ⟨g, 0, none⟩) n c) vs) (i : Nat) (v : Value) (hi : vs[i]? = some v) : w.cell? ⟨g, i, none⟩ = some v := by
  have := World.ownsRow.cells h (g := g) rfl i v (by simpa using hi)
  rw [Addr.add_lit, Nat.zero_add] at this
  exact this
theorem RowV.free {C g n c : Nat} {w : World} {vs : List Value} (h : RowV C w (.slice (some ⟨g, 0, none⟩) n c) vs) (i : Nat) : w.frozen? ⟨g, i, none⟩ = false := by
  obtain ⟨cs, hb, _⟩ := h.blk (g := g) rfl
  exact hb.frozen i
theorem RowV.set1 {C g c : Nat} {w : World} {x y : Value} (h : RowV C w (.slice (some ⟨g, 0, none⟩) 1 c) [x]) : RowV C (w.setCell ⟨g, 0, none⟩ y) (.slice (some ⟨g, 0, none⟩) 1 c) [y] := by
  rcases h.2 with ⟨e, _⟩ | ⟨g', cap, cur, e, hb, hg, hle, hm, hs, ht⟩
  · cases e
  · injection e with e1 e2 e3
    injection e1 with e1
    injection e1 with e1 _ _
    subst e1
    subst e3
    refine ⟨rfl, .inr ⟨g, c, cur.setIfInBounds 0 y, rfl, hb, Go.Joins.block_setCell hg _, hle, hm, by simpa using hs, ?_⟩⟩
    have ht' : List.take ([y].length * 1) cur.toList = [x] := ht
    rw [Array.toList_setIfInBounds, List.take_set, ht']
    rfl
theorem RowV.cut {C g n c : Nat} {w : World} {vs : List Value} (h : RowV C w (.slice (some ⟨g, 0, none⟩) n c) vs) : RowV C w (.slice (some ⟨g, 0, none⟩) 0 c) [] := by
  rcases h.2 with ⟨e, _⟩ | ⟨g', cap, cur, e, hb, hg, hle, hm, hs, ht⟩
  · cases e
  · injection e with e1 e2 e3
    injection e1 with e1
    injection e1 with e1 _ _
    subst e1
    subst e3
    exact ⟨rfl, .inr ⟨g, c, cur, rfl, hb, hg, Nat.zero_le _, hm, hs, by simp⟩⟩
theorem Out.cut {C g n c : Nat} {w : World} {l : List UInt8} (h : Out C w (.slice (some ⟨g, 0, none⟩) n c) l) : Out C w (.slice (some ⟨g, 0, none⟩) 0 c) [] := by
  rcases h.2 with ⟨e, _⟩ | ⟨g', cap, cur, e, hb, hg, hle, hm, hs, ht⟩
  · cases e
  · injection e with e1 e2 e3
    injection e1 with e1
    injection e1 with e1 _ _
    subst e1
    subst e3
    exact ⟨rfl, .inr ⟨g, c, cur, rfl, hb, hg, Nat.zero_le _, hm, hs, by simp [Lib.byteCells]⟩⟩
theorem RowV.cap {C g n c : Nat} {w : World} {vs : List Value} (h : RowV C w (.slice (some ⟨g, 0, none⟩) n c) vs) : vs.length ≤ c := by
  rcases h.2 with ⟨e, _⟩ | ⟨g', cap, cur, e, hb, hg, hle, hm, hs, ht⟩
  · cases e
  · injection e with e1 e2 e3
    subst e3
    exact hle
/-- one slice appended onto a row of slices. -/
theorem wpList_append_v1 {w : World} {ops : Array Oper} {rest : List Oper} {o : Oper} {a : Act} {Q : Exit → Act → World → Prop} (hgd : o.guard = none) (s x : Operand)
    (ho : o.op = .call { callee := .builtin .append, args := #[s, x], argTypes := #[22, 22] })
    (C L : Nat) (y : Value) (hown : RowV C w (a.eval s) []) (hx : a.eval x = .slice (some ⟨L, 0, none⟩) 1 1) (hL : w.cell? ⟨L, 0, none⟩ = some y) (hy : y.oneCell' = true) (hC : C ≤ w.heap.size)
    (h : ∀ g c w', RowV C w' (.slice (some ⟨g, 0, none⟩) 1 c) [y] → w.grownBy w' (a.eval s).ownBlock → ((a.eval s).ownBlock = some g ∨ w.heap.size ≤ g) → wpList Tryd.prog ops Q rest (a.put o.dst (.slice (some ⟨g, 0, none⟩) 1 c)) w') : wpList Tryd.prog ops Q (o :: rest) a w := by
  obtain ⟨inf, hi, hz0, hz1, hz2⟩ := info_parts Tryd.info23
  refine wpList_append_own_at w hgd s x 22 ho C 23 inf (.slice none 0 0) 1 24 Tryd.underlying22 hi hz0 hz1 hz2 rfl (by decide) _ 0 [] rfl hown ⟨L, 0, none⟩ 1 1 [y] hx rfl ?_ (fun u hu => by simp at hu; rw [hu]; exact hy) (by unfold maxLen; omega) (by decide) hC ?_
  · intro j u hu
    have hj : j = 0 := by have := (List.getElem?_eq_some_iff.1 hu).1; simp at this; exact this
    subst hj
    rw [Addr.add_lit]
    simp at hu
    rw [← hu]
    exact hL
  · intro v' w' h1 h2 _ h4
    rcases h1.2 with ⟨e, h0⟩ | ⟨g, cap, cur, e, hb, r⟩
    · simp at h0
    · subst e
      refine h g cap w' ⟨rfl, .inr ⟨g, cap, cur, rfl, hb, r⟩⟩ h2 ?_
      rcases h4 with h4 | h4
      · exact .inl (by rw [← h4]; rfl)
      · right
        have : g = w.heap.size := by simpa [Value.ownBlock] using h4
        omega
/-- What a call on a place leaves as it was: all below C, and all that is no place, no row of slices, not the block xb. -/
structure Fr (w w' : World) (C : Nat) (xb : Option Nat) : Prop where
  os : w'.os = w.os
  tape : w'.tape = w.tape
  output : w'.output = w.output
  size : w.heap.size ≤ w'.heap.size
  at_ : ∀ k, k < w.heap.size → (k < C ∨ ∃ cs t, Blk w k cs t ∧ t ≠ 65 ∧ t ≠ 23 ∧ xb ≠ some k) → w'.heap[k]? = w.heap[k]?
theorem Fr.refl (w : World) (C : Nat) (xb : Option Nat) : Fr w w C xb := ⟨rfl, rfl, rfl, Nat.le_refl _, fun _ _ _ => rfl⟩
theorem Fr.then {w w1 w2 : World} {C : Nat} {xb row : Option Nat} (h : Fr w w1 C xb) (hg : w1.grownBy w2 row) (hr : ∀ g, row = some g → C ≤ g ∧ (w.heap.size ≤ g ∨ xb = some g ∨ (∃ cs, Blk w1 g cs 65) ∨ ∃ cs, Blk w1 g cs 23)) : Fr w w2 C xb := by
  refine ⟨hg.os.trans h.os, hg.tape.trans h.tape, hg.output.trans h.output, Nat.le_trans h.size hg.size, fun k hk hc => ?_⟩
  have h1 := h.at_ k hk hc
  refine (hg.block k (Nat.lt_of_lt_of_le hk h.size) (fun e => ?_)).trans h1
  obtain ⟨r1, r2⟩ := hr k e.symm
  rcases hc with hc | ⟨cs, t, hb, t1, t2, hx⟩
  · omega
  · have hb1 : Blk w1 k cs t := by unfold Blk; rw [h1]; exact hb
    rcases r2 with r2 | r2 | ⟨cs', r2⟩ | ⟨cs', r2⟩
    · omega
    · exact hx r2
    · exact hb1.ne r2 t1 rfl
    · exact hb1.ne r2 t2 rfl
theorem Fr.thenN {w w1 w2 : World} {C : Nat} {xb : Option Nat} (h : Fr w w1 C xb) (hg : w1.grownBy w2 none) : Fr w w2 C xb := h.then hg (fun g e => by cases e)
theorem Fr.blk {w w' : World} {C k : Nat} {xb : Option Nat} {cs : List Value} {t : TypeId} (h : Fr w w' C xb) (hb : Blk w k cs t) (h1 : t ≠ 65) (h2 : t ≠ 23) (h3 : xb ≠ some k) : Blk w' k cs t := by
  unfold Blk
  rw [h.at_ k hb.lt (.inr ⟨cs, t, hb, h1, h2, h3⟩)]
  exact hb
/-- A place: its last row xv, that reads xl. -/
def Plc (w : World) (pr C : Nat) (xv : Value) (xl : List UInt8) : Prop :=
  ∃ vo vi : Value, Blk w pr [vo, vi] 65 ∧ C ≤ pr ∧ Out C w xv xl ∧
    ((vo = .slice none 0 0 ∧ vi = .slice none 0 0 ∧ xv = .slice none 0 0) ∨
      ∃ go co gi ci, vo = .slice (some ⟨go, 0, none⟩) 1 co ∧ vi = .slice (some ⟨gi, 0, none⟩) 1 ci ∧ RowV C w vo [xv] ∧ RowV C w vi [xv] ∧ go ≠ gi)
theorem cut_run (C : Nat) (w : World) (xv : Value) (xl : List UInt8) (h : Out C w xv xl) : ∃ (a : Option Addr) (n c : Nat), xv = .slice a n c ∧ (∀ u : World, (Instr.sliceAt 23 xv none (some (.int .i64 0)) none).run Tryd.prog u = .ok (.slice a 0 c) u) ∧ Out C w (.slice a 0 c) [] ∧ (Value.slice a 0 c).ownBlock = xv.ownBlock := by
  rcases h.2 with ⟨rfl, _⟩ | ⟨g, cap, cur, rfl, hb, hg, hle, hm, hs, ht⟩
  · exact ⟨none, 0, 0, rfl, fun u => by go_simp, Out.nil _ _, rfl⟩
  · refine ⟨some ⟨g, 0, none⟩, _, cap, rfl, fun u => ?_, ?_, rfl⟩
    · have hc : (0 : Int) ≤ (cap : Int) := by omega
      go_simp
    · exact Out.cut (n := xl.length) ⟨h.1, .inr ⟨g, cap, cur, rfl, hb, hg, hle, hm, hs, ht⟩⟩
end Go.Proofs.YtmiojplbcjhggaaDoor
