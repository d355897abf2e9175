/- Rows of the call's own: append within a region, one byte stored. -/
import Derived.Test.YtmiojplbcjhggaaDoorWalkH
import Derived.Lib.SmallJoins
namespace Go.Proofs.YtmiojplbcjhggaaDoor
open Go Go.RowKit
open Go.RowKit (wrap32 wrap64)

/-- append of bytes that can be read, within a region that draws its order. -/
theorem step_append_rd {w : World} {ops : Array Oper} {o : Oper} {a : Act} {K : Act → World → Prop} {Q : Exit → Act → World → Prop} {E : Prop} (hgd : o.guard = none) (s x : Operand)
    (ho : o.op = .call { callee := .builtin .append, args := #[s, x], argTypes := #[23, 23] })
    (B : Nat) (F : Nat → Prop) (acc l : List UInt8) (hown : Out B w (a.eval s) acc) (hx : Rd w F (a.eval x) l) (hn : acc.length + l.length ≤ 35184372088832) (hB : B ≤ w.heap.size)
    (h : ∀ v' w', Out B w' v' (acc ++ l) → w.grownBy w' (a.eval s).ownBlock → K (a.put o.dst v') w') : if Region.wanted o (yielded ops a.tmps) = true then Oper.wp Tryd.prog o a w K Q else E := by
  have hw : Region.wanted o (yielded ops a.tmps) = true := by simp [Region.wanted, hgd]
  rw [if_pos hw]
  obtain ⟨inf, hi, hz0, hz1, hz2⟩ := info_parts Tryd.info5
  obtain ⟨p, b, off, c, e, hc, hnn, ha, hcell⟩ := hx
  cases p with
  | none =>
    have c0 := hnn rfl
    have hl : l = [] := List.eq_nil_of_length_eq_zero (by omega)
    subst hl
    subst c0
    have hrun := run_append_owned_none (P := Tryd.prog) (w := w) B 23 o.type 5 inf 1 Tryd.underlying23 hi (a.eval s) _ _ hown
    have hK := h (a.eval s) w (by rw [List.append_nil]; exact hown) (World.grownBy.refl _ _)
    have e' : a.eval x = .slice none 0 0 := e
    unfold Oper.wp
    simp [execOp, ho, resolve, invoke, builtin, e', hrun, Result.andThen]
    exact hK
  | some q =>
    refine wp_append_own w s x 23 ho B 5 inf (.int .u8 0) 1 1 Tryd.underlying23 hi hz0 hz1 hz2 rfl (by decide) _ _ _ rfl hown q l.length c (Lib.byteCells l) e (by simp [Lib.byteCells]) ?_ ?_ (by unfold maxLen; omega) (by omega) hB ?_
    · intro j u hu
      have hj : j < l.length := by have := (List.getElem?_eq_some_iff.1 hu).1; simpa [Lib.byteCells] using this
      have hq := (ha (by omega)).1
      injection hq with hq
      rw [hq, Addr.add_lit, hcell j hj, ← hu]
      simp [Lib.byteCells, List.getElem?_eq_getElem hj]
    · intro u hu
      unfold Lib.byteCells at hu
      obtain ⟨_, _, rfl⟩ := List.mem_map.1 hu
      rfl
    · intro v' w' h1 h2 h3
      exact h v' w' (Out.more h1 rfl rfl) h2
theorem Out.form {B : Nat} {w : World} {v : Value} {l : List UInt8} (h : Out B w v l) (h0 : 0 < l.length) : ∃ g c, v = .slice (some ⟨g, 0, none⟩) l.length c ∧ l.length ≤ c ∧ B ≤ g ∧ g < w.heap.size ∧ ∀ i (hi : i < l.length), w.cell? ⟨g, i, none⟩ = some (.int .u8 l[i].toNat) := by
  have hcs := fun (g : Nat) (hg : v.ownBlock = some g) => h.cells (g := g) hg
  have hlt := fun (g : Nat) (hg : v.ownBlock = some g) => (h.lt g hg).2
  rcases h.2 with ⟨rfl, h1⟩ | ⟨g, cap, cur, rfl, hb, hg, hle, hm, hs, ht⟩
  · omega
  · refine ⟨g, cap, rfl, hle, hb, hlt g rfl, fun i hi => ?_⟩
    have := hcs g rfl i (.int .u8 l[i].toNat) (by simp [Lib.byteCells, List.getElem?_eq_getElem hi])
    rw [Addr.add_lit, Nat.zero_add] at this
    exact this
theorem Rd.pre {w : World} {F : Nat → Prop} {q : Addr} {n c : Nat} {l : List UInt8} (h : Rd w F (.slice (some q) n c) l) (k : Nat) (hk : k ≤ l.length) : Rd w F (.slice (some q) k k) (l.take k) := by
  obtain ⟨a, b, off, c', e, hc, hn, ha, hcell⟩ := h
  injection e with e1 e2 e3
  have hl : (l.take k).length = k := by rw [List.length_take]; omega
  refine ⟨some q, b, off, k, by rw [hl], by rw [hl]; exact Nat.le_refl _, (fun h => by cases h), fun h0 => ?_, fun i hi => ?_⟩
  · obtain ⟨h1, h2⟩ := ha (by omega)
    exact ⟨by rw [e1]; exact h1, h2⟩
  · have := hcell i (by omega)
    rw [this]
    simp
theorem Out.free {B : Nat} {w : World} {g n c : Nat} {l : List UInt8} (h : Out B w (.slice (some ⟨g, 0, none⟩) n c) l) (i : Nat) : w.frozen? ⟨g, i, none⟩ = false := by
  rcases h.2 with ⟨e, _⟩ | ⟨g', cap, cur, e, hb, hg, _⟩
  · cases e
  · injection e with e1 e2 e3
    injection e1 with e1
    injection e1 with e1 _ _
    subst e1
    simp [World.frozen?, hg]
/-- One byte of a row of the call's own is stored. -/
theorem Out.set {B : Nat} {w : World} {g n c : Nat} {l : List UInt8} (h : Out B w (.slice (some ⟨g, 0, none⟩) n c) l) (i : Nat) (x : UInt8) : Out B (w.setCell ⟨g, i, none⟩ (.int .u8 x.toNat)) (.slice (some ⟨g, 0, none⟩) n c) (l.set i x) := by
  rcases h.2 with ⟨e, _⟩ | ⟨g', cap, cur, e, hb, hg, hle, hm, hs, ht⟩
  · cases e
  · injection e with e1 e2 e3
    injection e1 with e1
    injection e1 with e1 _ _
    subst e1
    subst e3
    refine ⟨by rw [byteCells_length, Nat.mul_one], .inr ⟨g, c, cur.setIfInBounds i (.int .u8 x.toNat), by rw [List.length_set, e2], hb, ?_, by rw [List.length_set]; exact hle, hm, by simpa using hs, ?_⟩⟩
    · exact Go.Joins.block_setCell hg _
    · rw [Array.toList_setIfInBounds, List.length_set]
      rw [List.take_set, ht]
      unfold Lib.byteCells
      rw [List.map_set]
theorem Rd.lit {W : World} {k : Nat} {c : UInt8} (h : W.heap[k]? = some (.cells #[.int .u8 c.toNat] 5 (0, 0))) : Rd W (fun _ => True) (.slice (some ⟨k, 0, none⟩) 1 1) [c] := by
  refine ⟨some ⟨k, 0, none⟩, k, 0, 1, rfl, Nat.le_refl _, (fun h => by cases h), fun _ => ⟨rfl, (Array.getElem?_eq_some_iff.1 h).1, trivial⟩, fun i hi => ?_⟩
  have : i = 0 := by simp at hi; exact hi
  subst this
  simp only [World.cell?, h]
  rfl
theorem xor8 (a b : UInt8) : bits .xor .u8 (a.toNat : Int) (b.toNat : Int) = ((a ^^^ b).toNat : Int) := by
  have := u8_xor_nat a.toNat b.toNat (by have := a.toNat_lt; omega) (by have := b.toNat_lt; omega)
  rw [this, UInt8.toNat_xor]
/-- make: a row of zeros of the call's own. -/
theorem make_own (w : World) (n : Nat) (hn : n ≤ 140737488355328) : ∃ w', (Instr.makeSlice 23 (.int .i64 (n : Int)) (.int .i64 (n : Int))).run Tryd.prog w = .ok (.slice (some ⟨w.heap.size, 0, none⟩) n n) w' ∧ Out w.heap.size w' (.slice (some ⟨w.heap.size, 0, none⟩) n n) (List.replicate n 0) ∧ w.grownBy w' none ∧ w'.heap.size = w.heap.size + 1 := by
  refine ⟨_, run_make_row' (P := Tryd.prog) 23 5 (.int .u8 0) 1 Tryd.underlying23 Tryd.info5 rfl .i64 .i64 n (by omega) (by omega) w, ?_, galloc _ _ _, by simp⟩
  refine ⟨by simp [Lib.byteCells], .inr ⟨w.heap.size, n, madeCells #[.int .u8 0] n, by simp, Nat.le_refl _, heap_new _ _ _, by simp, by unfold maxLen; omega, by rw [size_madeCells, Nat.mul_one], ?_⟩⟩
  rw [List.length_replicate, Nat.mul_one, List.take_of_length_le (by rw [Array.length_toList, size_madeCells]; exact Nat.le_refl _)]
  apply List.ext_getElem
  · simp [madeCells, Lib.byteCells]
  · intro i h1 h2
    simp [madeCells, Lib.byteCells, Nat.mod_one]
/-- Write, whatever is under way. -/
theorem write_any (w : World) (b : Nat) (l : List UInt8) (v : Value) (F : Nat → Prop) (x : List UInt8) (hs : Hs w b l) (hx : Rd w F v x) (hF : ¬ F b) (hg : Glob w) (hb : 2 ≤ b) (hn : l.length + x.length < 1152921504606846976) :
    Calls Tryd.prog 18 #[.pointer (some ⟨b, 0, none⟩), v] w fun e w' => e = .returned (.tuple #[]) ∧ Hs w' b (l ++ x) ∧ w.grownBy w' (some b) := by
  by_cases h0 : l.length % 64 = 0
  · exact write_even w b l v F x hs hx hF hg hb hn h0
  · by_cases hk : l.length % 64 + x.length < 64
    · exact write_short w b l v F x hs hx hF hg hb hn (by omega) hk
    · exact write_fill w b l v F x hs hx hF hg hb hn (by omega) (by omega)
end Go.Proofs.YtmiojplbcjhggaaDoor
