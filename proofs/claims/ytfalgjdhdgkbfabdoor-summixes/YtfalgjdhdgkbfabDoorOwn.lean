/- Rows of the call's own: append within a region, one byte stored. -/
import Derived.Test.YtfalgjdhdgkbfabDoorWalkM
import Derived.Lib.SmallJoins
namespace Go.Proofs.YtfalgjdhdgkbfabDoor
open Go Go.RowKit
open Go.RowKit (wrap32 wrap64)

/-- append of bytes that can be read, within a region that draws its order. -/
theorem step_append_rd {w : World} {ops : Array Oper} {o : Oper} {a : Act} {K : Act → World → Prop} {Q : Exit → Act → World → Prop} {E : Prop} (hgd : o.guard = none) (s x : Operand)
    (ho : o.op = .call { callee := .builtin .append, args := #[s, x], argTypes := #[29, 29] })
    (B : Nat) (F : Nat → Prop) (acc l : List UInt8) (hown : Out B w (a.eval s) acc) (hx : Rd w F (a.eval x) l) (hn : acc.length + l.length ≤ 35184372088832) (hB : B ≤ w.heap.size)
    (h : ∀ v' w', Out B w' v' (acc ++ l) → w.grownBy w' (a.eval s).ownBlock → K (a.put o.dst v') w') : if Region.wanted o (yielded ops a.tmps) = true then Oper.wp Tryd.prog o a w K Q else E := by
  have hw : Region.wanted o (yielded ops a.tmps) = true := by simp [Region.wanted, hgd]
  rw [if_pos hw]
  obtain ⟨inf, hi, hz0, hz1, hz2⟩ := info_parts Tryd.info5
  obtain ⟨p, b, off, c, e, hc, hnn, ha, hcell⟩ := hx
  cases p with
  | none =>
    have c0 := hnn rfl
    have hl : l = [] := List.eq_nil_of_length_eq_zero (by omega)
    subst hl
    subst c0
    have hrun := run_append_owned_none (P := Tryd.prog) (w := w) B 29 o.type 5 inf 1 Tryd.underlying29 hi (a.eval s) _ _ hown
    have hK := h (a.eval s) w (by rw [List.append_nil]; exact hown) (World.grownBy.refl _ _)
    have e' : a.eval x = .slice none 0 0 := e
    unfold Oper.wp
    simp [execOp, ho, resolve, invoke, builtin, e', hrun, Result.andThen]
    exact hK
  | some q =>
    refine wp_append_own w s x 29 ho B 5 inf (.int .u8 0) 1 1 Tryd.underlying29 hi hz0 hz1 hz2 rfl (by decide) _ _ _ rfl hown q l.length c (Lib.byteCells l) e (by simp [Lib.byteCells]) ?_ ?_ (by unfold maxLen; omega) (by omega) hB ?_
    · intro j u hu
      have hj : j < l.length := by have := (List.getElem?_eq_some_iff.1 hu).1; simpa [Lib.byteCells] using this
      have hq := (ha (by omega)).1
      injection hq with hq
      rw [hq, Addr.add_lit, hcell j hj, ← hu]
      simp [Lib.byteCells, List.getElem?_eq_getElem hj]
    · intro u hu
      unfold Lib.byteCells at hu
      obtain ⟨_, _, rfl⟩ := List.mem_map.1 hu
      rfl
    · intro v' w' h1 h2 h3
      exact h v' w' (Out.more h1 rfl rfl) h2
theorem Out.form {B : Nat} {w : World} {v : Value} {l : List UInt8} (h : Out B w v l) (h0 : 0 < l.length) : ∃ g c, v = .slice (some ⟨g, 0, none⟩) l.length c ∧ l.length ≤ c ∧ B ≤ g ∧ g < w.heap.size ∧ ∀ i (hi : i < l.length), w.cell? ⟨g, i, none⟩ = some (.int .u8 l[i].toNat) := by
  have hcs := fun (g : Nat) (hg : v.ownBlock = some g) => h.cells (g := g) hg
  have hlt := fun (g : Nat) (hg : v.ownBlock = some g) => (h.lt g hg).2
  rcases h.2 with ⟨rfl, h1⟩ | ⟨g, cap, cur, rfl, hb, hg, hle, hm, hs, ht⟩
  · omega
  · refine ⟨g, cap, rfl, hle, hb, hlt g rfl, fun i hi => ?_⟩
    have := hcs g rfl i (.int .u8 l[i].toNat) (by simp [Lib.byteCells, List.getElem?_eq_getElem hi])
    rw [Addr.add_lit, Nat.zero_add] at this
    exact this
theorem Rd.pre {w : World} {F : Nat → Prop} {q : Addr} {n c : Nat} {l : List UInt8} (h : Rd w F (.slice (some q) n c) l) (k : Nat) (hk : k ≤ l.length) : Rd w F (.slice (some q) k k) (l.take k) := by
  obtain ⟨a, b, off, c', e, hc, hn, ha, hcell⟩ := h
  injection e with e1 e2 e3
  have hl : (l.take k).length = k := by rw [List.length_take]; omega
  refine ⟨some q, b, off, k, by rw [hl], by rw [hl]; exact Nat.le_refl _, (fun h => by cases h), fun h0 => ?_, fun i hi => ?_⟩
  · obtain ⟨h1, h2⟩ := ha (by omega)
    exact ⟨by rw [e1]; exact h1, h2⟩
  · have := hcell i (by omega)
    rw [this]
    simp
theorem wrap_small (r : Nat) (h : (r : Int) < 255) : IntKind.u8.wrap (IntKind.i64.wrap (1 + (r : Int))) = 1 + (r : Int) := by
  rw [IntKind.wrap_i64, IntKind.wrap_u8]; omega
theorem xorb (x : UInt8) (r : Nat) (h : r < 255) : bits .xor .u8 (x.toNat : Int) (1 + (r : Int)) = ((x ^^^ UInt8.ofNat (1 + r)).toNat : Int) ∧ x ^^^ UInt8.ofNat (1 + r) ≠ x := by
  have hx := x.toNat_lt
  have h1 := u8_xor_nat x.toNat (1 + r) (by omega) (by omega)
  have e : (UInt8.ofNat (1 + r)).toNat = 1 + r := by rw [UInt8.toNat_ofNat']; exact Nat.mod_eq_of_lt (by omega)
  refine ⟨?_, fun h2 => ?_⟩
  · rw [UInt8.toNat_xor, e, ← h1]; push_cast; rfl
  · have h3 := congrArg UInt8.toNat h2
    rw [UInt8.toNat_xor, e] at h3
    have : x.toNat ^^^ (1 + r) = x.toNat ^^^ 0 := by rw [h3, Nat.xor_zero]
    have := xor_cancel_left this
    omega
theorem Out.free {B : Nat} {w : World} {g n c : Nat} {l : List UInt8} (h : Out B w (.slice (some ⟨g, 0, none⟩) n c) l) (i : Nat) : w.frozen? ⟨g, i, none⟩ = false := by
  rcases h.2 with ⟨e, _⟩ | ⟨g', cap, cur, e, hb, hg, _⟩
  · cases e
  · injection e with e1 e2 e3
    injection e1 with e1
    injection e1 with e1 _ _
    subst e1
    simp [World.frozen?, hg]
/-- One byte of a row of the call's own is stored. -/
theorem Out.set {B : Nat} {w : World} {g n c : Nat} {l : List UInt8} (h : Out B w (.slice (some ⟨g, 0, none⟩) n c) l) (i : Nat) (x : UInt8) : Out B (w.setCell ⟨g, i, none⟩ (.int .u8 x.toNat)) (.slice (some ⟨g, 0, none⟩) n c) (l.set i x) := by
  rcases h.2 with ⟨e, _⟩ | ⟨g', cap, cur, e, hb, hg, hle, hm, hs, ht⟩
  · cases e
  · injection e with e1 e2 e3
    injection e1 with e1
    injection e1 with e1 _ _
    subst e1
    subst e3
    refine ⟨by rw [byteCells_length, Nat.mul_one], .inr ⟨g, c, cur.setIfInBounds i (.int .u8 x.toNat), by rw [List.length_set, e2], hb, ?_, by rw [List.length_set]; exact hle, hm, by simpa using hs, ?_⟩⟩
    · exact Go.Joins.block_setCell hg _
    · rw [Array.toList_setIfInBounds, List.length_set]
      rw [List.take_set, ht]
      unfold Lib.byteCells
      rw [List.map_set]
theorem Rd.lit {W : World} {k : Nat} {c : UInt8} (h : W.heap[k]? = some (.cells #[.int .u8 c.toNat] 5 (0, 0))) : Rd W (fun _ => True) (.slice (some ⟨k, 0, none⟩) 1 1) [c] := by
  refine ⟨some ⟨k, 0, none⟩, k, 0, 1, rfl, Nat.le_refl _, (fun h => by cases h), fun _ => ⟨rfl, (Array.getElem?_eq_some_iff.1 h).1, trivial⟩, fun i hi => ?_⟩
  have : i = 0 := by simp at hi; exact hi
  subst this
  simp only [World.cell?, h]
  rfl
theorem xor8 (a b : UInt8) : bits .xor .u8 (a.toNat : Int) (b.toNat : Int) = ((a ^^^ b).toNat : Int) := by
  have := u8_xor_nat a.toNat b.toNat (by have := a.toNat_lt; omega) (by have := b.toNat_lt; omega)
  rw [this, UInt8.toNat_xor]
end Go.Proofs.YtfalgjdhdgkbfabDoor
