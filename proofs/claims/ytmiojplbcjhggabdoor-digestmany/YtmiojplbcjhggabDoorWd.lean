/- Words; laws for guarded operations; arrays compared. -/
import Derived.Test.YtmiojplbcjhggabDoorApB
import Derived.Test.YtmiojplbcjhggabDoorGrow2
namespace Go.Proofs.YtmiojplbcjhggabDoor
open Go Go.RowKit
open Go.RowKit (wrap32 wrap64)

/-- a word's cells. -/
def wdc (salt : List UInt8) (s : ByteArray) (r : Int) : List Value := Lib.byteCells salt ++ [.string s, .int .i64 r]
theorem wdc_length (salt : List UInt8) (s : ByteArray) (r : Int) (h : salt.length = 16) : (wdc salt s r).length = 18 := by simp [wdc, byteCells_length, h]
theorem wdc_one (salt : List UInt8) (s : ByteArray) (r : Int) : ∀ v ∈ wdc salt s r, v.oneCell' = true := by
  intro v hv
  unfold wdc at hv
  rcases List.mem_append.1 hv with h | h
  · exact bcs_one _ v h
  · simp at h
    rcases h with rfl | rfl <;> rfl
theorem wdc_16 (salt : List UInt8) (s : ByteArray) (r : Int) (h : salt.length = 16) : (wdc salt s r)[16]? = some (.string s) := by
  unfold wdc
  rw [List.getElem?_append_right (by rw [byteCells_length, h]; exact Nat.le_refl _), byteCells_length, h]
  rfl
theorem wdc_17 (salt : List UInt8) (s : ByteArray) (r : Int) (h : salt.length = 16) : (wdc salt s r)[17]? = some (.int .i64 r) := by
  unfold wdc
  rw [List.getElem?_append_right (by rw [byteCells_length, h]; omega), byteCells_length, h]
  rfl
def zwd : List Value := y16 ++ [.string ⟨#[]⟩, .int .i64 0]
theorem Tryd.zero47 : (Tryd.prog.info? 47).map (fun i => i.zero) = some (some (.agg zwd.toArray)) := by kernel_rfl
theorem Tryd.size47 : (Tryd.prog.info? 47).map (·.size) = some 18 := by kernel_rfl
/-- a row of words. -/
def RowsWd (W : World) (a : Option Addr) (b o n : Nat) (S : Nat → List UInt8) (T : Nat → ByteArray) (R : Nat → Int) : Prop :=
  (0 < n → a = some ⟨b, o, none⟩ ∧ b < W.heap.size) ∧ ∀ i, i < n → (S i).length = 16 ∧ (T i).size ≤ 140737488355328 ∧ -9223372036854775808 ≤ R i ∧ R i < 9223372036854775808 ∧ W.rangeAt b (o + i * 18) (wdc (S i) (T i) (R i))
theorem range_on {W u : World} {b o : Nat} {vs : List Value} (h : W.rangeAt b o vs) (hb : b < W.heap.size) (hg : W.grownBy u none) : u.rangeAt b o vs := fun j v hv => by
  rw [cell_at hg hb (by simp)]
  exact h j v hv
theorem RowsWd.on {W u : World} {a : Option Addr} {b o n : Nat} {S : Nat → List UInt8} {T : Nat → ByteArray} {R : Nat → Int} (h : RowsWd W a b o n S T R) (hg : W.grownBy u none) : RowsWd u a b o n S T R :=
  ⟨fun h0 => ⟨(h.1 h0).1, Nat.lt_of_lt_of_le (h.1 h0).2 hg.size⟩, fun i hi => ⟨(h.2 i hi).1, (h.2 i hi).2.1, (h.2 i hi).2.2.1, (h.2 i hi).2.2.2.1, range_on (h.2 i hi).2.2.2.2 (h.1 (by omega)).2 hg⟩⟩

theorem neqG_32 (op : BinOp) (D E : List UInt8) {x y : Operand} (u : World) : (do eqGuard op 26 x y (.agg (Lib.byteCells D).toArray) (.agg (Lib.byteCells E).toArray); binOp op 26 (.agg (Lib.byteCells D).toArray) (.agg (Lib.byteCells E).toArray) : Sem Value).run Tryd.prog u = (binOp op 26 (.agg (Lib.byteCells D).toArray) (.agg (Lib.byteCells E).toArray)).run Tryd.prog u := by
  rw [Sem.run_bind, run_eqGuard_agg u op 26 x y _ _ (by kernel_rfl)]
  rfl
theorem neq_self (D : List UInt8) (hD : D.length = 32) (u : World) : (binOp .neq 26 (.agg (Lib.byteCells D).toArray) (.agg (Lib.byteCells D).toArray)).run Tryd.prog u = .ok (.bool false) u := by
  rw [neq_32 D D hD hD u]
  simp
theorem wpList_bin {P : Program} {ops : Array Oper} {rest : List Oper} {o : Oper} {a : Act} {w : World} {Q : Exit → Act → World → Prop} (hgd : o.guard = none) (op : BinOp) (t : TypeId) (x y : Operand) (ty : TypeId) (ho : o.op = .binOp op t x y ty) (vx vy v : Value) (hx : a.eval x = vx) (hy : a.eval y = vy) (hr : (do eqGuard op t x y vx vy; binOp op t vx vy : Sem Value).run P w = .ok v w)
    (h : wpList P ops Q rest (a.put o.dst v) w) : wpList P ops Q (o :: rest) a w :=
  wpList_plain hgd fun _ hK => by
    subst hx hy
    unfold Oper.wp execOp
    simp only [ho]
    rw [Sem.run_bind, hr]
    exact hK _ _ h
section
variable {P : Program} {ops : Array Oper} {rest : List Oper} {o : Oper} {a : Act} {w : World} {Q : Exit → Act → World → Prop}
theorem wpList_want (hw : Region.wanted o (yielded ops a.tmps) = true) (h : ∀ K : Act → World → Prop, (∀ a w, wpList P ops Q rest a w → K a w) → o.wp P a w K Q) : wpList P ops Q (o :: rest) a w :=
  wpList_step fun K hK => by rw [if_pos hw]; exact h K hK
theorem wpList_load_partW (hw : Region.wanted o (yielded ops a.tmps) = true) (ty : TypeId) (x : Operand) (ho : o.op = .load ty x) (b off : Nat) (vs : List Value) (d : TypeDesc) (hx : a.eval x = .pointer (some ⟨b, off, none⟩)) (hc : w.rangeAt b off vs)
    (hu : P.underlying ty = some d) (hd : d.isRow = true) (hi : (P.info? ty).map (·.size) = some vs.length)
    (h : wpList P ops Q rest (a.put o.dst (.agg vs.toArray)) w) : wpList P ops Q (o :: rest) a w :=
  wpList_want hw fun _ hK => wp_load_mid ty x ho b off hx vs d hc hu hd hi (hK _ _ h)
theorem wpList_binW (hw : Region.wanted o (yielded ops a.tmps) = true) (op : BinOp) (t : TypeId) (x y : Operand) (ty : TypeId) (ho : o.op = .binOp op t x y ty) (vx vy v : Value) (hx : a.eval x = vx) (hy : a.eval y = vy) (hr : (do eqGuard op t x y vx vy; binOp op t vx vy : Sem Value).run P w = .ok v w)
    (h : wpList P ops Q rest (a.put o.dst v) w) : wpList P ops Q (o :: rest) a w :=
  wpList_want hw fun _ hK => by
    subst hx hy
    unfold Oper.wp execOp
    simp only [ho]
    rw [Sem.run_bind, hr]
    exact hK _ _ h
theorem wpList_build_ofW (hw : Region.wanted o (yielded ops a.tmps) = true) (t : TypeId) (xs : Array (Nat × Operand)) (ho : o.op = .build t xs) (vs : List (Nat × Value)) (hx : (xs.map fun (i, x) => (i, a.eval x)).toList = vs) (z : List Value) (hz : P.built t vs = some z.toArray)
    (h : wpList P ops Q rest (a.put o.dst (.agg z.toArray)) w) : wpList P ops Q (o :: rest) a w := by
  have e : P.built t (xs.map fun (i, x) => (i, a.eval x)).toList = some z.toArray := by rw [hx]; exact hz
  refine wpList_want hw fun _ hK => ?_
  refine wp_build t xs ho (by rw [e]; rfl) ?_
  rw [e]
  exact hK _ _ h
end
theorem Blk.rdn {w : World} {b n : Nat} {S : List Value} {l : List UInt8} {t : TypeId} (h : Blk w b S t) (hS : Lib.byteCells l = S) (hl : l.length = n) : Rd w (fun k => k = b) (.slice (some ⟨b, 0, none⟩) n n) l := by
  subst hS
  refine ⟨_, b, 0, n, by rw [hl], by rw [hl]; exact Nat.le_refl _, (fun h => by cases h), fun _ => ⟨rfl, h.lt, rfl⟩, fun i hi => ?_⟩
  rw [Nat.zero_add, h.cell i]
  simp [Lib.byteCells, List.getElem?_eq_getElem hi]

theorem quietAt_slice0 {P : Program} {C : World → Prop} {o : Oper} {a : Act} {u : World} (t : TypeId) (x : Operand) (vx v : Value) (ho : o.op = .slice t x none none none) (hx : a.eval x = vx) (hr : (Instr.sliceAt t vx none none none).run P u = .ok v u) : o.quietAt P a C u v := by
  subst hx
  unfold Oper.quietAt execOp
  simp only [ho, Option.map_none]
  rw [Sem.run_bind, hr]
  exact ⟨rfl, rfl⟩
theorem arr24 (b : Nat) (u : World) : (Instr.sliceAt 26 (.pointer (some ⟨b, 0, none⟩)) none none none).run Tryd.prog u = .ok (.slice (some ⟨b, 0, none⟩) 32 32) u := by
  go_simp
theorem arr53 (b : Nat) (u : World) : (Instr.sliceAt 45 (.pointer (some ⟨b, 0, none⟩)) none none none).run Tryd.prog u = .ok (.slice (some ⟨b, 0, none⟩) 16 16) u := by
  go_simp

theorem eql_16 (D E : List UInt8) (hD : D.length = 16) (hE : E.length = 16) {x y : Operand} (u : World) : (do eqGuard .eql 45 x y (.agg (Lib.byteCells D).toArray) (.agg (Lib.byteCells E).toArray); binOp .eql 45 (.agg (Lib.byteCells D).toArray) (.agg (Lib.byteCells E).toArray) : Sem Value).run Tryd.prog u = .ok (.bool (D == E)) u := by
  rw [Sem.run_bind, run_eqGuard_agg u .eql 45 x y _ _ (by kernel_rfl)]
  exact run_eql_bytes (P := Tryd.prog) u 45 5 16 Tryd.underlying45 Tryd.underlying5 (fun u => by kernel_rfl) D E hD hE
end Go.Proofs.YtmiojplbcjhggabDoor
