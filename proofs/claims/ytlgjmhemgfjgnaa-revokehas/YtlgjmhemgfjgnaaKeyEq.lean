/- Keys compared; a key's fields. -/
import Derived.Test.YtlgjmhemgfjgnaaKey
import Derived.Stop.BytesEq
namespace Go.Proofs.Ytlgjmhemgfjgnaa
open Go Go.RowKit
open Go.RowKit (wrap32 wrap64)

theorem part_cell (t : TypeId) (cs : List Value) (off : Nat) (v : Value) (u : World) (hn : (isAgg t).run Try.prog u = .ok false u) (h : cs[off]? = some v) : (part t cs.toArray off).run Try.prog u = .ok v u := by
  unfold part
  rw [Sem.run_bind, hn]
  simp [h]
theorem agg4 (u : World) : (isAgg 4).run Try.prog u = .ok false u := by kernel_rfl
theorem agg25 (u : World) : (isAgg 25).run Try.prog u = .ok false u := by kernel_rfl
theorem agg2 (u : World) : (isAgg 2).run Try.prog u = .ok false u := by kernel_rfl
theorem agg27 (u : World) : (isAgg 27).run Try.prog u = .ok true u := by kernel_rfl
theorem sz27 (u : World) : (sizeOf 27).run Try.prog u = .ok 16 u := by kernel_rfl
theorem part_id {k : Ky} (hk : k.id.length = 16) (u : World) : (part 27 k.cells.toArray 2).run Try.prog u = .ok (.agg (Lib.byteCells k.id).toArray) u := by
  unfold part
  rw [Sem.run_bind, agg27]
  simp only [Result.andThen_ok, if_true, Sem.run_bind, sz27, Sem.run_pure]
  congr 2
  have : (Lib.byteCells k.id).length = 16 := by rw [byteCells_length, hk]
  unfold Ky.cells
  simp [this]
theorem fields48 : (Try.prog.fieldsOf 48).toList.map (fun f => (f.name, f.type, f.offset)) = [("Whole", 4, 0), ("Grant", 25, 1), ("ID", 27, 2), ("Exp", 2, 18)] := by kernel_rfl
theorem ky_eq {k q : Ky} : (k == q) = ((k.wh == q.wh) && ((k.g == q.g) && ((k.id == q.id) && (k.ex == q.ex)))) := by
  rw [Bool.eq_iff_iff]
  simp only [beq_iff_eq, Bool.and_eq_true]
  constructor
  · rintro rfl; exact ⟨rfl, rfl, rfl, rfl⟩
  · rintro ⟨h1, h2, h3, h4⟩
    obtain ⟨a, b, c, d⟩ := k
    obtain ⟨a', b', c', d'⟩ := q
    simp only at h1 h2 h3 h4
    rw [h1, h2, h3, h4]
theorem equal_key {k q : Ky} (hk : k.id.length = 16) (hq : q.id.length = 16) (u : World) : (Op.equalIn 10000 48 (.agg k.cells.toArray) (.agg q.cells.toArray)).run Try.prog u = .ok (k == q) u := by
  rw [show 10000 = 9999 + 1 from rfl, run_equalIn_struct u 9999 48 _ _ Try.under48 (by kernel_rfl)]
  obtain ⟨f0, f1, f2, f3, hf⟩ : ∃ f0 f1 f2 f3, (Try.prog.fieldsOf 48).toList = [f0, f1, f2, f3] := by
    have := congrArg List.length fields48
    match h : (Try.prog.fieldsOf 48).toList with
    | [a, b, c, d] => exact ⟨a, b, c, d, rfl⟩
    | [] => rw [h] at this; simp at this
    | [_] => rw [h] at this; simp at this
    | [_, _] => rw [h] at this; simp at this
    | [_, _, _] => rw [h] at this; simp at this
    | _ :: _ :: _ :: _ :: _ :: _ => rw [h] at this; simp at this
  have hm := fields48
  rw [hf] at hm
  simp only [List.map_cons, List.map_nil, List.cons.injEq, Prod.mk.injEq, and_true] at hm
  obtain ⟨⟨n0, t0, o0⟩, ⟨n1, t1, o1⟩, ⟨n2, t2, o2⟩, ⟨n3, t3, o3⟩⟩ := hm
  rw [hf, ky_eq]
  unfold Op.eqFields
  rw [n0, t0, o0, if_pos (by decide)]
  simp only [Sem.run_bind, part_cell 4 _ 0 _ u (agg4 u) (Ky.c0 k), part_cell 4 _ 0 _ u (agg4 u) (Ky.c0 q), Result.andThen_ok, show 9999 = 9998 + 1 from rfl, run_equalIn_bool u 9998 4 _ _ Try.underlying4]
  cases h0 : (k.wh == q.wh) with
  | false => simp
  | true =>
    simp only [Bool.not_true, Bool.false_eq_true, if_false, Bool.true_and]
    unfold Op.eqFields
    rw [n1, t1, o1, if_pos (by decide)]
    simp only [Sem.run_bind, part_cell 25 _ 1 _ u (agg25 u) (Ky.c1 k), part_cell 25 _ 1 _ u (agg25 u) (Ky.c1 q), Result.andThen_ok, run_equalIn_int u 9998 25 .u64 .u64 _ _ Try.underlying25]
    have e0 : ((k.g : Int) == (q.g : Int)) = (k.g == q.g) := by
      rw [Bool.eq_iff_iff]; simp only [beq_iff_eq]; omega
    rw [e0]
    cases h1 : (k.g == q.g) with
    | false => simp
    | true =>
      simp only [Bool.not_true, Bool.false_eq_true, if_false, Bool.true_and]
      unfold Op.eqFields
      rw [n2, t2, o2, if_pos (by decide)]
      simp only [Sem.run_bind, part_id hk, part_id hq, Result.andThen_ok]
      have hb : (Op.equalIn (9998 + 1) 27 (.agg (Lib.byteCells k.id).toArray) (.agg (Lib.byteCells q.id).toArray)).run Try.prog u = .ok (k.id == q.id) u := run_equalIn_bytes u 9997 27 5 16 Try.underlying27 Try.underlying5 (fun u => by kernel_rfl) k.id q.id hk hq
      rw [hb]
      simp only [Result.andThen_ok]
      cases h2 : (k.id == q.id) with
      | false => simp
      | true =>
        simp only [Bool.not_true, Bool.false_eq_true, if_false, Bool.true_and]
        unfold Op.eqFields
        rw [n3, t3, o3, if_pos (by decide)]
        simp only [Sem.run_bind, part_cell 2 _ 18 _ u (agg2 u) (Ky.c18 hk), part_cell 2 _ 18 _ u (agg2 u) (Ky.c18 hq), Result.andThen_ok, run_equalIn_int u 9998 2 .i64 .i64 _ _ Try.underlying2]
        cases h3 : (k.ex == q.ex) with
        | false => simp
        | true => simp [Op.eqFields]
theorem eqG (op : BinOp) (xs ys : Array Value) {x y : Operand} (u : World) : (do eqGuard op 48 x y (.agg xs) (.agg ys); binOp op 48 (.agg xs) (.agg ys) : Sem Value).run Try.prog u = (binOp op 48 (.agg xs) (.agg ys)).run Try.prog u := by
  rw [Sem.run_bind, run_eqGuard_agg u op 48 x y _ _ (by kernel_rfl)]
  rfl
theorem eql_key {k q : Ky} (hk : k.id.length = 16) (hq : q.id.length = 16) {x y : Operand} (u : World) : (do eqGuard .eql 48 x y (.agg k.cells.toArray) (.agg q.cells.toArray); binOp .eql 48 (.agg k.cells.toArray) (.agg q.cells.toArray) : Sem Value).run Try.prog u = .ok (.bool (k == q)) u := by
  rw [eqG, run_eql_struct, equal_key hk hq]
  rfl
theorem neq_key {k q : Ky} (hk : k.id.length = 16) (hq : q.id.length = 16) {x y : Operand} (u : World) : (do eqGuard .neq 48 x y (.agg k.cells.toArray) (.agg q.cells.toArray); binOp .neq 48 (.agg k.cells.toArray) (.agg q.cells.toArray) : Sem Value).run Try.prog u = .ok (.bool (!(k == q))) u := by
  rw [eqG, run_neq_struct, equal_key hk hq]
  rfl
set_option maxRecDepth 100000 in
theorem eql_id (D E : List UInt8) (hD : D.length = 16) (hE : E.length = 16) {x y : Operand} (u : World) : (do eqGuard .eql 27 x y (.agg (Lib.byteCells D).toArray) (.agg (Lib.byteCells E).toArray); binOp .eql 27 (.agg (Lib.byteCells D).toArray) (.agg (Lib.byteCells E).toArray) : Sem Value).run Try.prog u = .ok (.bool (D == E)) u := by
  rw [Sem.run_bind, run_eqGuard_agg u .eql 27 x y _ _ (by kernel_rfl)]
  exact run_eql_bytes (P := Try.prog) u 27 5 16 Try.underlying27 Try.underlying5 (fun u => by kernel_rfl) D E hD hE
set_option maxRecDepth 100000 in
theorem neq_id (D E : List UInt8) (hD : D.length = 16) (hE : E.length = 16) {x y : Operand} (u : World) : (do eqGuard .neq 27 x y (.agg (Lib.byteCells D).toArray) (.agg (Lib.byteCells E).toArray); binOp .neq 27 (.agg (Lib.byteCells D).toArray) (.agg (Lib.byteCells E).toArray) : Sem Value).run Try.prog u = .ok (.bool (!(D == E))) u := by
  rw [Sem.run_bind, run_eqGuard_agg u .neq 27 x y _ _ (by kernel_rfl)]
  have hb : (Op.equalIn (9998 + 2) 27 (.agg (Lib.byteCells D).toArray) (.agg (Lib.byteCells E).toArray)).run Try.prog u = .ok (D == E) u := run_equalIn_bytes u 9998 27 5 16 Try.underlying27 Try.underlying5 (fun u => by kernel_rfl) D E hD hE
  show (binOp .neq 27 _ _).run Try.prog u = _
  rw [run_neq_struct, hb]
  rfl
theorem wpList_bin {P : Program} {ops : Array Oper} {rest : List Oper} {o : Oper} {a : Act} {w : World} {Q : Exit → Act → World → Prop} (hgd : o.guard = none) (op : BinOp) (t : TypeId) (x y : Operand) (ty : TypeId) (ho : o.op = .binOp op t x y ty) (vx vy v : Value) (hx : a.eval x = vx) (hy : a.eval y = vy) (hr : (do eqGuard op t x y vx vy; binOp op t vx vy : Sem Value).run P w = .ok v w)
    (h : wpList P ops Q rest (a.put o.dst v) w) : wpList P ops Q (o :: rest) a w :=
  wpList_plain hgd fun _ hK => by
    subst hx hy
    unfold Oper.wp execOp
    simp only [ho]
    rw [Sem.run_bind, hr]
    exact hK _ _ h
theorem wpList_fd {P : Program} {ops : Array Oper} {rest : List Oper} {o : Oper} {a : Act} {w : World} {Q : Exit → Act → World → Prop} (hgd : o.guard = none) (t : TypeId) (x : Operand) (i : Nat) (ho : o.op = .field t x i) (vx v : Value) (hx : a.eval x = vx) (hr : (Instr.field t vx i).run P w = .ok v w)
    (h : wpList P ops Q rest (a.put o.dst v) w) : wpList P ops Q (o :: rest) a w :=
  wpList_plain hgd fun _ hK => by
    subst hx
    unfold Oper.wp execOp
    simp only [ho]
    rw [Sem.run_bind, hr]
    exact hK _ _ h
end Go.Proofs.Ytlgjmhemgfjgnaa
