/- Keys compared; a key's fields. -/
import Derived.Test.YtmpcpakdocaieaaKey
import Derived.Stop.BytesEq
namespace Go.Proofs.Ytmpcpakdocaieaa
open Go Go.RowKit
open Go.RowKit (wrap32 wrap64)

theorem part_cell (t : TypeId) (cs : List Value) (off : Nat) (v : Value) (u : World) (hn : (isAgg t).run Try.prog u = .ok false u) (h : cs[off]? = some v) : (part t cs.toArray off).run Try.prog u = .ok v u := by
  unfold part
  rw [Sem.run_bind, hn]
  simp [h]
theorem agg67 (u : World) : (isAgg 67).run Try.prog u = .ok false u := by kernel_rfl
theorem agg2 (u : World) : (isAgg 2).run Try.prog u = .ok false u := by kernel_rfl
theorem agg70 (u : World) : (isAgg 70).run Try.prog u = .ok true u := by kernel_rfl
theorem sz70 (u : World) : (sizeOf 70).run Try.prog u = .ok 32 u := by kernel_rfl
theorem part_sec {k : Ky} (hk : k.sec.length = 32) (u : World) : (part 70 k.cells.toArray 1).run Try.prog u = .ok (.agg (Lib.byteCells k.sec).toArray) u := by
  unfold part
  rw [Sem.run_bind, agg70]
  simp only [Result.andThen_ok, if_true, Sem.run_bind, sz70, Sem.run_pure]
  congr 2
  have : (Lib.byteCells k.sec).length = 32 := by rw [byteCells_length, hk]
  unfold Ky.cells
  simp [this]
theorem fd0 {k : Ky} (u : World) : (Instr.field 107 (.agg k.cells.toArray) 0).run Try.prog u = .ok (.int .u64 k.kid) u := by
  have h : (Instr.field 107 (.agg k.cells.toArray) 0).run Try.prog u = (part 67 k.cells.toArray 0).run Try.prog u := by kernel_rfl
  rw [h]
  exact part_cell 67 _ 0 _ u (agg67 u) (Ky.c0 k)
theorem fd2 {k : Ky} (hk : k.sec.length = 32) (u : World) : (Instr.field 107 (.agg k.cells.toArray) 2).run Try.prog u = .ok (.int .i64 k.til) u := by
  have h : (Instr.field 107 (.agg k.cells.toArray) 2).run Try.prog u = (part 2 k.cells.toArray 33).run Try.prog u := by kernel_rfl
  rw [h]
  exact part_cell 2 _ 33 _ u (agg2 u) (Ky.c33 hk)
theorem fields107 : (Try.prog.fieldsOf 107).toList.map (fun f => (f.name, f.type, f.offset)) = [("Kid", 67, 0), ("Secret", 70, 1), ("Until", 2, 33)] := by kernel_rfl
theorem ky_eq {k q : Ky} : (k == q) = ((k.kid == q.kid) && ((k.sec == q.sec) && (k.til == q.til))) := by
  rw [Bool.eq_iff_iff]
  simp only [beq_iff_eq, Bool.and_eq_true]
  constructor
  · rintro rfl; exact ⟨rfl, rfl, rfl⟩
  · rintro ⟨h1, h2, h3⟩
    obtain ⟨a, b, c⟩ := k
    obtain ⟨a', b', c'⟩ := q
    simp only at h1 h2 h3
    rw [h1, h2, h3]
theorem equal_key {k q : Ky} (hk : k.sec.length = 32) (hq : q.sec.length = 32) (u : World) : (Op.equalIn 10000 107 (.agg k.cells.toArray) (.agg q.cells.toArray)).run Try.prog u = .ok (k == q) u := by
  rw [show 10000 = 9999 + 1 from rfl, run_equalIn_struct u 9999 107 _ _ Try.under107 (by kernel_rfl)]
  obtain ⟨f0, f1, f2, hf⟩ : ∃ f0 f1 f2, (Try.prog.fieldsOf 107).toList = [f0, f1, f2] := by
    have := congrArg List.length fields107
    match h : (Try.prog.fieldsOf 107).toList with
    | [a, b, c] => exact ⟨a, b, c, rfl⟩
    | [] => rw [h] at this; simp at this
    | [_] => rw [h] at this; simp at this
    | [_, _] => rw [h] at this; simp at this
    | _ :: _ :: _ :: _ :: _ => rw [h] at this; simp at this
  have hm := fields107
  rw [hf] at hm
  simp only [List.map_cons, List.map_nil, List.cons.injEq, Prod.mk.injEq, and_true] at hm
  obtain ⟨⟨n0, t0, o0⟩, ⟨n1, t1, o1⟩, ⟨n2, t2, o2⟩⟩ := hm
  rw [hf, ky_eq]
  unfold Op.eqFields
  rw [n0, t0, o0, if_pos (by decide)]
  simp only [Sem.run_bind, part_cell 67 _ 0 _ u (agg67 u) (Ky.c0 k), part_cell 67 _ 0 _ u (agg67 u) (Ky.c0 q), Result.andThen_ok, show 9999 = 9998 + 1 from rfl, run_equalIn_int u 9998 67 .u64 .u64 _ _ Try.underlying67]
  have e0 : ((k.kid : Int) == (q.kid : Int)) = (k.kid == q.kid) := by
    rw [Bool.eq_iff_iff]; simp only [beq_iff_eq]; omega
  rw [e0]
  cases h0 : (k.kid == q.kid) with
  | false => simp
  | true =>
    simp only [Bool.not_true, Bool.false_eq_true, if_false, Bool.true_and]
    unfold Op.eqFields
    rw [n1, t1, o1, if_pos (by decide)]
    simp only [Sem.run_bind, part_sec hk, part_sec hq, Result.andThen_ok]
    have hb : (Op.equalIn (9998 + 1) 70 (.agg (Lib.byteCells k.sec).toArray) (.agg (Lib.byteCells q.sec).toArray)).run Try.prog u = .ok (k.sec == q.sec) u := run_equalIn_bytes u 9997 70 5 32 Try.underlying70 Try.underlying5 (fun u => by kernel_rfl) k.sec q.sec hk hq
    rw [hb]
    simp only [Result.andThen_ok]
    cases h1 : (k.sec == q.sec) with
    | false => simp
    | true =>
      simp only [Bool.not_true, Bool.false_eq_true, if_false, Bool.true_and]
      unfold Op.eqFields
      rw [n2, t2, o2, if_pos (by decide)]
      simp only [Sem.run_bind, part_cell 2 _ 33 _ u (agg2 u) (Ky.c33 hk), part_cell 2 _ 33 _ u (agg2 u) (Ky.c33 hq), Result.andThen_ok, run_equalIn_int u 9998 2 .i64 .i64 _ _ Try.underlying2]
      cases h2 : (k.til == q.til) with
      | false => simp
      | true => simp [Op.eqFields]
theorem eqG (op : BinOp) (xs ys : Array Value) {x y : Operand} (u : World) : (do eqGuard op 107 x y (.agg xs) (.agg ys); binOp op 107 (.agg xs) (.agg ys) : Sem Value).run Try.prog u = (binOp op 107 (.agg xs) (.agg ys)).run Try.prog u := by
  rw [Sem.run_bind, run_eqGuard_agg u op 107 x y _ _ (by kernel_rfl)]
  rfl
theorem eql_key {k q : Ky} (hk : k.sec.length = 32) (hq : q.sec.length = 32) {x y : Operand} (u : World) : (do eqGuard .eql 107 x y (.agg k.cells.toArray) (.agg q.cells.toArray); binOp .eql 107 (.agg k.cells.toArray) (.agg q.cells.toArray) : Sem Value).run Try.prog u = .ok (.bool (k == q)) u := by
  rw [eqG, run_eql_struct, equal_key hk hq]
  rfl
theorem neq_key {k q : Ky} (hk : k.sec.length = 32) (hq : q.sec.length = 32) {x y : Operand} (u : World) : (do eqGuard .neq 107 x y (.agg k.cells.toArray) (.agg q.cells.toArray); binOp .neq 107 (.agg k.cells.toArray) (.agg q.cells.toArray) : Sem Value).run Try.prog u = .ok (.bool (!(k == q))) u := by
  rw [eqG, run_neq_struct, equal_key hk hq]
  rfl
theorem wpList_bin {P : Program} {ops : Array Oper} {rest : List Oper} {o : Oper} {a : Act} {w : World} {Q : Exit → Act → World → Prop} (hgd : o.guard = none) (op : BinOp) (t : TypeId) (x y : Operand) (ty : TypeId) (ho : o.op = .binOp op t x y ty) (vx vy v : Value) (hx : a.eval x = vx) (hy : a.eval y = vy) (hr : (do eqGuard op t x y vx vy; binOp op t vx vy : Sem Value).run P w = .ok v w)
    (h : wpList P ops Q rest (a.put o.dst v) w) : wpList P ops Q (o :: rest) a w :=
  wpList_plain hgd fun _ hK => by
    subst hx hy
    unfold Oper.wp execOp
    simp only [ho]
    rw [Sem.run_bind, hr]
    exact hK _ _ h
theorem wpList_fd {P : Program} {ops : Array Oper} {rest : List Oper} {o : Oper} {a : Act} {w : World} {Q : Exit → Act → World → Prop} (hgd : o.guard = none) (t : TypeId) (x : Operand) (i : Nat) (ho : o.op = .field t x i) (vx v : Value) (hx : a.eval x = vx) (hr : (Instr.field t vx i).run P w = .ok v w)
    (h : wpList P ops Q rest (a.put o.dst v) w) : wpList P ops Q (o :: rest) a w :=
  wpList_plain hgd fun _ hK => by
    subst hx
    unfold Oper.wp execOp
    simp only [ho]
    rw [Sem.run_bind, hr]
    exact hK _ _ h
end Go.Proofs.Ytmpcpakdocaieaa
