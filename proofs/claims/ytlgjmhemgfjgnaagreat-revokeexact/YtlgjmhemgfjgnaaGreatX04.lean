/- Keys compared; a key's fields. -/
import Derived.Test.YtlgjmhemgfjgnaaGreatKey
import Derived.Stop.BytesEq
namespace Go.Proofs.YtlgjmhemgfjgnaaGreat
open Go Go.RowKit
open Go.RowKit (wrap32 wrap64)

theorem part_cell (t : TypeId) (cs : List Value) (off : Nat) (v : Value) (u : World) (hn : (isAgg t).run Tryz.prog u = .ok false u) (h : cs[off]? = some v) : (part t cs.toArray off).run Tryz.prog u = .ok v u := by
  unfold part
  rw [Sem.run_bind, hn]
  simp [h]
theorem agg4 (u : World) : (isAgg 4).run Tryz.prog u = .ok false u := by kernel_rfl
theorem agg25 (u : World) : (isAgg 67).run Tryz.prog u = .ok false u := by kernel_rfl
theorem agg2 (u : World) : (isAgg 2).run Tryz.prog u = .ok false u := by kernel_rfl
theorem agg27 (u : World) : (isAgg 69).run Tryz.prog u = .ok true u := by kernel_rfl
theorem sz27 (u : World) : (sizeOf 69).run Tryz.prog u = .ok 16 u := by kernel_rfl
theorem part_id {k : Ky} (hk : k.id.length = 16) (u : World) : (part 69 k.cells.toArray 2).run Tryz.prog u = .ok (.agg (Lib.byteCells k.id).toArray) u := by
  unfold part
  rw [Sem.run_bind, agg27]
  simp only [Result.andThen_ok, if_true, Sem.run_bind, sz27, Sem.run_pure]
  congr 2
  have : (Lib.byteCells k.id).length = 16 := by rw [byteCells_length, hk]
  unfold Ky.cells
  simp [this]
theorem fields48 : (Tryz.prog.fieldsOf 85).toList.map (fun f => (f.name, f.type, f.offset)) = [("Whole", 4, 0), ("Grant", 67, 1), ("ID", 69, 2), ("Exp", 2, 18)] := by kernel_rfl
theorem ky_eq {k q : Ky} : (k == q) = ((k.wh == q.wh) && ((k.g == q.g) && ((k.id == q.id) && (k.ex == q.ex)))) := by
  rw [Bool.eq_iff_iff]
  simp only [beq_iff_eq, Bool.and_eq_true]
  constructor
  · rintro rfl; exact ⟨rfl, rfl, rfl, rfl⟩
  · rintro ⟨h1, h2, h3, h4⟩
    obtain ⟨a, b, c, d⟩ := k
    obtain ⟨a', b', c', d'⟩ := q
    simp only at h1 h2 h3 h4
    rw [h1, h2, h3, h4]
theorem equal_key {k q : Ky} (hk : k.id.length = 16) (hq : q.id.length = 16) (u : World) : (Op.equalIn 10000 85 (.agg k.cells.toArray) (.agg q.cells.toArray)).run Tryz.prog u = .ok (k == q) u := by
  rw [show 10000 = 9999 + 1 from rfl, run_equalIn_struct u 9999 85 _ _ Tryz.under48 (by kernel_rfl)]
  obtain ⟨f0, f1, f2, f3, hf⟩ : ∃ f0 f1 f2 f3, (Tryz.prog.fieldsOf 85).toList = [f0, f1, f2, f3] := by
    have := congrArg List.length fields48
    match h : (Tryz.prog.fieldsOf 85).toList with
    | [a, b, c, d] => exact ⟨a, b, c, d, rfl⟩
    | [] => rw [h] at this; simp at this
    | [_] => rw [h] at this; simp at this
    | [_, _] => rw [h] at this; simp at this
    | [_, _, _] => rw [h] at this; simp at this
    | _ :: _ :: _ :: _ :: _ :: _ => rw [h] at this; simp at this
  have hm := fields48
  rw [hf] at hm
  simp only [List.map_cons, List.map_nil, List.cons.injEq, Prod.mk.injEq, and_true] at hm
  obtain ⟨⟨n0, t0, o0⟩, ⟨n1, t1, o1⟩, ⟨n2, t2, o2⟩, ⟨n3, t3, o3⟩⟩ := hm
  rw [hf, ky_eq]
  unfold Op.eqFields
  rw [n0, t0, o0, if_pos (by decide)]
  simp only [Sem.run_bind, part_cell 4 _ 0 _ u (agg4 u) (Ky.c0 k), part_cell 4 _ 0 _ u (agg4 u) (Ky.c0 q), Result.andThen_ok, show 9999 = 9998 + 1 from rfl, run_equalIn_bool u 9998 4 _ _ Tryz.underlying4]
  cases h0 : (k.wh == q.wh) with
  | false => simp
  | true =>
    simp only [Bool.not_true, Bool.false_eq_true, if_false, Bool.true_and]
    unfold Op.eqFields
    rw [n1, t1, o1, if_pos (by decide)]
    simp only [Sem.run_bind, part_cell 67 _ 1 _ u (agg25 u) (Ky.c1 k), part_cell 67 _ 1 _ u (agg25 u) (Ky.c1 q), Result.andThen_ok, run_equalIn_int u 9998 67 .u64 .u64 _ _ Tryz.underlying67]
    have e0 : ((k.g : Int) == (q.g : Int)) = (k.g == q.g) := by
      rw [Bool.eq_iff_iff]; simp only [beq_iff_eq]; omega
    rw [e0]
    cases h1 : (k.g == q.g) with
    | false => simp
    | true =>
      simp only [Bool.not_true, Bool.false_eq_true, if_false, Bool.true_and]
      unfold Op.eqFields
      rw [n2, t2, o2, if_pos (by decide)]
      simp only [Sem.run_bind, part_id hk, part_id hq, Result.andThen_ok]
      have hb : (Op.equalIn (9998 + 1) 69 (.agg (Lib.byteCells k.id).toArray) (.agg (Lib.byteCells q.id).toArray)).run Tryz.prog u = .ok (k.id == q.id) u := run_equalIn_bytes u 9997 69 5 16 Tryz.underlying69 Tryz.underlying5 (fun u => by kernel_rfl) k.id q.id hk hq
      rw [hb]
      simp only [Result.andThen_ok]
      cases h2 : (k.id == q.id) with
      | false => simp
      | true =>
        simp only [Bool.not_true, Bool.false_eq_true, if_false, Bool.true_and]
        unfold Op.eqFields
        rw [n3, t3, o3, if_pos (by decide)]
        simp only [Sem.run_bind, part_cell 2 _ 18 _ u (agg2 u) (Ky.c18 hk), part_cell 2 _ 18 _ u (agg2 u) (Ky.c18 hq), Result.andThen_ok, run_equalIn_int u 9998 2 .i64 .i64 _ _ Tryz.underlying2]
        cases h3 : (k.ex == q.ex) with
        | false => simp
        | true => simp [Op.eqFields]
theorem eqG (op : BinOp) (xs ys : Array Value) {x y : Operand} (u : World) : (do eqGuard op 85 x y (.agg xs) (.agg ys); binOp op 85 (.agg xs) (.agg ys) : Sem Value).run Tryz.prog u = (binOp op 85 (.agg xs) (.agg ys)).run Tryz.prog u := by
  rw [Sem.run_bind, run_eqGuard_agg u op 85 x y _ _ (by kernel_rfl)]
  rfl
theorem eql_key {k q : Ky} (hk : k.id.length = 16) (hq : q.id.length = 16) {x y : Operand} (u : World) : (do eqGuard .eql 85 x y (.agg k.cells.toArray) (.agg q.cells.toArray); binOp .eql 85 (.agg k.cells.toArray) (.agg q.cells.toArray) : Sem Value).run Tryz.prog u = .ok (.bool (k == q)) u := by
  rw [eqG, run_eql_struct, equal_key hk hq]
  rfl
theorem neq_key {k q : Ky} (hk : k.id.length = 16) (hq : q.id.length = 16) {x y : Operand} (u : World) : (do eqGuard .neq 85 x y (.agg k.cells.toArray) (.agg q.cells.toArray); binOp .neq 85 (.agg k.cells.toArray) (.agg q.cells.toArray) : Sem Value).run Tryz.prog u = .ok (.bool (!(k == q))) u := by
  rw [eqG, run_neq_struct, equal_key hk hq]
  rfl
set_option maxRecDepth 100000 in
theorem eql_id (D E : List UInt8) (hD : D.length = 16) (hE : E.length = 16) {x y : Operand} (u : World) : (do eqGuard .eql 69 x y (.agg (Lib.byteCells D).toArray) (.agg (Lib.byteCells E).toArray); binOp .eql 69 (.agg (Lib.byteCells D).toArray) (.agg (Lib.byteCells E).toArray) : Sem Value).run Tryz.prog u = .ok (.bool (D == E)) u := by
  rw [Sem.run_bind, run_eqGuard_agg u .eql 69 x y _ _ (by kernel_rfl)]
  exact run_eql_bytes (P := Tryz.prog) u 69 5 16 Tryz.underlying69 Tryz.underlying5 (fun u => by kernel_rfl) D E hD hE
set_option maxRecDepth 100000 in
theorem neq_id (D E : List UInt8) (hD : D.length = 16) (hE : E.length = 16) {x y : Operand} (u : World) : (do eqGuard .neq 69 x y (.agg (Lib.byteCells D).toArray) (.agg (Lib.byteCells E).toArray); binOp .neq 69 (.agg (Lib.byteCells D).toArray) (.agg (Lib.byteCells E).toArray) : Sem Value).run Tryz.prog u = .ok (.bool (!(D == E))) u := by
  rw [Sem.run_bind, run_eqGuard_agg u .neq 69 x y _ _ (by kernel_rfl)]
  have hb : (Op.equalIn (9998 + 2) 69 (.agg (Lib.byteCells D).toArray) (.agg (Lib.byteCells E).toArray)).run Tryz.prog u = .ok (D == E) u := run_equalIn_bytes u 9998 69 5 16 Tryz.underlying69 Tryz.underlying5 (fun u => by kernel_rfl) D E hD hE
  show (binOp .neq 69 _ _).run Tryz.prog u = _
  rw [run_neq_struct, hb]
  rfl
theorem wpList_bin {P : Program} {ops : Array Oper} {rest : List Oper} {o : Oper} {a : Act} {w : World} {Q : Exit → Act → World → Prop} (hgd : o.guard = none) (op : BinOp) (t : TypeId) (x y : Operand) (ty : TypeId) (ho : o.op = .binOp op t x y ty) (vx vy v : Value) (hx : a.eval x = vx) (hy : a.eval y = vy) (hr : (do eqGuard op t x y vx vy; binOp op t vx vy : Sem Value).run P w = .ok v w)
    (h : wpList P ops Q rest (a.put o.dst v) w) : wpList P ops Q (o :: rest) a w :=
  wpList_plain hgd fun _ hK => by
    subst hx hy
    unfold Oper.wp execOp
    simp only [ho]
    rw [Sem.run_bind, hr]
    exact hK _ _ h
theorem wpList_fd {P : Program} {ops : Array Oper} {rest : List Oper} {o : Oper} {a : Act} {w : World} {Q : Exit → Act → World → Prop} (hgd : o.guard = none) (t : TypeId) (x : Operand) (i : Nat) (ho : o.op = .field t x i) (vx v : Value) (hx : a.eval x = vx) (hr : (Instr.field t vx i).run P w = .ok v w)
    (h : wpList P ops Q rest (a.put o.dst v) w) : wpList P ops Q (o :: rest) a w :=
  wpList_plain hgd fun _ hK => by
    subst hx
    unfold Oper.wp execOp
    simp only [ho]
    rw [Sem.run_bind, hr]
    exact hK _ _ h
end Go.Proofs.YtlgjmhemgfjgnaaGreat

namespace Go.Proofs.YtlgjmhemgfjgnaaGreat
open Go Go.RowKit
open Go.RowKit (wrap32 wrap64)

theorem list16 (l : List UInt8) (h : l.length = 16) : ∃ b0 b1 b2 b3 b4 b5 b6 b7 b8 b9 b10 b11 b12 b13 b14 b15 : UInt8, l = [b0, b1, b2, b3, b4, b5, b6, b7, b8, b9, b10, b11, b12, b13, b14, b15] := by
  match l, h with
  | [b0, b1, b2, b3, b4, b5, b6, b7, b8, b9, b10, b11, b12, b13, b14, b15], _ => exact ⟨b0, b1, b2, b3, b4, b5, b6, b7, b8, b9, b10, b11, b12, b13, b14, b15, rfl⟩
theorem built_add (g : Nat) (id : List UInt8) (ex : Int) (h : id.length = 16) : Tryz.prog.built 85 [(1, .int .u64 (g : Int)), (2, .agg (Lib.byteCells id).toArray), (3, .int .i64 ex)] = some (Ky.mk false g id ex).cells.toArray := by
  obtain ⟨b0, b1, b2, b3, b4, b5, b6, b7, b8, b9, b10, b11, b12, b13, b14, b15, rfl⟩ := list16 id h
  kernel_rfl
theorem built_kill (g : Nat) (ex : Int) : Tryz.prog.built 85 [(0, .bool true), (1, .int .u64 (g : Int)), (3, .int .i64 ex)] = some (Ky.mk true g z16 ex).cells.toArray := by
  kernel_rfl
theorem fill_one (k : Ky) (h : k.id.length = 16) : Instr.fill (fun i => some (i * 19, 19)) ((Array.range (1 * 19)).map (zky.cells.toArray[· % zky.cells.toArray.size]!)) [(0, .agg k.cells.toArray)] = some k.cells.toArray := by
  obtain ⟨wh, g, id, ex⟩ := k
  obtain ⟨b0, b1, b2, b3, b4, b5, b6, b7, b8, b9, b10, b11, b12, b13, b14, b15, rfl⟩ := list16 id h
  kernel_rfl
theorem run_slice1 (k : Ky) (h : k.id.length = 16) (w : World) : (Instr.buildSlice 57 1 #[(0, .agg k.cells.toArray)]).run Tryz.prog w = .ok (.slice (some ⟨w.heap.size, 0, none⟩) 1 1) (w.alloc (.cells k.cells.toArray 85)) := by
  have h1 : (sizeOf 85).run Tryz.prog w = .ok 19 w := by kernel_rfl
  have h2 : (zeroValue 85).run Tryz.prog w = .ok (.agg zky.cells.toArray) w := by kernel_rfl
  unfold Instr.buildSlice
  simp only [Sem.run_bind, run_underlying Tryz.underlying57, Result.andThen_ok, h1]
  rw [if_neg (by decide), if_neg (by decide)]
  simp only [Sem.run_bind, Sem.run_pure, Result.andThen_ok, h2, Value.cells, fill_one k h]
  rfl
section
variable {ops : Array Oper} {rest : List Oper} {o : Oper} {a : Act} {w : World} {Q : Exit → Act → World → Prop}
theorem wpList_slice1 (hgd : o.guard = none) (x : Operand) (ho : o.op = .buildSlice 57 1 #[(0, x)]) (k : Ky) (hk : k.id.length = 16) (hx : a.eval x = .agg k.cells.toArray)
    (h : ∀ w', Blk w' w.heap.size k.cells 85 → w'.heap.size = w.heap.size + 1 → w.grownBy w' none → wpList Tryz.prog ops Q rest (a.put o.dst (.slice (some ⟨w.heap.size, 0, none⟩) 1 1)) w') : wpList Tryz.prog ops Q (o :: rest) a w :=
  wpList_plain hgd fun _ hK => by
    have e : (#[(0, x)] : Array (Nat × Operand)).map (fun (i, x) => (i, a.eval x)) = #[(0, .agg k.cells.toArray)] := by simp [hx]
    unfold Oper.wp execOp
    simp only [ho]
    rw [e, Sem.run_bind, run_slice1 k hk w]
    exact hK _ _ (h _ (Blk.new w k.cells 85) (by simp) (galloc _ _ _))
theorem wpList_build_of {P : Program} {ops : Array Oper} {rest : List Oper} {o : Oper} {a : Act} {w : World} {Q : Exit → Act → World → Prop} (hgd : o.guard = none) (t : TypeId) (xs : Array (Nat × Operand)) (ho : o.op = .build t xs) (vs : List (Nat × Value)) (hx : (xs.map fun (i, x) => (i, a.eval x)).toList = vs) (z : List Value) (hz : P.built t vs = some z.toArray)
    (h : wpList P ops Q rest (a.put o.dst (.agg z.toArray)) w) : wpList P ops Q (o :: rest) a w := by
  have e : P.built t (xs.map fun (i, x) => (i, a.eval x)).toList = some z.toArray := by rw [hx]; exact hz
  refine wpList_build hgd t xs ho (by rw [e]; rfl) ?_
  rw [e]
  exact h
end
theorem OutK.ne_blk {B : Nat} {w : World} {v : Value} {l : List Ky} {b : Nat} {cs : List Value} {t : TypeId} (h : OutK B w v l) (hb : Blk w b cs t) (ht : t ≠ 85) : ∀ j, v.ownBlock = some j → j ≠ b := by
  intro j hj e
  subst e
  rcases h.2.2 with ⟨rfl, _⟩ | ⟨g, cap, cur, rfl, _, hg, _⟩
  · simp [Value.ownBlock] at hj
  · simp [Value.ownBlock] at hj
    subst hj
    unfold Blk at hb
    rw [hb] at hg
    injection hg with hg
    injection hg with _ hg
    exact ht hg
theorem results_blk_tmp {P : Program} {w : World} {fn : Func} {p q : Tmp} {ty : TypeId} (h : fn.results = #[.cell p ty, .tmp q]) (tmps : Array Value) (b : Nat) (t : TypeId) (cs : List Value) (d : TypeDesc) (v : Value)
    (hp : tmps.getD p undef = .pointer (some ⟨b, 0, none⟩)) (hq : tmps.getD q undef = v) (hb : Blk w b cs t) (hu : P.underlying ty = some d) (hd : d.isRow = true) (hi : (P.info? ty).map (·.size) = some cs.length) :
    (results fn tmps).run P w = .ok (.tuple #[.agg cs.toArray, v]) w := by
  rw [results_cell_tmp h, hp, hq]
  have ha : (asAddr (.pointer (some ⟨b, 0, none⟩))).run P w = .ok ⟨b, 0, none⟩ w := rfl
  rw [ha, Result.andThen_ok, run_loadVar_mid w b 0 ty cs d hb.whole hu hd hi]
  rfl
end Go.Proofs.YtlgjmhemgfjgnaaGreat
