/- Building keys: a struct out of its parts, a slice of one key. -/
import Derived.Test.YtlgjmhemgfjgnaaKeyEq
namespace Go.Proofs.Ytlgjmhemgfjgnaa
open Go Go.RowKit
open Go.RowKit (wrap32 wrap64)

theorem list16 (l : List UInt8) (h : l.length = 16) : ∃ b0 b1 b2 b3 b4 b5 b6 b7 b8 b9 b10 b11 b12 b13 b14 b15 : UInt8, l = [b0, b1, b2, b3, b4, b5, b6, b7, b8, b9, b10, b11, b12, b13, b14, b15] := by
  match l, h with
  | [b0, b1, b2, b3, b4, b5, b6, b7, b8, b9, b10, b11, b12, b13, b14, b15], _ => exact ⟨b0, b1, b2, b3, b4, b5, b6, b7, b8, b9, b10, b11, b12, b13, b14, b15, rfl⟩
theorem built_add (g : Nat) (id : List UInt8) (ex : Int) (h : id.length = 16) : Try.prog.built 48 [(1, .int .u64 (g : Int)), (2, .agg (Lib.byteCells id).toArray), (3, .int .i64 ex)] = some (Ky.mk false g id ex).cells.toArray := by
  obtain ⟨b0, b1, b2, b3, b4, b5, b6, b7, b8, b9, b10, b11, b12, b13, b14, b15, rfl⟩ := list16 id h
  kernel_rfl
theorem built_kill (g : Nat) (ex : Int) : Try.prog.built 48 [(0, .bool true), (1, .int .u64 (g : Int)), (3, .int .i64 ex)] = some (Ky.mk true g z16 ex).cells.toArray := by
  kernel_rfl
theorem fill_one (k : Ky) (h : k.id.length = 16) : Instr.fill (fun i => some (i * 19, 19)) ((Array.range (1 * 19)).map (zky.cells.toArray[· % zky.cells.toArray.size]!)) [(0, .agg k.cells.toArray)] = some k.cells.toArray := by
  obtain ⟨wh, g, id, ex⟩ := k
  obtain ⟨b0, b1, b2, b3, b4, b5, b6, b7, b8, b9, b10, b11, b12, b13, b14, b15, rfl⟩ := list16 id h
  kernel_rfl
theorem run_slice1 (k : Ky) (h : k.id.length = 16) (w : World) : (Instr.buildSlice 23 1 #[(0, .agg k.cells.toArray)]).run Try.prog w = .ok (.slice (some ⟨w.heap.size, 0, none⟩) 1 1) (w.alloc (.cells k.cells.toArray 48)) := by
  have h1 : (sizeOf 48).run Try.prog w = .ok 19 w := by kernel_rfl
  have h2 : (zeroValue 48).run Try.prog w = .ok (.agg zky.cells.toArray) w := by kernel_rfl
  unfold Instr.buildSlice
  simp only [Sem.run_bind, run_underlying Try.underlying23, Result.andThen_ok, h1]
  rw [if_neg (by decide), if_neg (by decide)]
  simp only [Sem.run_bind, Sem.run_pure, Result.andThen_ok, h2, Value.cells, fill_one k h]
  rfl
section
variable {ops : Array Oper} {rest : List Oper} {o : Oper} {a : Act} {w : World} {Q : Exit → Act → World → Prop}
theorem wpList_slice1 (hgd : o.guard = none) (x : Operand) (ho : o.op = .buildSlice 23 1 #[(0, x)]) (k : Ky) (hk : k.id.length = 16) (hx : a.eval x = .agg k.cells.toArray)
    (h : ∀ w', Blk w' w.heap.size k.cells 48 → w'.heap.size = w.heap.size + 1 → w.grownBy w' none → wpList Try.prog ops Q rest (a.put o.dst (.slice (some ⟨w.heap.size, 0, none⟩) 1 1)) w') : wpList Try.prog ops Q (o :: rest) a w :=
  wpList_plain hgd fun _ hK => by
    have e : (#[(0, x)] : Array (Nat × Operand)).map (fun (i, x) => (i, a.eval x)) = #[(0, .agg k.cells.toArray)] := by simp [hx]
    unfold Oper.wp execOp
    simp only [ho]
    rw [e, Sem.run_bind, run_slice1 k hk w]
    exact hK _ _ (h _ (Blk.new w k.cells 48) (by simp) (galloc _ _ _))
theorem wpList_build_of {P : Program} {ops : Array Oper} {rest : List Oper} {o : Oper} {a : Act} {w : World} {Q : Exit → Act → World → Prop} (hgd : o.guard = none) (t : TypeId) (xs : Array (Nat × Operand)) (ho : o.op = .build t xs) (vs : List (Nat × Value)) (hx : (xs.map fun (i, x) => (i, a.eval x)).toList = vs) (z : List Value) (hz : P.built t vs = some z.toArray)
    (h : wpList P ops Q rest (a.put o.dst (.agg z.toArray)) w) : wpList P ops Q (o :: rest) a w := by
  have e : P.built t (xs.map fun (i, x) => (i, a.eval x)).toList = some z.toArray := by rw [hx]; exact hz
  refine wpList_build hgd t xs ho (by rw [e]; rfl) ?_
  rw [e]
  exact h
end
theorem OutK.ne_blk {B : Nat} {w : World} {v : Value} {l : List Ky} {b : Nat} {cs : List Value} {t : TypeId} (h : OutK B w v l) (hb : Blk w b cs t) (ht : t ≠ 48) : ∀ j, v.ownBlock = some j → j ≠ b := by
  intro j hj e
  subst e
  rcases h.2.2 with ⟨rfl, _⟩ | ⟨g, cap, cur, rfl, _, hg, _⟩
  · simp [Value.ownBlock] at hj
  · simp [Value.ownBlock] at hj
    subst hj
    unfold Blk at hb
    rw [hb] at hg
    injection hg with hg
    injection hg with _ hg
    exact ht hg
theorem results_blk_tmp {P : Program} {w : World} {fn : Func} {p q : Tmp} {ty : TypeId} (h : fn.results = #[.cell p ty, .tmp q]) (tmps : Array Value) (b : Nat) (t : TypeId) (cs : List Value) (d : TypeDesc) (v : Value)
    (hp : tmps.getD p undef = .pointer (some ⟨b, 0, none⟩)) (hq : tmps.getD q undef = v) (hb : Blk w b cs t) (hu : P.underlying ty = some d) (hd : d.isRow = true) (hi : (P.info? ty).map (·.size) = some cs.length) :
    (results fn tmps).run P w = .ok (.tuple #[.agg cs.toArray, v]) w := by
  rw [results_cell_tmp h, hp, hq]
  have ha : (asAddr (.pointer (some ⟨b, 0, none⟩))).run P w = .ok ⟨b, 0, none⟩ w := rfl
  rw [ha, Result.andThen_ok, run_loadVar_mid w b 0 ty cs d hb.whole hu hd hi]
  rfl
end Go.Proofs.Ytlgjmhemgfjgnaa
