/- Building keys: a struct out of its parts, a slice of one key. -/
import Derived.Test.YtmpcpakdocaieaaKeyEq
namespace Go.Proofs.Ytmpcpakdocaieaa
open Go Go.RowKit
open Go.RowKit (wrap32 wrap64)

theorem list32 (l : List UInt8) (h : l.length = 32) : ∃ b0 b1 b2 b3 b4 b5 b6 b7 b8 b9 b10 b11 b12 b13 b14 b15 b16 b17 b18 b19 b20 b21 b22 b23 b24 b25 b26 b27 b28 b29 b30 b31 : UInt8, l = [b0, b1, b2, b3, b4, b5, b6, b7, b8, b9, b10, b11, b12, b13, b14, b15, b16, b17, b18, b19, b20, b21, b22, b23, b24, b25, b26, b27, b28, b29, b30, b31] := by
  match l, h with
  | [b0, b1, b2, b3, b4, b5, b6, b7, b8, b9, b10, b11, b12, b13, b14, b15, b16, b17, b18, b19, b20, b21, b22, b23, b24, b25, b26, b27, b28, b29, b30, b31], _ => exact ⟨b0, b1, b2, b3, b4, b5, b6, b7, b8, b9, b10, b11, b12, b13, b14, b15, b16, b17, b18, b19, b20, b21, b22, b23, b24, b25, b26, b27, b28, b29, b30, b31, rfl⟩
theorem built_kid (kid : Nat) (sec : List UInt8) (h : sec.length = 32) : Try.prog.built 107 [(0, .int .u64 (kid : Int)), (1, .agg (Lib.byteCells sec).toArray)] = some (Ky.mk kid sec 0).cells.toArray := by
  obtain ⟨b0, b1, b2, b3, b4, b5, b6, b7, b8, b9, b10, b11, b12, b13, b14, b15, b16, b17, b18, b19, b20, b21, b22, b23, b24, b25, b26, b27, b28, b29, b30, b31, rfl⟩ := list32 sec h
  kernel_rfl
theorem built_all (kid : Nat) (sec : List UInt8) (til : Int) (h : sec.length = 32) : Try.prog.built 107 [(0, .int .u64 (kid : Int)), (1, .agg (Lib.byteCells sec).toArray), (2, .int .i64 til)] = some (Ky.mk kid sec til).cells.toArray := by
  obtain ⟨b0, b1, b2, b3, b4, b5, b6, b7, b8, b9, b10, b11, b12, b13, b14, b15, b16, b17, b18, b19, b20, b21, b22, b23, b24, b25, b26, b27, b28, b29, b30, b31, rfl⟩ := list32 sec h
  kernel_rfl
theorem fill_one (k : Ky) (h : k.sec.length = 32) : Instr.fill (fun i => some (i * 34, 34)) ((Array.range (1 * 34)).map (zky.cells.toArray[· % zky.cells.toArray.size]!)) [(0, .agg k.cells.toArray)] = some k.cells.toArray := by
  obtain ⟨kid, sec, til⟩ := k
  obtain ⟨b0, b1, b2, b3, b4, b5, b6, b7, b8, b9, b10, b11, b12, b13, b14, b15, b16, b17, b18, b19, b20, b21, b22, b23, b24, b25, b26, b27, b28, b29, b30, b31, rfl⟩ := list32 sec h
  kernel_rfl
theorem run_slice1 (k : Ky) (h : k.sec.length = 32) (w : World) : (Instr.buildSlice 55 1 #[(0, .agg k.cells.toArray)]).run Try.prog w = .ok (.slice (some ⟨w.heap.size, 0, none⟩) 1 1) (w.alloc (.cells k.cells.toArray 107)) := by
  have h1 : (sizeOf 107).run Try.prog w = .ok 34 w := by kernel_rfl
  have h2 : (zeroValue 107).run Try.prog w = .ok (.agg zky.cells.toArray) w := by kernel_rfl
  unfold Instr.buildSlice
  simp only [Sem.run_bind, run_underlying Try.underlying55, Result.andThen_ok, h1]
  rw [if_neg (by decide), if_neg (by decide)]
  simp only [Sem.run_bind, Sem.run_pure, Result.andThen_ok, h2, Value.cells, fill_one k h]
  rfl
section
variable {ops : Array Oper} {rest : List Oper} {o : Oper} {a : Act} {w : World} {Q : Exit → Act → World → Prop}
theorem wpList_slice1 (hgd : o.guard = none) (x : Operand) (ho : o.op = .buildSlice 55 1 #[(0, x)]) (k : Ky) (hk : k.sec.length = 32) (hx : a.eval x = .agg k.cells.toArray)
    (h : ∀ w', Blk w' w.heap.size k.cells 107 → w'.heap.size = w.heap.size + 1 → w.grownBy w' none → wpList Try.prog ops Q rest (a.put o.dst (.slice (some ⟨w.heap.size, 0, none⟩) 1 1)) w') : wpList Try.prog ops Q (o :: rest) a w :=
  wpList_plain hgd fun _ hK => by
    have e : (#[(0, x)] : Array (Nat × Operand)).map (fun (i, x) => (i, a.eval x)) = #[(0, .agg k.cells.toArray)] := by simp [hx]
    unfold Oper.wp execOp
    simp only [ho]
    rw [e, Sem.run_bind, run_slice1 k hk w]
    exact hK _ _ (h _ (Blk.new w k.cells 107) (by simp) (galloc _ _ _))
theorem wpList_build_of {P : Program} {ops : Array Oper} {rest : List Oper} {o : Oper} {a : Act} {w : World} {Q : Exit → Act → World → Prop} (hgd : o.guard = none) (t : TypeId) (xs : Array (Nat × Operand)) (ho : o.op = .build t xs) (vs : List (Nat × Value)) (hx : (xs.map fun (i, x) => (i, a.eval x)).toList = vs) (z : List Value) (hz : P.built t vs = some z.toArray)
    (h : wpList P ops Q rest (a.put o.dst (.agg z.toArray)) w) : wpList P ops Q (o :: rest) a w := by
  have e : P.built t (xs.map fun (i, x) => (i, a.eval x)).toList = some z.toArray := by rw [hx]; exact hz
  refine wpList_build hgd t xs ho (by rw [e]; rfl) ?_
  rw [e]
  exact h
end
theorem ring_one (a : Option Addr) (n c : Nat) (nx : Int) : ∀ v ∈ [Value.slice a n c, .int .u64 nx], v.oneCell' = true := fun v hv => by
  simp only [List.mem_cons, List.not_mem_nil, or_false] at hv
  rcases hv with rfl | rfl <;> rfl
theorem OutK.ne_blk {B : Nat} {w : World} {v : Value} {l : List Ky} {b : Nat} {cs : List Value} {t : TypeId} (h : OutK B w v l) (hb : Blk w b cs t) (ht : t ≠ 107) : ∀ j, v.ownBlock = some j → j ≠ b := by
  intro j hj e
  subst e
  rcases h.2.2 with ⟨rfl, _⟩ | ⟨g, cap, cur, rfl, _, hg, _⟩
  · simp [Value.ownBlock] at hj
  · simp [Value.ownBlock] at hj
    subst hj
    unfold Blk at hb
    rw [hb] at hg
    injection hg with hg
    injection hg with _ hg
    exact ht hg
theorem results_blk_tmp {P : Program} {w : World} {fn : Func} {p q : Tmp} {ty : TypeId} (h : fn.results = #[.cell p ty, .tmp q]) (tmps : Array Value) (b : Nat) (t : TypeId) (cs : List Value) (d : TypeDesc) (v : Value)
    (hp : tmps.getD p undef = .pointer (some ⟨b, 0, none⟩)) (hq : tmps.getD q undef = v) (hb : Blk w b cs t) (hu : P.underlying ty = some d) (hd : d.isRow = true) (hi : (P.info? ty).map (·.size) = some cs.length) :
    (results fn tmps).run P w = .ok (.tuple #[.agg cs.toArray, v]) w := by
  rw [results_cell_tmp h, hp, hq]
  have ha : (asAddr (.pointer (some ⟨b, 0, none⟩))).run P w = .ok ⟨b, 0, none⟩ w := rfl
  rw [ha, Result.andThen_ok, run_loadVar_mid w b 0 ty cs d hb.whole hu hd hi]
  rfl
theorem Try.zero69 : (Try.prog.info? 69).map (fun i => i.zero) = some (some (.agg [.slice none 0 0, .int .u64 0].toArray)) := by kernel_rfl
theorem Try.size69 : (Try.prog.info? 69).map (·.size) = some 2 := by kernel_rfl
theorem Try.built69 : Try.prog.built 69 [] = some [Value.slice none 0 0, .int .u64 0].toArray := by kernel_rfl
theorem built_ring (a : Option Addr) (n c : Nat) (nx : Int) : Try.prog.built 69 [(0, .slice a n c), (1, .int .u64 nx)] = some [Value.slice a n c, .int .u64 nx].toArray := by kernel_rfl
end Go.Proofs.Ytmpcpakdocaieaa
