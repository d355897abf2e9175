/- Worlds; whole structs and arrays by value. -/
import Derived.Test.YtpbiofnncdneoaaGreatDoorProg
import Derived.WalkKit
import Derived.WalkSpells
import Derived.WalkLawsBesides
import Derived.WalkMore
import Derived.KernelRfl
import Derived.Deep.AppendLies
import Derived.Deep.OwnRows
import Derived.Deep.QuietTactic
import Derived.BigQuiet
import Derived.Laws.NewBlocks
import Derived.Laws.BitsAllLaws
import Derived.Laws.AppendOwnNone
import Derived.Lib.AppendStr
import Derived.Deep.MidRow
import Derived.Deep.WholeRow
import Derived.Deep.RegionHeld3
import Derived.Laws.CopyOwn
import Derived.Laws.ShiftsVarLaws
import Derived.Laws.StructEq
namespace Go.Proofs.YtpbiofnncdneoaaGreatDoor
open Go Go.RowKit
open Go.RowKit (wrap32 wrap64)

theorem hid {p : Prop} (h : p) : Hid p := h
theorem gtrans {a b c : World} {row : Option Nat} (h : a.grownBy b row) (k : b.grownBy c row) : a.grownBy c row :=
  ⟨k.os.trans h.os, k.tape.trans h.tape, k.output.trans h.output, Nat.le_trans h.size k.size, fun i hi hr => (k.block i (Nat.lt_of_lt_of_le hi h.size) hr).trans (h.block i hi hr)⟩
theorem grefl (w : World) (row : Option Nat) : w.grownBy w row := ⟨rfl, rfl, rfl, Nat.le_refl _, fun _ _ _ => rfl⟩
theorem gset (w : World) (a : Addr) (u : Value) : w.grownBy (w.setCell a u) (some a.block) :=
  ⟨rfl, rfl, rfl, by simp [World.setCell], fun k _ hk => Below.heap_setCell _ _ _ _ (fun e => hk (by rw [e]))⟩
theorem gdrew (w : World) (n : Nat) (row : Option Nat) : w.grownBy (w.drewN n) row := ⟨rfl, rfl, rfl, Nat.le_refl _, fun _ _ _ => rfl⟩
theorem gbelow {w w' : World} (h : w.grownBy w' none) : Below w.heap.size w w' := ⟨h.os, h.tape, h.output, h.size, fun k hk => h.block k hk (by simp)⟩
theorem gof {w w' : World} (h : Below w.heap.size w w') (row : Option Nat) : w.grownBy w' row := ⟨h.os, h.tape, h.output, h.size, fun k hk _ => h.block k hk⟩
theorem galloc (w : World) (o : Obj) (row : Option Nat) : w.grownBy (w.alloc o) row := World.grownBy_alloc w o row
theorem gsome {a b : World} (h : a.grownBy b none) (row : Option Nat) : a.grownBy b row := ⟨h.os, h.tape, h.output, h.size, fun k hk _ => h.block k hk (by simp)⟩
theorem heap_new (w : World) (cs : Array Value) (t : TypeId) : (w.alloc (.cells cs t)).heap[w.heap.size]? = some (.cells cs t (0, 0)) := by
  show (w.heap.push _)[w.heap.size]? = _
  simp
theorem heap_at {w u : World} {k : Nat} {x : Obj} {row : Option Nat} (hg : w.grownBy u row) (hr : row ≠ some k) (h : w.heap[k]? = some x) : u.heap[k]? = some x :=
  (hg.block _ (Array.getElem?_eq_some_iff.1 h).1 (fun e => hr e.symm)).trans h
theorem cell_at {w u : World} {row : Option Nat} (hg : w.grownBy u row) {b o : Nat} (hb : b < w.heap.size) (hr : row ≠ some b) : u.cell? ⟨b, o, none⟩ = w.cell? ⟨b, o, none⟩ := by
  have := hg.block b hb (fun e => hr e.symm)
  simp only [World.cell?, this]
theorem u8_bd (x : UInt8) : 0 ≤ (x.toNat : Int) ∧ (x.toNat : Int) < 256 := by have := x.toNat_lt; omega
theorem ret_int {k : IntKind} {a b : Int} (h : a = b) : Ending.returned (.int k a) = .returned (.int k b) := by rw [h]

theorem byteCells_append (a b : List UInt8) : Lib.byteCells (a ++ b) = Lib.byteCells a ++ Lib.byteCells b := by simp [Lib.byteCells]
theorem byteCells_length (a : List UInt8) : (Lib.byteCells a).length = a.length := by simp [Lib.byteCells]
theorem bcs_one (l : List UInt8) : ∀ v ∈ Lib.byteCells l, v.oneCell' = true := by
  intro v hv
  unfold Lib.byteCells at hv
  obtain ⟨_, _, rfl⟩ := List.mem_map.1 hv
  rfl
/-- Block b is a row of cells cs. -/
def Blk (w : World) (b : Nat) (cs : List Value) (t : TypeId) : Prop := w.heap[b]? = some (.cells cs.toArray t (0, 0))
theorem Blk.lt {w : World} {b : Nat} {cs : List Value} {t : TypeId} (h : Blk w b cs t) : b < w.heap.size := (Array.getElem?_eq_some_iff.1 h).1
theorem Blk.on {w w' : World} {b : Nat} {cs : List Value} {t : TypeId} {row : Option Nat} (h : Blk w b cs t) (hg : w.grownBy w' row) (hr : row ≠ some b) : Blk w' b cs t := heap_at hg hr h
theorem Blk.keep {w w' : World} {b : Nat} {cs : List Value} {t : TypeId} (h : Blk w b cs t) (hg : w.grownBy w' none) : Blk w' b cs t := h.on hg (by simp)
theorem Blk.cell {w : World} {b : Nat} {cs : List Value} {t : TypeId} (h : Blk w b cs t) (i : Nat) : w.cell? ⟨b, i, none⟩ = cs[i]? := by
  rw [cell_of_row w b i cs.toArray t (0, 0) h]
  simp
theorem Blk.cellD {w : World} {b : Nat} {cs : List Value} {t : TypeId} (h : Blk w b cs t) (i : Nat) (hi : i < cs.length) : w.cell? ⟨b, i, none⟩ = some (cs.getD i undef) := by
  rw [h.cell i, List.getD_eq_getElem?_getD, List.getElem?_eq_getElem hi]
  rfl
theorem Blk.frozen {w : World} {b : Nat} {cs : List Value} {t : TypeId} (h : Blk w b cs t) (i : Nat) : w.frozen? ⟨b, i, none⟩ = false := frozen_of_row w b i cs.toArray t h
theorem Blk.range {w : World} {b : Nat} {cs : List Value} {t : TypeId} (h : Blk w b cs t) (A B C : List Value) (o : Nat) (e : cs = A ++ (B ++ C)) (ho : A.length = o) : w.rangeAt b o B := fun j v hv => by
  have hj : j < B.length := (List.getElem?_eq_some_iff.1 hv).1
  rw [h.cell, e, ← ho, List.getElem?_append_right (by omega), show A.length + j - A.length = j by omega, List.getElem?_append_left hj]
  exact hv
theorem Blk.whole {w : World} {b : Nat} {cs : List Value} {t : TypeId} (h : Blk w b cs t) : w.rangeAt b 0 cs := h.range [] cs [] 0 (by simp) rfl
theorem Blk.set {w : World} {b : Nat} {cs : List Value} {t : TypeId} (h : Blk w b cs t) (i : Nat) (v : Value) : Blk (w.setCell ⟨b, i, none⟩ v) b (cs.set i v) t := by
  unfold Blk
  rw [heap_setCell_same w b i cs.toArray t v h]
  simp
theorem Blk.new (w : World) (cs : List Value) (t : TypeId) : Blk (w.alloc (.cells cs.toArray t)) w.heap.size cs t := heap_new w _ _
theorem splice_mid (A B C B' : List Value) (o : Nat) (ho : A.length = o) (hB : B'.length = B.length) : splice (A ++ (B ++ C)) o B' = A ++ (B' ++ C) := by
  unfold splice
  rw [← ho, hB, List.take_left, ← List.drop_drop, List.drop_left, List.drop_left]
theorem Blk.agree {w : World} {b : Nat} {cs cs' : List Value} {t t' : TypeId} (h : Blk w b cs t) (h' : Blk w b cs' t') : cs = cs' ∧ t = t' := by
  unfold Blk at h h'
  rw [h] at h'
  injection h' with e
  injection e with e1 e2
  exact ⟨by simpa using e1, e2⟩
theorem grow_setRow (w : World) (b : Nat) (cs : Array Value) : w.grownBy (w.setRow b cs) (some b) :=
  ⟨rfl, rfl, rfl, by simp [World.setRow], fun k _ hk => setRow_other w b k cs (fun e => hk (by rw [e]))⟩

section
variable {P : Program} {ops : Array Oper} {rest : List Oper} {o : Oper} {a : Act} {w : World} {Q : Exit → Act → World → Prop} {K : Act → World → Prop}

theorem wp_alloc_row (t : TypeId) (ho : o.op = .alloc t) (z : List Value) (hz : (P.info? t).map (fun i => i.zero) = some (some (.agg z.toArray)))
    (h : ∀ w', Blk w' w.heap.size z t → w'.heap.size = w.heap.size + 1 → w.grownBy w' none → K (a.put o.dst (.pointer (some ⟨w.heap.size, 0, none⟩))) w') : o.wp P a w K Q := by
  cases hq : P.info? t with
  | none => simp [hq] at hz
  | some i =>
    have hs : i.zero = some (.agg z.toArray) := by simpa [hq] using hz
    unfold Oper.wp execOp
    simp [ho, Instr.alloc, zeroValue, typeInfo, hq, hs, newVar, newRow, Value.cells]
    exact h _ (Blk.new w z t) (by simp) (galloc _ _ _)
theorem wpList_alloc_row (hgd : o.guard = none) (t : TypeId) (ho : o.op = .alloc t) (z : List Value) (hz : (P.info? t).map (fun i => i.zero) = some (some (.agg z.toArray)))
    (h : ∀ w', Blk w' w.heap.size z t → w'.heap.size = w.heap.size + 1 → w.grownBy w' none → wpList P ops Q rest (a.put o.dst (.pointer (some ⟨w.heap.size, 0, none⟩))) w') : wpList P ops Q (o :: rest) a w :=
  wpList_plain hgd fun _ hK => wp_alloc_row t ho z hz (fun w' h1 h2 h3 => hK _ _ (h w' h1 h2 h3))
theorem wp_box_row (t : TypeId) (x : Operand) (ho : o.op = .box t x) (cs : List Value) (hx : a.eval x = .agg cs.toArray)
    (h : ∀ w', Blk w' w.heap.size cs t → w'.heap.size = w.heap.size + 1 → w.grownBy w' none → K (a.put o.dst (.pointer (some ⟨w.heap.size, 0, none⟩))) w') : o.wp P a w K Q := by
  unfold Oper.wp execOp
  simp [ho, hx, Instr.box, newVar, newRow, Value.cells]
  exact h _ (Blk.new w cs t) (by simp) (galloc _ _ _)
theorem wpList_box_row (hgd : o.guard = none) (t : TypeId) (x : Operand) (ho : o.op = .box t x) (cs : List Value) (hx : a.eval x = .agg cs.toArray)
    (h : ∀ w', Blk w' w.heap.size cs t → w'.heap.size = w.heap.size + 1 → w.grownBy w' none → wpList P ops Q rest (a.put o.dst (.pointer (some ⟨w.heap.size, 0, none⟩))) w') : wpList P ops Q (o :: rest) a w :=
  wpList_plain hgd fun _ hK => wp_box_row t x ho cs hx (fun w' h1 h2 h3 => hK _ _ (h w' h1 h2 h3))
theorem wpList_build_row (hgd : o.guard = none) (t : TypeId) (ho : o.op = .build t #[]) (z : List Value) (hz : P.built t [] = some z.toArray)
    (h : wpList P ops Q rest (a.put o.dst (.agg z.toArray)) w) : wpList P ops Q (o :: rest) a w := by
  have e0 : ((#[] : Array (Nat × Operand)).map fun (i, x) => (i, a.eval x)).toList = [] := by simp
  have e : P.built t ((#[] : Array (Nat × Operand)).map fun (i, x) => (i, a.eval x)).toList = some z.toArray := by rw [e0]; exact hz
  refine wpList_build hgd t #[] ho (by rw [e]; rfl) ?_
  rw [e]
  exact h
theorem run_store_part (ty : TypeId) (b off : Nat) (cs vs : List Value) (t : TypeId) (hb : Blk w b cs t) (hfit : off + vs.length ≤ cs.length) (hi : (P.info? ty).map (·.size) = some vs.length) (h1 : ∀ v ∈ vs, v.oneCell' = true) :
    (storeVar ty ⟨b, off, none⟩ (.agg vs.toArray)).run P w = .ok () (w.setRow b (splice cs off vs).toArray) := by
  have := run_storeCells_at P b off t vs 0 cs.toArray w hb (by simpa using hfit) h1
  cases hq : P.info? ty with
  | none => simp [hq] at hi
  | some i =>
    have hs : i.size = vs.length := by simpa [hq] using hi
    simp [storeVar, sizeOf, typeInfo, hq, Value.cells, hs, this, splice]
theorem wp_store_part (ty : TypeId) (x y : Operand) (ho : o.op = .store ty x y) (b off : Nat) (cs vs : List Value) (t : TypeId) (hx : a.eval x = .pointer (some ⟨b, off, none⟩)) (hy : a.eval y = .agg vs.toArray)
    (hb : Blk w b cs t) (hfit : off + vs.length ≤ cs.length) (hi : (P.info? ty).map (·.size) = some vs.length) (h1 : ∀ v ∈ vs, v.oneCell' = true)
    (h : ∀ w', Blk w' b (splice cs off vs) t → w.grownBy w' (some b) → w'.heap.size = w.heap.size → K (a.put o.dst undef) w') : o.wp P a w K Q := by
  unfold Oper.wp execOp
  simp only [ho, hx, hy, Instr.storeAt, Instr.sureAddr, Sem.run_bind, Sem.run_pure, Result.andThen_ok, run_store_part ty b off cs vs t hb hfit hi h1]
  exact h _ (setRow_heap w b _ _ t _ hb) (grow_setRow _ _ _) (by simp)
theorem wpList_store_part (hgd : o.guard = none) (ty : TypeId) (x y : Operand) (ho : o.op = .store ty x y) (b off : Nat) (cs vs : List Value) (t : TypeId) (hx : a.eval x = .pointer (some ⟨b, off, none⟩)) (hy : a.eval y = .agg vs.toArray)
    (hb : Blk w b cs t) (hfit : off + vs.length ≤ cs.length) (hi : (P.info? ty).map (·.size) = some vs.length) (h1 : ∀ v ∈ vs, v.oneCell' = true)
    (h : ∀ w', Blk w' b (splice cs off vs) t → w.grownBy w' (some b) → w'.heap.size = w.heap.size → wpList P ops Q rest (a.put o.dst undef) w') : wpList P ops Q (o :: rest) a w :=
  wpList_plain hgd fun _ hK => wp_store_part ty x y ho b off cs vs t hx hy hb hfit hi h1 (fun w' h1 h2 h3 => hK _ _ (h w' h1 h2 h3))
/-- the same in a region that draws its order. -/
theorem step_store_part {E : Prop} (hgd : o.guard = none) (ty : TypeId) (x y : Operand) (ho : o.op = .store ty x y) (b off : Nat) (cs vs : List Value) (t : TypeId) (hx : a.eval x = .pointer (some ⟨b, off, none⟩)) (hy : a.eval y = .agg vs.toArray)
    (hb : Blk w b cs t) (hfit : off + vs.length ≤ cs.length) (hi : (P.info? ty).map (·.size) = some vs.length) (h1 : ∀ v ∈ vs, v.oneCell' = true)
    (h : ∀ w', Blk w' b (splice cs off vs) t → w.grownBy w' (some b) → w'.heap.size = w.heap.size → K (a.put o.dst undef) w') : if Region.wanted o (yielded ops a.tmps) = true then Oper.wp P o a w K Q else E := by
  have hw : Region.wanted o (yielded ops a.tmps) = true := by simp [Region.wanted, hgd]
  rw [if_pos hw]
  exact wp_store_part ty x y ho b off cs vs t hx hy hb hfit hi h1 h
/-- a whole row. -/
theorem wpList_store_all (hgd : o.guard = none) (ty : TypeId) (x y : Operand) (ho : o.op = .store ty x y) (b : Nat) (cs vs : List Value) (t : TypeId) (hx : a.eval x = .pointer (some ⟨b, 0, none⟩)) (hy : a.eval y = .agg vs.toArray)
    (hb : Blk w b cs t) (hfit : vs.length = cs.length) (hi : (P.info? ty).map (·.size) = some vs.length) (h1 : ∀ v ∈ vs, v.oneCell' = true)
    (h : ∀ w', Blk w' b vs t → w.grownBy w' (some b) → w'.heap.size = w.heap.size → wpList P ops Q rest (a.put o.dst undef) w') : wpList P ops Q (o :: rest) a w := by
  refine wpList_store_part hgd ty x y ho b 0 cs vs t hx hy hb (by omega) hi h1 (fun w' h1 h2 h3 => h w' ?_ h2 h3)
  have e : splice cs 0 vs = vs := by unfold splice; rw [List.take_zero, List.nil_append, Nat.zero_add, hfit, List.drop_length, List.append_nil]
  rw [e] at h1
  exact h1
theorem wpList_load_part (hgd : o.guard = none) (ty : TypeId) (x : Operand) (ho : o.op = .load ty x) (b off : Nat) (vs : List Value) (d : TypeDesc) (hx : a.eval x = .pointer (some ⟨b, off, none⟩)) (hc : w.rangeAt b off vs)
    (hu : P.underlying ty = some d) (hd : d.isRow = true) (hi : (P.info? ty).map (·.size) = some vs.length)
    (h : wpList P ops Q rest (a.put o.dst (.agg vs.toArray)) w) : wpList P ops Q (o :: rest) a w :=
  wpList_load_mid hgd ty x ho b off hx vs d hc hu hd hi h
/-- a result that lies in a row. -/
theorem results_blk {fn : Func} {p : Tmp} {ty : TypeId} (h : fn.results = #[.cell p ty]) (tmps : Array Value) (b : Nat) (t : TypeId) (cs : List Value) (d : TypeDesc)
    (hp : tmps.getD p undef = .pointer (some ⟨b, 0, none⟩)) (hb : Blk w b cs t) (hu : P.underlying ty = some d) (hd : d.isRow = true) (hi : (P.info? ty).map (·.size) = some cs.length) :
    (results fn tmps).run P w = .ok (.agg cs.toArray) w :=
  results_cell_row h tmps w b t cs.toArray (0, 0) d hp hb hu (by cases d <;> first | rfl | (simp [TypeDesc.isRow] at hd)) (by simpa using hi)
end


/-- A slice of bytes that reads as l, in a block of F. -/
def Rd (w : World) (F : Nat → Prop) (v : Value) (l : List UInt8) : Prop :=
  ∃ (a : Option Addr) (b off c : Nat), v = .slice a l.length c ∧ l.length ≤ c ∧ (a = none → c = 0) ∧ (0 < l.length → a = some ⟨b, off, none⟩ ∧ b < w.heap.size ∧ F b) ∧ ∀ i (h : i < l.length), w.cell? ⟨b, off + i, none⟩ = some (.int .u8 l[i].toNat)
theorem Rd.on {w w' : World} {F : Nat → Prop} {v : Value} {l : List UInt8} {row : Option Nat} (h : Rd w F v l) (hg : w.grownBy w' row) (hr : ∀ k, row = some k → ¬ F k) : Rd w' F v l := by
  obtain ⟨a, b, off, c, hv, hc, hn, ha, hcell⟩ := h
  refine ⟨a, b, off, c, hv, hc, hn, fun hl => ⟨(ha hl).1, Nat.lt_of_lt_of_le (ha hl).2.1 hg.size, (ha hl).2.2⟩, fun i hi => ?_⟩
  rw [cell_at hg (ha (by omega)).2.1 (fun e => hr _ e (ha (by omega)).2.2)]
  exact hcell i hi
theorem Rd.keep {w w' : World} {F : Nat → Prop} {v : Value} {l : List UInt8} (h : Rd w F v l) (hg : w.grownBy w' none) : Rd w' F v l := h.on hg (fun k hk => by cases hk)
theorem Rd.mono {w : World} {F G : Nat → Prop} {v : Value} {l : List UInt8} (h : Rd w F v l) (hf : ∀ k, k < w.heap.size → F k → G k) : Rd w G v l := by
  obtain ⟨a, b, off, c, hv, hc, hn, ha, hcell⟩ := h
  exact ⟨a, b, off, c, hv, hc, hn, fun hl => ⟨(ha hl).1, (ha hl).2.1, hf _ (ha hl).2.1 (ha hl).2.2⟩, hcell⟩
theorem Rd.nil (w : World) (F : Nat → Prop) : Rd w F (.slice none 0 0) [] :=
  ⟨none, 0, 0, 0, rfl, Nat.le_refl _, fun _ => rfl, fun h => by simp at h, fun i h => by simp at h⟩

theorem Tryz.info5 : (Tryz.prog.info? 5).map (fun i => (i.zero, i.size, i.bytes)) = some (some (.int .u8 0), 1, 1) := by kernel_rfl
/-- Bytes that the call owns, from block B on. -/
def Out (B : Nat) (w : World) (v : Value) (acc : List UInt8) : Prop := w.ownsRow B 5 1 v acc.length (Lib.byteCells acc)
theorem Out.on {B : Nat} {w w' : World} {v : Value} {acc : List UInt8} {row : Option Nat} (h : Out B w v acc) (hg : w.grownBy w' row) (hr : ∀ k, row = some k → v.ownBlock ≠ some k) : Out B w' v acc := by
  refine World.ownsRow.kept h hg ?_
  cases hv : v.ownBlock with
  | none => exact .inl rfl
  | some g => exact .inr (fun e => hr g e.symm hv)
theorem Out.keep {B : Nat} {w w' : World} {v : Value} {acc : List UInt8} (h : Out B w v acc) (hg : w.grownBy w' none) : Out B w' v acc := h.on hg (fun k hk => by cases hk)
theorem Out.block {B : Nat} {w : World} {v : Value} {l : List UInt8} (h : Out B w v l) : ∀ j, v.ownBlock = some j → B ≤ j := by
  intro j hj
  rcases h.2 with ⟨rfl, _⟩ | ⟨g, cap, cur, rfl, hb, _⟩
  · simp [Value.ownBlock] at hj
  · simp [Value.ownBlock] at hj
    omega
theorem Out.below {B C : Nat} {w : World} {v : Value} {l : List UInt8} (h : Out B w v l) (hC : C ≤ B) : Out C w v l := by
  refine ⟨h.1, ?_⟩
  rcases h.2 with h0 | ⟨g, cap, cur, e, hb, r⟩
  · exact .inl h0
  · exact .inr ⟨g, cap, cur, e, by omega, r⟩
theorem Out.rd {B : Nat} {w : World} {v : Value} {l : List UInt8} (h : Out B w v l) : Rd w (fun g => B ≤ g) v l := by
  rcases h.2 with ⟨rfl, h0⟩ | ⟨g, cap, cur, rfl, hb, hg, hle, hm, hs, ht⟩
  · have : l = [] := List.eq_nil_of_length_eq_zero h0
    subst this
    exact Rd.nil _ _
  · refine ⟨some ⟨g, 0, none⟩, g, 0, cap, rfl, hle, (fun h => by cases h), fun _ => ⟨rfl, (h.lt g rfl).2, hb⟩, fun i hi => ?_⟩
    have := h.cells (g := g) rfl i (.int .u8 l[i].toNat) (by simp [Lib.byteCells, List.getElem?_eq_getElem hi])
    rw [Addr.add_lit] at this
    exact this
theorem Out.more {B : Nat} {w : World} {v : Value} {acc bs : List UInt8} {n : Nat} {xs : List Value} (h : w.ownsRow B 5 1 v n xs) (hn : n = acc.length + bs.length) (hx : xs = Lib.byteCells acc ++ Lib.byteCells bs) : Out B w v (acc ++ bs) := by
  unfold Out
  rw [byteCells_append, List.length_append, ← hn, ← hx]
  exact h
theorem Out.nil (B : Nat) (w : World) : Out B w (.slice none 0 0) [] := World.ownsRow_nil _ _ _ _

set_option maxRecDepth 100000 in
/-- append of bytes that can be read onto a row of the call's own. -/
theorem wpList_append_rd {w : World} {ops : Array Oper} {rest : List Oper} {o : Oper} {a : Act} {Q : Exit → Act → World → Prop} (hgd : o.guard = none) (s x : Operand)
    (ho : o.op = .call { callee := .builtin .append, args := #[s, x], argTypes := #[74, 74] })
    (B : Nat) (F : Nat → Prop) (acc l : List UInt8) (hown : Out B w (a.eval s) acc) (hx : Rd w F (a.eval x) l) (hn : acc.length + l.length ≤ 140737488355328) (hB : B ≤ w.heap.size)
    (h : ∀ v' w', Out B w' v' (acc ++ l) → w.grownBy w' (a.eval s).ownBlock → (a.eval s ≠ .slice none 0 0 → v' ≠ .slice none 0 0) → wpList Tryz.prog ops Q rest (a.put o.dst v') w') : wpList Tryz.prog ops Q (o :: rest) a w := by
  obtain ⟨inf, hi, hz0, hz1, hz2⟩ := info_parts Tryz.info5
  obtain ⟨p, b, off, c, e, hc, hnn, ha, hcell⟩ := hx
  cases p with
  | none =>
    have c0 := hnn rfl
    have hl : l = [] := List.eq_nil_of_length_eq_zero (by omega)
    subst hl
    subst c0
    refine wpList_append_own_none hgd s x 74 ho B 5 inf 1 Tryz.underlying74 hi _ _ _ rfl hown e ?_
    exact h _ w (by rw [List.append_nil]; exact hown) (World.grownBy.refl _ _) (fun h => h)
  | some q =>
    refine wpList_append_own w hgd s x 74 ho B 5 inf (.int .u8 0) 1 1 Tryz.underlying74 hi hz0 hz1 hz2 rfl (by decide) _ _ _ rfl hown q l.length c (Lib.byteCells l) e (by simp [Lib.byteCells]) ?_ ?_ (by unfold maxLen; omega) (by omega) hB ?_
    · intro j u hu
      have hj : j < l.length := by have := (List.getElem?_eq_some_iff.1 hu).1; simpa [Lib.byteCells] using this
      have hq := (ha (by omega)).1
      injection hq with hq
      rw [hq, Addr.add_lit, hcell j hj, ← hu]
      simp [Lib.byteCells, List.getElem?_eq_getElem hj]
    · intro u hu
      unfold Lib.byteCells at hu
      obtain ⟨_, _, rfl⟩ := List.mem_map.1 hu
      rfl
    · intro v' w' h1 h2 h3
      exact h v' w' (Out.more h1 rfl rfl) h2 (fun hv e => hv (h3.1 e).1)
set_option maxRecDepth 100000 in
/-- append of one byte. -/
theorem wpList_append_byte {w : World} {ops : Array Oper} {rest : List Oper} {o : Oper} {a : Act} {Q : Exit → Act → World → Prop} (hgd : o.guard = none) (s x : Operand)
    (ho : o.op = .call { callee := .builtin .append, args := #[s, x], argTypes := #[74, 74] })
    (B L : Nat) (acc : List UInt8) (c : UInt8) (hown : Out B w (a.eval s) acc) (hx : a.eval x = .slice (some ⟨L, 0, none⟩) 1 1) (hL : w.heap[L]? = some (.cells #[.int .u8 c.toNat] 5 (0, 0))) (hn : acc.length + 1 ≤ 140737488355328) (hB : B ≤ w.heap.size)
    (h : ∀ v' w', Out B w' v' (acc ++ [c]) → w.grownBy w' (a.eval s).ownBlock → wpList Tryz.prog ops Q rest (a.put o.dst v') w') : wpList Tryz.prog ops Q (o :: rest) a w := by
  refine wpList_append_rd hgd s x ho B (fun _ => True) acc [c] hown ?_ hn hB (fun v' w' h1 h2 _ => h v' w' h1 h2)
  rw [hx]
  refine ⟨some ⟨L, 0, none⟩, L, 0, 1, rfl, Nat.le_refl _, (fun h => by cases h), fun _ => ⟨rfl, (Array.getElem?_eq_some_iff.1 hL).1, trivial⟩, fun i hi => ?_⟩
  have : i = 0 := by simp at hi; exact hi
  subst this
  simp [World.cell?, hL]
theorem litL (w : World) (c : Value) : (w.alloc (.cells #[c] 5)).heap[w.heap.size]? = some (.cells #[c] 5 (0, 0)) := heap_new w _ _
end Go.Proofs.YtpbiofnncdneoaaGreatDoor

namespace Go.Proofs.YtpbiofnncdneoaaGreatDoor
open Go Go.RowKit

section
variable {P : Program} {ops : Array Oper} {md : Region.Mode} {C : World → Prop} {n : Nat}

def below (md : Region.Mode) (ops : Array Oper) : Nat → Nat → Nat → Bool
  | 0, _, _ => false
  | f + 1, i, j =>
    match ops[i]? with
    | none => false
    | some o => o.after.any fun e => Region.binds md e && (e.on == j || below md ops f e.on j)
def lastB (md : Region.Mode) (ops : Array Oper) (n : Nat) : Bool := (List.range ops.size).all fun j => j == n || below md ops 3 n j
/-- what waits for something has it behind it. -/
def Closed (md : Region.Mode) (ops : Array Oper) (listed : Array Bool) : Prop :=
  ∀ i o, listed.getD i false = true → ops[i]? = some o → ∀ e ∈ o.after, Region.binds md e = true → listed.getD e.on false = true
theorem closed_set {listed : Array Bool} (h : Closed md ops listed) {i : Nat} (hi : i ∈ Region.ready md ops listed) : Closed md ops (listed.setIfInBounds i true) := by
  intro k o hk ho e he hb
  refine getD_set_true ?_
  by_cases e' : k = i
  · subst e'
    obtain ⟨_, o', ho', hall⟩ := mem_ready.1 hi
    rw [ho] at ho'
    injection ho' with ho'
    subst ho'
    exact hall e he hb
  · rw [getD_set_ne false (fun x => e' x.symm)] at hk
    exact h k o hk ho e he hb
theorem closed_none (k : Nat) : Closed md ops (Array.replicate k false) := by
  intro i o hi
  rw [Array.getD_eq_getD_getElem?, Array.getElem?_replicate] at hi
  split at hi <;> cases hi
theorem below_listed {listed : Array Bool} (hc : Closed md ops listed) : ∀ (f i j : Nat), (∀ o, ops[i]? = some o → ∀ e ∈ o.after, Region.binds md e = true → listed.getD e.on false = true) → below md ops f i j = true → listed.getD j false = true
  | 0, _, _, _, h => by cases h
  | f + 1, i, j, ha, h => by
    unfold below at h
    cases ho : ops[i]? with
    | none => rw [ho] at h; cases h
    | some o =>
      simp only [ho] at h
      obtain ⟨e, he, hb⟩ := Array.any_eq_true'.1 h
      obtain ⟨hb1, hb2⟩ := Bool.and_eq_true _ _ ▸ hb
      have hl := ha o ho e he hb1
      rcases Bool.or_eq_true _ _ ▸ hb2 with h2 | h2
      · have : e.on = j := by simpa using h2
        rwa [this] at hl
      · exact below_listed hc f e.on j (fun o' ho' => hc e.on o' hl ho') h2
/-- when it may come up, all others have. -/
theorem last_ready (hL : lastB md ops n = true) {listed : Array Bool} (hc : Closed md ops listed) (h : n ∈ Region.ready md ops listed) (j : Nat) (hj : j < ops.size) (hne : j ≠ n) : listed.getD j false = true := by
  obtain ⟨_, o, ho, hall⟩ := mem_ready.1 h
  have := List.all_eq_true.1 hL j (List.mem_range.2 hj)
  rcases Bool.or_eq_true _ _ ▸ this with h1 | h1
  · exact absurd (by simpa using h1) hne
  · refine below_listed hc 3 n j (fun o' ho' => ?_) h1
    rw [ho] at ho'
    injection ho' with ho'
    subst ho'
    exact hall
theorem getD_two {l : Array Bool} {j : Nat} (h1 : l.getD j false = true) (h2 : l.getD j true = false) : False := by
  rcases Nat.lt_or_ge j l.size with h | h
  · simp [h] at h1 h2
    rw [h1] at h2
    cases h2
  · simp [Array.getElem?_eq_none h] at h1
theorem last_done (hL : lastB md ops n = true) {listed : Array Bool} (hc : Closed md ops listed) (h : n ∈ Region.ready md ops listed) : Region.ready md ops (listed.setIfInBounds n true) = [] := by
  apply List.eq_nil_iff_forall_not_mem.2
  intro j hj
  obtain ⟨hun, o, ho, _⟩ := mem_ready.1 hj
  have hjs : j < ops.size := (Array.getElem?_eq_some_iff.1 ho).1
  by_cases e : j = n
  · subst e
    have := (mem_ready.1 h).1
    rcases Nat.lt_or_ge j listed.size with h' | h'
    · rw [Array.getD_eq_getD_getElem?, Array.getElem?_setIfInBounds_self_of_lt h'] at hun
      cases hun
    · rw [Array.getD_eq_getD_getElem?, Array.getElem?_eq_none h'] at this
      cases this
  · have h1 := last_ready hL hc h j hjs e
    rw [getD_set_ne true (fun e' => e e'.symm)] at hun
    exact getD_two h1 hun
/-- Whatever order is picked: all but the last are quiet. -/
def wpAnyL (P : Program) (md : Region.Mode) (ops : Array Oper) (C : World → Prop) (n : Nat) (Q : Act → Prop) : Nat → Array Bool → Act → Prop
  | 0, _, _ => False
  | fuel + 1, listed, a => Region.ready md ops listed ≠ [] ∧ ∀ i ∈ Region.ready md ops listed, (i = n → Q a) ∧ (i ≠ n → qOp P ops C i (wpAnyL P md ops C n Q fuel (listed.setIfInBounds i true)) a)
theorem wpAny_of_L (hL : lastB md ops n = true) {Q : Act → Prop} {Q' : Exit → Act → World → Prop} (hQ : ∀ a w, C w → Q a → wpOp P ops Q' n (fun a' w' => Q' .normal a' w') a w) :
    ∀ (fuel : Nat) (listed : Array Bool) (a : Act) (w : World), Closed md ops listed → C w → wpAnyL P md ops C n Q fuel listed a → wpAny P md ops Q' fuel listed a w
  | 0, _, _, _, _, _, h => h.elim
  | fuel + 1, listed, a, w, hc, hw, h => ⟨fun h0 => absurd h0 h.1, fun i hi => by
      by_cases e : i = n
      · subst e
        have hd := last_done hL hc hi
        refine wpOp_mono (fun a' w' hq => ?_) (hQ a w hw ((h.2 i hi).1 rfl))
        cases fuel with
        | zero => exact ⟨hd, hq⟩
        | succ f => exact ⟨fun _ => hq, fun j hj => by rw [hd] at hj; cases hj⟩
      · exact wpOp_of_qOp hw (fun a' w' hw' => wpAny_of_L hL hQ fuel _ a' w' (closed_set hc hi) hw') ((h.2 i hi).2 e)⟩
/-- a quiet one that may come up may be taken first. -/
theorem wpAnyL_first (hL : lastB md ops n = true) {Q : Act → Prop} {i : Nat} {oi : Oper} {v : Value} (hi : ops[i]? = some oi) (hin : i ≠ n) (hsel : ∀ (j : Nat) (o : Oper) cs b, ops[j]? = some o → o.op ≠ .select cs b) :
    ∀ (fuel : Nat) (listed : Array Bool) (a : Act), Closed md ops listed →
      (∀ j oj, ops[j]? = some oj → j ≠ i → listed.getD j true = false → (∀ e ∈ oj.after, Region.binds md e = true → e.on ≠ i) → oi.apart ops oj = true) →
      i ∈ Region.ready md ops listed → YieldsIn P ops C oi v a → wpAnyL P md ops C n Q fuel (listed.setIfInBounds i true) (a.put oi.dst v) → wpAnyL P md ops C n Q (fuel + 1) listed a
  | 0, _, _, _, _, _, _, H => H.elim
  | fuel + 1, listed, a, hc, hfree, hr, hy, H => ⟨List.ne_nil_of_mem hr, fun j hj => by
      have hiu := (mem_ready.1 hr).1
      have his : i < ops.size := (Array.getElem?_eq_some_iff.1 hi).1
      refine ⟨fun e => ?_, fun hjn => ?_⟩
      · subst e
        exact (getD_two (last_ready hL hc hj i his hin) hiu).elim
      · by_cases hji : j = i
        · subst hji
          exact hy.qOp hi H
        · obtain ⟨hjun, oj, hoj, hall⟩ := mem_ready.1 hj
          have hno : ∀ e ∈ oj.after, Region.binds md e = true → e.on ≠ i := fun e he hb hon => by
            have := hall e he hb
            rw [hon] at this
            exact getD_two this hiu
          have h1 := (H.2 j (ready_mono hj hji)).2 hjn
          refine qOp_mono (fun a' h3 => ?_) (qOp_put hoj (hfree j oj hoj hji hjun hno) (fun cs b => hsel i oi cs b hi) (fun cs b => hsel j oj cs b hoj) hy h1)
          refine wpAnyL_first hL hi hin hsel fuel (listed.setIfInBounds j true) a' (closed_set hc hj) (fun k ok hk hki hun hno' => ?_) (ready_mono hr (fun e => hji e.symm)) h3.1 ?_
          · refine hfree k ok hk hki ?_ hno'
            by_cases hjk : j = k
            · subst hjk; exact hjun
            · rwa [getD_set_ne true hjk] at hun
          · rw [Array.setIfInBounds_comm _ _ hji]
            exact h3.2⟩
theorem wpAnyL_lex (hL : lastB md ops n = true) {Q : Act → Prop} (hs : Region.noSelect ops = true) : ∀ (l : List Oper) (k : Nat) (listed : Array Bool) (a : Act), Closed md ops listed → (∀ j, j < l.length → l[j]? = ops[k + j]?) → k + l.length = n →
    Region.lexFrom md ops (l.length + 1) k listed = true → wpQuiet P ops C Q l a → wpAnyL P md ops C n Q (l.length + 1) listed a
  | [], k, listed, a, hc, _, hk, hB, h => by
    have hk' : k = n := by simpa using hk
    subst hk'
    simp only [List.length_nil, Region.lexFrom, Bool.and_eq_true] at hB
    obtain ⟨⟨hr, _⟩, he⟩ := hB
    have hr' : k ∈ Region.ready md ops listed := by simpa using hr
    refine ⟨List.ne_nil_of_mem hr', fun i hi => ⟨fun _ => h, fun hne => ?_⟩⟩
    have := ready_mono hi hne
    rw [last_done hL hc hr'] at this
    cases this
  | o :: l, k, listed, a, hc, hl, hk, hB, h => by
    have h0 : ops[k]? = some o := by simpa using (hl 0 (by simp)).symm
    rw [List.length_cons, Region.lexFrom] at hB
    simp only [Bool.and_eq_true] at hB
    obtain ⟨⟨hr, hf⟩, hB'⟩ := hB
    have hst : qOp P ops C k (wpQuiet P ops C Q l) a := by unfold qOp; simp only [h0]; exact h
    obtain ⟨v, hy, hK⟩ := yieldsIn_of_qOp h0 hst
    have hkn : k ≠ n := by simp at hk; omega
    refine wpAnyL_first hL h0 hkn (Region.noSelect_spec hs) (l.length + 1) listed a hc (Region.free_spec h0 hf) (by simpa using hr) hy ?_
    exact wpAnyL_lex hL hs l (k + 1) _ _ (closed_set hc (by simpa using hr)) (fun j hj => by have := hl (j + 1) (by simp; omega); simpa [Nat.add_assoc, Nat.add_comm 1 j] using this) (by simp at hk; omega) hB' hK
/-- THE LAW. -/
theorem wp_region_last {id : Nat} {Q : Exit → Act → World → Prop} {a : Act} {w : World} {o : Oper} (hm : P.follows .mixedOrders = true) (hB : Region.lexB .any ops = true) (n : Nat) (hn : ops.size = n + 1) (hL : lastB .any ops n = true) (ho : ops[n]? = some o) (hgd : o.guard = none) (C : World → Prop) (hC : C w.drew)
    (l : List Oper) (hl : ops.toList.dropLast = l) (h : wpQuiet P ops C (fun a' => ∀ w', C w' → o.wp P a' w' (fun a'' w'' => Q .normal a'' w'') Q) l a) : (Code.region id ops true).wp P Q a w := by
  simp only [Region.lexB, Bool.and_eq_true] at hB
  subst hl
  have hlen : (ops.toList.dropLast).length = n := by simp; omega
  refine wp_region_any hm (wpAny_of_L (C := C) (Q := fun a' => ∀ w', C w' → o.wp P a' w' (fun a'' w'' => Q .normal a'' w'') Q) hL (fun a' w' hw' hq => ?_) _ _ _ _ (closed_none _) hC ?_)
  · unfold wpOp
    simp only [ho]
    rw [if_pos (by simp [Region.wanted, hgd])]
    exact .inl (hq w' hw')
  · have := wpAnyL_lex (P := P) (C := C) (md := .any) hL hB.1 ops.toList.dropLast 0 (Array.replicate ops.size false) a (closed_none _) (fun j hj => by
      rw [hlen] at hj
      rw [Nat.zero_add, List.getElem?_dropLast, if_pos (by simp; omega), Array.getElem?_toList]) (by omega) (by rw [hlen, ← hn]; exact hB.2) h
    rw [hlen, ← hn] at this
    exact this
/-- the same, the frame under a letter. -/
theorem wp_region_lastA {id : Nat} {Q : Exit → Act → World → Prop} {a : Act} {w : World} {o : Oper} (hm : P.follows .mixedOrders = true) (hB : Region.lexB .any ops = true) (n : Nat) (hn : ops.size = n + 1) (hL : lastB .any ops n = true) (ho : ops[n]? = some o) (hgd : o.guard = none) (C : World → Prop) (hC : C w.drew)
    (l : List Oper) (hl : ops.toList.dropLast = l) (h : ∀ A : Act, A = a → wpQuiet P ops C (fun a' => ∀ w', C w' → o.wp P a' w' (fun a'' w'' => Q .normal a'' w'') Q) l A) : (Code.region id ops true).wp P Q a w :=
  wp_region_last hm hB n hn hL ho hgd C hC l hl (h a rfl)
theorem ev_same (a : Act) (d : Tmp) (v : Value) (h : d < a.tmps.size) : (a.put (some d) v).eval (.tmp d) = v := by
  simp [Act.put, Act.eval, h]
theorem ev_ne (a : Act) (d e : Tmp) (v : Value) (h : d ≠ e) : (a.put (some d) v).eval (.tmp e) = a.eval (.tmp e) := by
  simp [Act.put, Act.eval, h]
theorem ev_size (a : Act) (d : Tmp) (v : Value) : (a.put (some d) v).tmps.size = a.tmps.size := by
  simp [Act.put]
/-- one quiet operation. -/
theorem wpQuiet_one {Q : Act → Prop} {o : Oper} {rest : List Oper} {a : Act} (hgd : o.guard = none) (v : Value) (hv : ∀ u, C u → o.quietAt P a C u v) (h : wpQuiet P ops C Q rest (a.put o.dst v)) : wpQuiet P ops C Q (o :: rest) a := by
  unfold wpQuiet
  rw [if_pos (by simp [Region.wanted, hgd])]
  exact ⟨v, hv, h⟩
theorem quietAt_load {o : Oper} {a : Act} {u : World} (ty : TypeId) (x : Operand) (ho : o.op = .load ty x) (b off : Nat) (vs : List Value) (d : TypeDesc) (hx : a.eval x = .pointer (some ⟨b, off, none⟩)) (hc : u.rangeAt b off vs)
    (hu : P.underlying ty = some d) (hd : d.isRow = true) (hi : (P.info? ty).map (·.size) = some vs.length) : o.quietAt P a C u (.agg vs.toArray) := by
  unfold Oper.quietAt execOp
  simp only [ho, hx, Instr.loadAt, Instr.sureAddr, Sem.run_bind, Sem.run_pure, Result.andThen_ok, run_loadVar_mid u b off ty vs d hc hu hd hi]
  exact ⟨rfl, rfl⟩
theorem quietAt_move {o : Oper} {a : Act} {u : World} (x : Operand) (ho : o.op = .move x) : o.quietAt P a C u (a.eval x) := by
  unfold Oper.quietAt execOp
  simp only [ho]
  exact ⟨rfl, rfl⟩
theorem quietAt_mv {o : Oper} {a : Act} {u : World} (x : Operand) (v : Value) (ho : o.op = .move x) (hx : a.eval x = v) : o.quietAt P a C u v := by
  rw [← hx]
  exact quietAt_move x ho
theorem lt_put {a : Act} {d : Option Tmp} {v : Value} {k : Nat} (h : k < a.tmps.size) : k < (a.put d v).tmps.size := by
  cases d with
  | none => exact h
  | some d => rw [ev_size]; exact h
theorem map2 (f : Operand → Value) (x y : Operand) (u v : Value) (hx : f x = u) (hy : f y = v) : #[x, y].map f = #[u, v] := by simp [hx, hy]
theorem quietAt_nil {o : Oper} {a : Act} {u : World} (x : Operand) (ho : o.op = .nilCheck x) (p : Addr) (hx : a.eval x = .pointer (some p)) : o.quietAt P a C u (.pointer (some p)) := by
  unfold Oper.quietAt execOp
  simp only [ho, hx]
  exact ⟨rfl, rfl⟩
theorem quietAt_call {o : Oper} {a : Act} {u : World} (f : FuncId) (fn : Func) (hf : P.funcs[f]? = some fn) (hname : (fn.name == "runtime.NumGoroutine") = false) (hbody : fn.body.isNone = false) (xs : Array Operand) (ts : Array TypeId) (ho : o.op = .call { callee := .value (.func f), args := xs, argTypes := ts }) (v : Value) (args : Array Value) (hargs : xs.map a.eval = args) (hc : Calls P f args u fun e w' => e = .returned v ∧ C w') : o.quietAt P a C u v := by
  have hr : (callFunc f args).run P u = .ok (.enter f args) u := by
    have hpr : (program).run P u = .ok P u := rfl
    unfold callFunc
    rw [Sem.run_bind, hpr]
    simp only [Result.andThen_ok, hf, hname, hbody]
    rfl
  unfold Oper.quietAt execOp
  simp [ho, resolve, Deferred.ofValue, Act.eval, invoke]
  rw [hargs, hr]
  exact ⟨rfl, hc⟩
theorem quietAt_field {o : Oper} {a : Act} {u : World} (t : TypeId) (x : Operand) (i : Nat) (ho : o.op = .fieldAddr t x i) (p q : Addr) (hx : a.eval x = .pointer (some p)) (hr : (Instr.fieldAt t (.pointer (some p)) i).run P u = .ok (.pointer (some q)) u) : o.quietAt P a C u (.pointer (some q)) := by
  unfold Oper.quietAt execOp
  simp only [ho, hx, Sem.run_bind, hr, Result.andThen_ok]
  exact ⟨rfl, rfl⟩
theorem quietAt_arr {o : Oper} {a : Act} {u : World} (t : TypeId) (x : Operand) (ho : o.op = .sliceToArrayPointer t x) (p : Option Addr) (len c n : Nat) (e : TypeId) (hx : a.eval x = .slice p len c) (hu : P.underlying t = some (.array n e)) (hl : n ≤ len) : o.quietAt P a C u (.pointer p) := by
  unfold Oper.quietAt execOp
  simp only [ho, hx, Instr.arrayAt, Sem.run_bind, run_underlying hu, Result.andThen_ok]
  rw [if_neg (by omega)]
  exact ⟨rfl, rfl⟩
theorem yield_at {a : Act} {j : Nat} {d : Tmp} {b : Bool} (hd : ((ops[j]?).bind (·.dst)) = some d) (hb : a.eval (.tmp d) = .bool b) : yielded ops a.tmps j = some b := by
  unfold yielded
  rw [hd]
  simp only [Act.eval, Array.getD_eq_getD_getElem?] at hb
  cases h : a.tmps[d]? with
  | none => rw [h] at hb; cases hb
  | some v => rw [h] at hb; simp at hb; simp [h, hb]
/-- a guarded one that is wanted. -/
theorem wpQuiet_want' {Q : Act → Prop} {o : Oper} {rest : List Oper} {a : Act} (j : Nat) (b : Bool) (d : Tmp) (hgd : o.guard = some (j, b)) (hd : ((ops[j]?).bind (·.dst)) = some d) (hb : a.eval (.tmp d) = .bool b) (v : Value) (hv : ∀ u, C u → o.quietAt P a C u v) (h : wpQuiet P ops C Q rest (a.put o.dst v)) : wpQuiet P ops C Q (o :: rest) a := by
  unfold wpQuiet
  rw [if_pos (by simp [Region.wanted, hgd, yield_at hd hb])]
  exact ⟨v, hv, h⟩
/-- one that is passed over. -/
theorem wpQuiet_pass {Q : Act → Prop} {o : Oper} {rest : List Oper} {a : Act} (j : Nat) (b c : Bool) (d : Tmp) (hgd : o.guard = some (j, b)) (hd : ((ops[j]?).bind (·.dst)) = some d) (hb : a.eval (.tmp d) = .bool c) (hbc : c ≠ b) (h : wpQuiet P ops C Q rest (a.put o.dst undef)) : wpQuiet P ops C Q (o :: rest) a := by
  unfold wpQuiet
  rw [if_neg (by simp [Region.wanted, hgd, yield_at hd hb, hbc])]
  exact h
theorem quietAt_as {o : Oper} {a : Act} {u : World} (x : Operand) (v : Value) (ho : o.op = .assign x) (hx : a.eval x = v) : o.quietAt P a C u v := by
  subst hx
  unfold Oper.quietAt execOp
  simp only [ho]
  exact ⟨rfl, rfl⟩
theorem quietAt_pick {o : Oper} {a : Act} {u : World} (c x y : Operand) (b : Bool) (v : Value) (ho : o.op = .pick c x y) (hc : a.eval c = .bool b) (hv : (if b then a.eval x else a.eval y) = v) : o.quietAt P a C u v := by
  unfold Oper.quietAt execOp
  have h1 : (asBool (.bool b)).run P u = .ok b u := rfl
  simp only [ho, hc, Sem.run_bind, h1, Result.andThen_ok]
  exact ⟨rfl, hv⟩
theorem quietAt_bin {o : Oper} {a : Act} {u : World} (op : BinOp) (t : TypeId) (x y : Operand) (ty : TypeId) (vx vy v : Value) (ho : o.op = .binOp op t x y ty) (hx : a.eval x = vx) (hy : a.eval y = vy) (hr : (do eqGuard op t x y vx vy; binOp op t vx vy : Sem Value).run P u = .ok v u) : o.quietAt P a C u v := by
  subst hx hy
  unfold Oper.quietAt execOp
  simp only [ho]
  rw [Sem.run_bind, hr]
  exact ⟨rfl, rfl⟩
theorem quietAt_idx {o : Oper} {a : Act} {u : World} (t : TypeId) (x i : Operand) (vx vi v : Value) (ho : o.op = .indexAddr t x i) (hx : a.eval x = vx) (hi : a.eval i = vi) (hr : (Instr.indexAt t vx vi).run P u = .ok v u) : o.quietAt P a C u v := by
  subst hx hi
  unfold Oper.quietAt execOp
  simp only [ho]
  rw [Sem.run_bind, hr]
  exact ⟨rfl, rfl⟩
theorem quietAt_ld {o : Oper} {a : Act} {u : World} (t : TypeId) (x : Operand) (vx v : Value) (ho : o.op = .load t x) (hx : a.eval x = vx) (hr : (Instr.loadAt t vx).run P u = .ok v u) : o.quietAt P a C u v := by
  subst hx
  unfold Oper.quietAt execOp
  simp only [ho]
  rw [Sem.run_bind, hr]
  exact ⟨rfl, rfl⟩
theorem quietAt_cv {o : Oper} {a : Act} {u : World} (s t : TypeId) (x : Operand) (vx v : Value) (ho : o.op = .convert s t x) (hx : a.eval x = vx) (hr : (convert s t vx).run P u = .ok v u) : o.quietAt P a C u v := by
  subst hx
  unfold Oper.quietAt execOp
  simp only [ho]
  rw [Sem.run_bind, hr]
  exact ⟨rfl, rfl⟩
theorem quietAt_un {o : Oper} {a : Act} {u : World} (op : UnOp) (t : TypeId) (x : Operand) (vx v : Value) (ho : o.op = .unOp op t x) (hx : a.eval x = vx) (hr : (Op.unary op vx).run P u = .ok v u) : o.quietAt P a C u v := by
  subst hx
  unfold Oper.quietAt execOp
  simp only [ho]
  rw [Sem.run_bind, hr]
  exact ⟨rfl, rfl⟩
theorem map1 (f : Operand → Value) (x : Operand) (u : Value) (hx : f x = u) : #[x].map f = #[u] := by simp [hx]
theorem ev_const (a : Act) (v : Value) : a.eval (.const v) = v := rfl
/-- a region all of whose operations are quiet in a class of worlds, the frame under a letter. -/
theorem wp_region_quietA {id : Nat} {Q : Exit → Act → World → Prop} {a : Act} {w : World} (hm : P.follows .mixedOrders = true) (hB : Region.lexB .any ops = true) (C : World → Prop) (hC : C w.drew)
    (l : List Oper) (hl : ops.toList = l) (h : ∀ A : Act, A = a → wpQuiet P ops C (fun a' => ∀ w', C w' → Q .normal a' w') l A) : (Code.region id ops true).wp P Q a w := by
  subst hl
  exact wp_region_quiet hm hB hC (h a rfl)
end
end Go.Proofs.YtpbiofnncdneoaaGreatDoor
