/- Worlds; whole structs and arrays by value. -/
import Derived.Test.YtpbiofnncdneoaaGreatDoorProg
import Derived.WalkKit
import Derived.WalkSpells
import Derived.WalkLawsBesides
import Derived.WalkMore
import Derived.KernelRfl
import Derived.Deep.AppendLies
import Derived.Deep.OwnRows
import Derived.Deep.QuietTactic
import Derived.BigQuiet
import Derived.Laws.NewBlocks
import Derived.Laws.BitsAllLaws
import Derived.Laws.AppendOwnNone
import Derived.Lib.AppendStr
import Derived.Deep.MidRow
import Derived.Deep.WholeRow
import Derived.Deep.RegionHeld3
import Derived.Laws.CopyOwn
import Derived.Laws.ShiftsVarLaws
import Derived.Laws.StructEq
namespace Go.Proofs.YtpbiofnncdneoaaGreatDoor
open Go Go.RowKit
open Go.RowKit (wrap32 wrap64)

theorem hid {p : Prop} (h : p) : Hid p := h
theorem gtrans {a b c : World} {row : Option Nat} (h : a.grownBy b row) (k : b.grownBy c row) : a.grownBy c row :=
 ⟨k.os.trans h.os, k.tape.trans h.tape, k.output.trans h.output, Nat.le_trans h.size k.size, fun i hi hr => (k.block i (Nat.lt_of_lt_of_le hi h.size) hr).trans (h.block i hi hr)⟩
theorem grefl (w : World) (row : Option Nat) : w.grownBy w row := ⟨rfl, rfl, rfl, Nat.le_refl _, fun _ _ _ => rfl⟩
theorem gset (w : World) (a : Addr) (u : Value) : w.grownBy (w.setCell a u) (some a.block) :=
 ⟨rfl, rfl, rfl, by simp [World.setCell], fun k _ hk => Below.heap_setCell _ _ _ _ (fun e => hk (by rw [e]))⟩
theorem gdrew (w : World) (n : Nat) (row : Option Nat) : w.grownBy (w.drewN n) row := ⟨rfl, rfl, rfl, Nat.le_refl _, fun _ _ _ => rfl⟩
theorem gbelow {w w' : World} (h : w.grownBy w' none) : Below w.heap.size w w' := ⟨h.os, h.tape, h.output, h.size, fun k hk => h.block k hk (by simp)⟩
theorem gof {w w' : World} (h : Below w.heap.size w w') (row : Option Nat) : w.grownBy w' row := ⟨h.os, h.tape, h.output, h.size, fun k hk _ => h.block k hk⟩
theorem galloc (w : World) (o : Obj) (row : Option Nat) : w.grownBy (w.alloc o) row := World.grownBy_alloc w o row
theorem gsome {a b : World} (h : a.grownBy b none) (row : Option Nat) : a.grownBy b row := ⟨h.os, h.tape, h.output, h.size, fun k hk _ => h.block k hk (by simp)⟩
theorem heap_new (w : World) (cs : Array Value) (t : TypeId) : (w.alloc (.cells cs t)).heap[w.heap.size]? = some (.cells cs t (0, 0)) := by
 show (w.heap.push _)[w.heap.size]? = _
 simp
theorem heap_at {w u : World} {k : Nat} {x : Obj} {row : Option Nat} (hg : w.grownBy u row) (hr : row ≠ some k) (h : w.heap[k]? = some x) : u.heap[k]? = some x :=
 (hg.block _ (Array.getElem?_eq_some_iff.1 h).1 (fun e => hr e.symm)).trans h
theorem cell_at {w u : World} {row : Option Nat} (hg : w.grownBy u row) {b o : Nat} (hb : b < w.heap.size) (hr : row ≠ some b) : u.cell? ⟨b, o, none⟩ = w.cell? ⟨b, o, none⟩ := by
 have := hg.block b hb (fun e => hr e.symm)
 simp only [World.cell?, this]
theorem u8_bd (x : UInt8) : 0 ≤ (x.toNat : Int) ∧ (x.toNat : Int) < 256 := by have := x.toNat_lt; omega
theorem ret_int {k : IntKind} {a b : Int} (h : a = b) : Ending.returned (.int k a) = .returned (.int k b) := by rw [h]

theorem byteCells_append (a b : List UInt8) : Lib.byteCells (a ++ b) = Lib.byteCells a ++ Lib.byteCells b := by simp [Lib.byteCells]
theorem byteCells_length (a : List UInt8) : (Lib.byteCells a).length = a.length := by simp [Lib.byteCells]
theorem bcs_one (l : List UInt8) : ∀ v ∈ Lib.byteCells l, v.oneCell' = true := by
 intro v hv
 unfold Lib.byteCells at hv
 obtain ⟨_, _, rfl⟩ := List.mem_map.1 hv
 rfl
/-- Block b is a row of cells cs. -/
def Blk (w : World) (b : Nat) (cs : List Value) (t : TypeId) : Prop := w.heap[b]? = some (.cells cs.toArray t (0, 0))
theorem Blk.lt {w : World} {b : Nat} {cs : List Value} {t : TypeId} (h : Blk w b cs t) : b < w.heap.size := (Array.getElem?_eq_some_iff.1 h).1
theorem Blk.on {w w' : World} {b : Nat} {cs : List Value} {t : TypeId} {row : Option Nat} (h : Blk w b cs t) (hg : w.grownBy w' row) (hr : row ≠ some b) : Blk w' b cs t := heap_at hg hr h
theorem Blk.keep {w w' : World} {b : Nat} {cs : List Value} {t : TypeId} (h : Blk w b cs t) (hg : w.grownBy w' none) : Blk w' b cs t := h.on hg (by simp)
theorem Blk.cell {w : World} {b : Nat} {cs : List Value} {t : TypeId} (h : Blk w b cs t) (i : Nat) : w.cell? ⟨b, i, none⟩ = cs[i]? := by
 rw [cell_of_row w b i cs.toArray t (0, 0) h]
 simp
theorem Blk.frozen {w : World} {b : Nat} {cs : List Value} {t : TypeId} (h : Blk w b cs t) (i : Nat) : w.frozen? ⟨b, i, none⟩ = false := frozen_of_row w b i cs.toArray t h
theorem Blk.range {w : World} {b : Nat} {cs : List Value} {t : TypeId} (h : Blk w b cs t) (A B C : List Value) (o : Nat) (e : cs = A ++ (B ++ C)) (ho : A.length = o) : w.rangeAt b o B := fun j v hv => by
 have hj : j < B.length := (List.getElem?_eq_some_iff.1 hv).1
 rw [h.cell, e, ← ho, List.getElem?_append_right (by omega), show A.length + j - A.length = j by omega, List.getElem?_append_left hj]
 exact hv
theorem Blk.whole {w : World} {b : Nat} {cs : List Value} {t : TypeId} (h : Blk w b cs t) : w.rangeAt b 0 cs := h.range [] cs [] 0 (by simp) rfl
theorem Blk.set {w : World} {b : Nat} {cs : List Value} {t : TypeId} (h : Blk w b cs t) (i : Nat) (v : Value) : Blk (w.setCell ⟨b, i, none⟩ v) b (cs.set i v) t := by
 unfold Blk
 rw [heap_setCell_same w b i cs.toArray t v h]
 simp
theorem Blk.new (w : World) (cs : List Value) (t : TypeId) : Blk (w.alloc (.cells cs.toArray t)) w.heap.size cs t := heap_new w _ _
theorem grow_setRow (w : World) (b : Nat) (cs : Array Value) : w.grownBy (w.setRow b cs) (some b) :=
 ⟨rfl, rfl, rfl, by simp [World.setRow], fun k _ hk => setRow_other w b k cs (fun e => hk (by rw [e]))⟩

section
variable {P : Program} {ops : Array Oper} {rest : List Oper} {o : Oper} {a : Act} {w : World} {Q : Exit → Act → World → Prop} {K : Act → World → Prop}

theorem wp_alloc_row (t : TypeId) (ho : o.op = .alloc t) (z : List Value) (hz : (P.info? t).map (fun i => i.zero) = some (some (.agg z.toArray)))
  (h : ∀ w', Blk w' w.heap.size z t → w'.heap.size = w.heap.size + 1 → w.grownBy w' none → K (a.put o.dst (.pointer (some ⟨w.heap.size, 0, none⟩))) w') : o.wp P a w K Q := by
 cases hq : P.info? t with
 | none => simp [hq] at hz
 | some i =>
  have hs : i.zero = some (.agg z.toArray) := by simpa [hq] using hz
  unfold Oper.wp execOp
  simp [ho, Instr.alloc, zeroValue, typeInfo, hq, hs, newVar, newRow, Value.cells]
  exact h _ (Blk.new w z t) (by simp) (galloc _ _ _)
theorem wpList_alloc_row (hgd : o.guard = none) (t : TypeId) (ho : o.op = .alloc t) (z : List Value) (hz : (P.info? t).map (fun i => i.zero) = some (some (.agg z.toArray)))
  (h : ∀ w', Blk w' w.heap.size z t → w'.heap.size = w.heap.size + 1 → w.grownBy w' none → wpList P ops Q rest (a.put o.dst (.pointer (some ⟨w.heap.size, 0, none⟩))) w') : wpList P ops Q (o :: rest) a w :=
 wpList_plain hgd fun _ hK => wp_alloc_row t ho z hz (fun w' h1 h2 h3 => hK _ _ (h w' h1 h2 h3))
theorem wp_box_row (t : TypeId) (x : Operand) (ho : o.op = .box t x) (cs : List Value) (hx : a.eval x = .agg cs.toArray)
  (h : ∀ w', Blk w' w.heap.size cs t → w'.heap.size = w.heap.size + 1 → w.grownBy w' none → K (a.put o.dst (.pointer (some ⟨w.heap.size, 0, none⟩))) w') : o.wp P a w K Q := by
 unfold Oper.wp execOp
 simp [ho, hx, Instr.box, newVar, newRow, Value.cells]
 exact h _ (Blk.new w cs t) (by simp) (galloc _ _ _)
theorem wpList_box_row (hgd : o.guard = none) (t : TypeId) (x : Operand) (ho : o.op = .box t x) (cs : List Value) (hx : a.eval x = .agg cs.toArray)
  (h : ∀ w', Blk w' w.heap.size cs t → w'.heap.size = w.heap.size + 1 → w.grownBy w' none → wpList P ops Q rest (a.put o.dst (.pointer (some ⟨w.heap.size, 0, none⟩))) w') : wpList P ops Q (o :: rest) a w :=
 wpList_plain hgd fun _ hK => wp_box_row t x ho cs hx (fun w' h1 h2 h3 => hK _ _ (h w' h1 h2 h3))
theorem run_store_part (ty : TypeId) (b off : Nat) (cs vs : List Value) (t : TypeId) (hb : Blk w b cs t) (hfit : off + vs.length ≤ cs.length) (hi : (P.info? ty).map (·.size) = some vs.length) (h1 : ∀ v ∈ vs, v.oneCell' = true) :
  (storeVar ty ⟨b, off, none⟩ (.agg vs.toArray)).run P w = .ok () (w.setRow b (splice cs off vs).toArray) := by
 have := run_storeCells_at P b off t vs 0 cs.toArray w hb (by simpa using hfit) h1
 cases hq : P.info? ty with
 | none => simp [hq] at hi
 | some i =>
  have hs : i.size = vs.length := by simpa [hq] using hi
  simp [storeVar, sizeOf, typeInfo, hq, Value.cells, hs, this, splice]
theorem wp_store_part (ty : TypeId) (x y : Operand) (ho : o.op = .store ty x y) (b off : Nat) (cs vs : List Value) (t : TypeId) (hx : a.eval x = .pointer (some ⟨b, off, none⟩)) (hy : a.eval y = .agg vs.toArray)
  (hb : Blk w b cs t) (hfit : off + vs.length ≤ cs.length) (hi : (P.info? ty).map (·.size) = some vs.length) (h1 : ∀ v ∈ vs, v.oneCell' = true)
  (h : ∀ w', Blk w' b (splice cs off vs) t → w.grownBy w' (some b) → w'.heap.size = w.heap.size → K (a.put o.dst undef) w') : o.wp P a w K Q := by
 unfold Oper.wp execOp
 simp only [ho, hx, hy, Instr.storeAt, Instr.sureAddr, Sem.run_bind, Sem.run_pure, Result.andThen_ok, run_store_part ty b off cs vs t hb hfit hi h1]
 exact h _ (setRow_heap w b _ _ t _ hb) (grow_setRow _ _ _) (by simp)
theorem wpList_store_part (hgd : o.guard = none) (ty : TypeId) (x y : Operand) (ho : o.op = .store ty x y) (b off : Nat) (cs vs : List Value) (t : TypeId) (hx : a.eval x = .pointer (some ⟨b, off, none⟩)) (hy : a.eval y = .agg vs.toArray)
  (hb : Blk w b cs t) (hfit : off + vs.length ≤ cs.length) (hi : (P.info? ty).map (·.size) = some vs.length) (h1 : ∀ v ∈ vs, v.oneCell' = true)
  (h : ∀ w', Blk w' b (splice cs off vs) t → w.grownBy w' (some b) → w'.heap.size = w.heap.size → wpList P ops Q rest (a.put o.dst undef) w') : wpList P ops Q (o :: rest) a w :=
 wpList_plain hgd fun _ hK => wp_store_part ty x y ho b off cs vs t hx hy hb hfit hi h1 (fun w' h1 h2 h3 => hK _ _ (h w' h1 h2 h3))
/-- a whole row. -/
theorem wpList_store_all (hgd : o.guard = none) (ty : TypeId) (x y : Operand) (ho : o.op = .store ty x y) (b : Nat) (cs vs : List Value) (t : TypeId) (hx : a.eval x = .pointer (some ⟨b, 0, none⟩)) (hy : a.eval y = .agg vs.toArray)
  (hb : Blk w b cs t) (hfit : vs.length = cs.length) (hi : (P.info? ty).map (·.size) = some vs.length) (h1 : ∀ v ∈ vs, v.oneCell' = true)
  (h : ∀ w', Blk w' b vs t → w.grownBy w' (some b) → w'.heap.size = w.heap.size → wpList P ops Q rest (a.put o.dst undef) w') : wpList P ops Q (o :: rest) a w := by
 refine wpList_store_part hgd ty x y ho b 0 cs vs t hx hy hb (by omega) hi h1 (fun w' h1 h2 h3 => h w' ?_ h2 h3)
 have e : splice cs 0 vs = vs := by unfold splice; rw [List.take_zero, List.nil_append, Nat.zero_add, hfit, List.drop_length, List.append_nil]
 rw [e] at h1
 exact h1
theorem wpList_load_part (hgd : o.guard = none) (ty : TypeId) (x : Operand) (ho : o.op = .load ty x) (b off : Nat) (vs : List Value) (d : TypeDesc) (hx : a.eval x = .pointer (some ⟨b, off, none⟩)) (hc : w.rangeAt b off vs)
  (hu : P.underlying ty = some d) (hd : d.isRow = true) (hi : (P.info? ty).map (·.size) = some vs.length)
  (h : wpList P ops Q rest (a.put o.dst (.agg vs.toArray)) w) : wpList P ops Q (o :: rest) a w :=
 wpList_load_mid hgd ty x ho b off hx vs d hc hu hd hi h
/-- a result that lies in a row. -/
theorem results_blk {fn : Func} {p : Tmp} {ty : TypeId} (h : fn.results = #[.cell p ty]) (tmps : Array Value) (b : Nat) (t : TypeId) (cs : List Value) (d : TypeDesc)
  (hp : tmps.getD p undef = .pointer (some ⟨b, 0, none⟩)) (hb : Blk w b cs t) (hu : P.underlying ty = some d) (hd : d.isRow = true) (hi : (P.info? ty).map (·.size) = some cs.length) :
  (results fn tmps).run P w = .ok (.agg cs.toArray) w :=
 results_cell_row h tmps w b t cs.toArray (0, 0) d hp hb hu (by cases d <;> first | rfl | (simp [TypeDesc.isRow] at hd)) (by simpa using hi)
end


/-- A slice of bytes that reads as l, in a block of F. -/
def Rd (w : World) (F : Nat → Prop) (v : Value) (l : List UInt8) : Prop :=
 ∃ (a : Option Addr) (b off c : Nat), v = .slice a l.length c ∧ l.length ≤ c ∧ (a = none → c = 0) ∧ (0 < l.length → a = some ⟨b, off, none⟩ ∧ b < w.heap.size ∧ F b) ∧ ∀ i (h : i < l.length), w.cell? ⟨b, off + i, none⟩ = some (.int .u8 l[i].toNat)
theorem Rd.on {w w' : World} {F : Nat → Prop} {v : Value} {l : List UInt8} {row : Option Nat} (h : Rd w F v l) (hg : w.grownBy w' row) (hr : ∀ k, row = some k → ¬ F k) : Rd w' F v l := by
 obtain ⟨a, b, off, c, hv, hc, hn, ha, hcell⟩ := h
 refine ⟨a, b, off, c, hv, hc, hn, fun hl => ⟨(ha hl).1, Nat.lt_of_lt_of_le (ha hl).2.1 hg.size, (ha hl).2.2⟩, fun i hi => ?_⟩
 rw [cell_at hg (ha (by omega)).2.1 (fun e => hr _ e (ha (by omega)).2.2)]
 exact hcell i hi
theorem Rd.keep {w w' : World} {F : Nat → Prop} {v : Value} {l : List UInt8} (h : Rd w F v l) (hg : w.grownBy w' none) : Rd w' F v l := h.on hg (fun k hk => by cases hk)
theorem Rd.mono {w : World} {F G : Nat → Prop} {v : Value} {l : List UInt8} (h : Rd w F v l) (hf : ∀ k, k < w.heap.size → F k → G k) : Rd w G v l := by
 obtain ⟨a, b, off, c, hv, hc, hn, ha, hcell⟩ := h
 exact ⟨a, b, off, c, hv, hc, hn, fun hl => ⟨(ha hl).1, (ha hl).2.1, hf _ (ha hl).2.1 (ha hl).2.2⟩, hcell⟩
theorem Rd.nil (w : World) (F : Nat → Prop) : Rd w F (.slice none 0 0) [] :=
 ⟨none, 0, 0, 0, rfl, Nat.le_refl _, fun _ => rfl, fun h => by simp at h, fun i h => by simp at h⟩

theorem Tryz.info5 : (Tryz.prog.info? 5).map (fun i => (i.zero, i.size, i.bytes)) = some (some (.int .u8 0), 1, 1) := by kernel_rfl
/-- Bytes that the call owns, from block B on. -/
def Out (B : Nat) (w : World) (v : Value) (acc : List UInt8) : Prop := w.ownsRow B 5 1 v acc.length (Lib.byteCells acc)
theorem Out.on {B : Nat} {w w' : World} {v : Value} {acc : List UInt8} {row : Option Nat} (h : Out B w v acc) (hg : w.grownBy w' row) (hr : ∀ k, row = some k → v.ownBlock ≠ some k) : Out B w' v acc := by
 refine World.ownsRow.kept h hg ?_
 cases hv : v.ownBlock with
 | none => exact .inl rfl
 | some g => exact .inr (fun e => hr g e.symm hv)
theorem Out.keep {B : Nat} {w w' : World} {v : Value} {acc : List UInt8} (h : Out B w v acc) (hg : w.grownBy w' none) : Out B w' v acc := h.on hg (fun k hk => by cases hk)
theorem Out.block {B : Nat} {w : World} {v : Value} {l : List UInt8} (h : Out B w v l) : ∀ j, v.ownBlock = some j → B ≤ j := by
 intro j hj
 rcases h.2 with ⟨rfl, _⟩ | ⟨g, cap, cur, rfl, hb, _⟩
 ·simp [Value.ownBlock] at hj
 ·simp [Value.ownBlock] at hj
  omega
theorem Out.below {B C : Nat} {w : World} {v : Value} {l : List UInt8} (h : Out B w v l) (hC : C ≤ B) : Out C w v l := by
 refine ⟨h.1, ?_⟩
 rcases h.2 with h0 | ⟨g, cap, cur, e, hb, r⟩
 ·exact .inl h0
 ·exact .inr ⟨g, cap, cur, e, by omega, r⟩
theorem Out.rd {B : Nat} {w : World} {v : Value} {l : List UInt8} (h : Out B w v l) : Rd w (fun g => B ≤ g) v l := by
 rcases h.2 with ⟨rfl, h0⟩ | ⟨g, cap, cur, rfl, hb, hg, hle, hm, hs, ht⟩
 ·have : l = [] := List.eq_nil_of_length_eq_zero h0
  subst this
  exact Rd.nil _ _
 ·refine ⟨some ⟨g, 0, none⟩, g, 0, cap, rfl, hle, (fun h => by cases h), fun _ => ⟨rfl, (h.lt g rfl).2, hb⟩, fun i hi => ?_⟩
  have := h.cells (g := g) rfl i (.int .u8 l[i].toNat) (by simp [Lib.byteCells, List.getElem?_eq_getElem hi])
  rw [Addr.add_lit] at this
  exact this
theorem Out.more {B : Nat} {w : World} {v : Value} {acc bs : List UInt8} {n : Nat} {xs : List Value} (h : w.ownsRow B 5 1 v n xs) (hn : n = acc.length + bs.length) (hx : xs = Lib.byteCells acc ++ Lib.byteCells bs) : Out B w v (acc ++ bs) := by
 unfold Out
 rw [byteCells_append, List.length_append, ← hn, ← hx]
 exact h
theorem Out.nil (B : Nat) (w : World) : Out B w (.slice none 0 0) [] := World.ownsRow_nil _ _ _ _

set_option maxRecDepth 100000 in
/-- append of bytes that can be read onto a row of the call's own. -/
theorem wpList_append_rd {w : World} {ops : Array Oper} {rest : List Oper} {o : Oper} {a : Act} {Q : Exit → Act → World → Prop} (hgd : o.guard = none) (s x : Operand)
  (ho : o.op = .call { callee := .builtin .append, args := #[s, x], argTypes := #[74, 74] })
  (B : Nat) (F : Nat → Prop) (acc l : List UInt8) (hown : Out B w (a.eval s) acc) (hx : Rd w F (a.eval x) l) (hn : acc.length + l.length ≤ 140737488355328) (hB : B ≤ w.heap.size)
  (h : ∀ v' w', Out B w' v' (acc ++ l) → w.grownBy w' (a.eval s).ownBlock → (a.eval s ≠ .slice none 0 0 → v' ≠ .slice none 0 0) → wpList Tryz.prog ops Q rest (a.put o.dst v') w') : wpList Tryz.prog ops Q (o :: rest) a w := by
 obtain ⟨inf, hi, hz0, hz1, hz2⟩ := info_parts Tryz.info5
 obtain ⟨p, b, off, c, e, hc, hnn, ha, hcell⟩ := hx
 cases p with
 | none =>
  have c0 := hnn rfl
  have hl : l = [] := List.eq_nil_of_length_eq_zero (by omega)
  subst hl
  subst c0
  refine wpList_append_own_none hgd s x 74 ho B 5 inf 1 Tryz.underlying74 hi _ _ _ rfl hown e ?_
  exact h _ w (by rw [List.append_nil]; exact hown) (World.grownBy.refl _ _) (fun h => h)
 | some q =>
  refine wpList_append_own w hgd s x 74 ho B 5 inf (.int .u8 0) 1 1 Tryz.underlying74 hi hz0 hz1 hz2 rfl (by decide) _ _ _ rfl hown q l.length c (Lib.byteCells l) e (by simp [Lib.byteCells]) ?_ ?_ (by unfold maxLen; omega) (by omega) hB ?_
  ·intro j u hu
   have hj : j < l.length := by have := (List.getElem?_eq_some_iff.1 hu).1; simpa [Lib.byteCells] using this
   have hq := (ha (by omega)).1
   injection hq with hq
   rw [hq, Addr.add_lit, hcell j hj, ← hu]
   simp [Lib.byteCells, List.getElem?_eq_getElem hj]
  ·intro u hu
   unfold Lib.byteCells at hu
   obtain ⟨_, _, rfl⟩ := List.mem_map.1 hu
   rfl
  ·intro v' w' h1 h2 h3
   exact h v' w' (Out.more h1 rfl rfl) h2 (fun hv e => hv (h3.1 e).1)
set_option maxRecDepth 100000 in
/-- append of one byte. -/
theorem wpList_append_byte {w : World} {ops : Array Oper} {rest : List Oper} {o : Oper} {a : Act} {Q : Exit → Act → World → Prop} (hgd : o.guard = none) (s x : Operand)
  (ho : o.op = .call { callee := .builtin .append, args := #[s, x], argTypes := #[74, 74] })
  (B L : Nat) (acc : List UInt8) (c : UInt8) (hown : Out B w (a.eval s) acc) (hx : a.eval x = .slice (some ⟨L, 0, none⟩) 1 1) (hL : w.heap[L]? = some (.cells #[.int .u8 c.toNat] 5 (0, 0))) (hn : acc.length + 1 ≤ 140737488355328) (hB : B ≤ w.heap.size)
  (h : ∀ v' w', Out B w' v' (acc ++ [c]) → w.grownBy w' (a.eval s).ownBlock → wpList Tryz.prog ops Q rest (a.put o.dst v') w') : wpList Tryz.prog ops Q (o :: rest) a w := by
 refine wpList_append_rd hgd s x ho B (fun _ => True) acc [c] hown ?_ hn hB (fun v' w' h1 h2 _ => h v' w' h1 h2)
 rw [hx]
 refine ⟨some ⟨L, 0, none⟩, L, 0, 1, rfl, Nat.le_refl _, (fun h => by cases h), fun _ => ⟨rfl, (Array.getElem?_eq_some_iff.1 hL).1, trivial⟩, fun i hi => ?_⟩
 have : i = 0 := by simp at hi; exact hi
 subst this
 simp [World.cell?, hL]
theorem litL (w : World) (c : Value) : (w.alloc (.cells #[c] 5)).heap[w.heap.size]? = some (.cells #[c] 5 (0, 0)) := heap_new w _ _
end Go.Proofs.YtpbiofnncdneoaaGreatDoor

namespace Go.Proofs.YtpbiofnncdneoaaGreatDoor
open Go Go.RowKit

section
variable {P : Program} {ops : Array Oper} {md : Region.Mode} {C : World → Prop} {n : Nat}

def below (md : Region.Mode) (ops : Array Oper) : Nat → Nat → Nat → Bool
 | 0, _, _ => false
 | f + 1, i, j =>
  match ops[i]? with
  | none => false
  | some o => o.after.any fun e => Region.binds md e && (e.on == j || below md ops f e.on j)
/-- what waits for something has it behind it. -/
def Closed (md : Region.Mode) (ops : Array Oper) (listed : Array Bool) : Prop :=
 ∀ i o, listed.getD i false = true → ops[i]? = some o → ∀ e ∈ o.after, Region.binds md e = true → listed.getD e.on false = true
theorem closed_set {listed : Array Bool} (h : Closed md ops listed) {i : Nat} (hi : i ∈ Region.ready md ops listed) : Closed md ops (listed.setIfInBounds i true) := by
 intro k o hk ho e he hb
 refine getD_set_true ?_
 by_cases e' : k = i
 ·subst e'
  obtain ⟨_, o', ho', hall⟩ := mem_ready.1 hi
  rw [ho] at ho'
  injection ho' with ho'
  subst ho'
  exact hall e he hb
 ·rw [getD_set_ne false (fun x => e' x.symm)] at hk
  exact h k o hk ho e he hb
theorem closed_none (k : Nat) : Closed md ops (Array.replicate k false) := by
 intro i o hi
 rw [Array.getD_eq_getD_getElem?, Array.getElem?_replicate] at hi
 split at hi <;> cases hi
theorem below_listed {listed : Array Bool} (hc : Closed md ops listed) : ∀ (f i j : Nat), (∀ o, ops[i]? = some o → ∀ e ∈ o.after, Region.binds md e = true → listed.getD e.on false = true) → below md ops f i j = true → listed.getD j false = true
 | 0, _, _, _, h => by cases h
 | f + 1, i, j, ha, h => by
  unfold below at h
  cases ho : ops[i]? with
  | none => rw [ho] at h; cases h
  | some o =>
   simp only [ho] at h
   obtain ⟨e, he, hb⟩ := Array.any_eq_true'.1 h
   obtain ⟨hb1, hb2⟩ := Bool.and_eq_true _ _ ▸ hb
   have hl := ha o ho e he hb1
   rcases Bool.or_eq_true _ _ ▸ hb2 with h2 | h2
   ·have : e.on = j := by simpa using h2
    rwa [this] at hl
   ·exact below_listed hc f e.on j (fun o' ho' => hc e.on o' hl ho') h2
theorem getD_two {l : Array Bool} {j : Nat} (h1 : l.getD j false = true) (h2 : l.getD j true = false) : False := by
 rcases Nat.lt_or_ge j l.size with h | h
 ·simp [h] at h1 h2
  rw [h1] at h2
  cases h2
 ·simp [Array.getElem?_eq_none h] at h1
theorem ev_same (a : Act) (d : Tmp) (v : Value) (h : d < a.tmps.size) : (a.put (some d) v).eval (.tmp d) = v := by
 simp [Act.put, Act.eval, h]
theorem ev_ne (a : Act) (d e : Tmp) (v : Value) (h : d ≠ e) : (a.put (some d) v).eval (.tmp e) = a.eval (.tmp e) := by
 simp [Act.put, Act.eval, h]
theorem ev_size (a : Act) (d : Tmp) (v : Value) : (a.put (some d) v).tmps.size = a.tmps.size := by
 simp [Act.put]
theorem quietAt_load {o : Oper} {a : Act} {u : World} (ty : TypeId) (x : Operand) (ho : o.op = .load ty x) (b off : Nat) (vs : List Value) (d : TypeDesc) (hx : a.eval x = .pointer (some ⟨b, off, none⟩)) (hc : u.rangeAt b off vs)
  (hu : P.underlying ty = some d) (hd : d.isRow = true) (hi : (P.info? ty).map (·.size) = some vs.length) : o.quietAt P a C u (.agg vs.toArray) := by
 unfold Oper.quietAt execOp
 simp only [ho, hx, Instr.loadAt, Instr.sureAddr, Sem.run_bind, Sem.run_pure, Result.andThen_ok, run_loadVar_mid u b off ty vs d hc hu hd hi]
 exact ⟨rfl, rfl⟩
theorem quietAt_move {o : Oper} {a : Act} {u : World} (x : Operand) (ho : o.op = .move x) : o.quietAt P a C u (a.eval x) := by
 unfold Oper.quietAt execOp
 simp only [ho]
 exact ⟨rfl, rfl⟩
theorem quietAt_mv {o : Oper} {a : Act} {u : World} (x : Operand) (v : Value) (ho : o.op = .move x) (hx : a.eval x = v) : o.quietAt P a C u v := by
 rw [← hx]
 exact quietAt_move x ho
theorem map2 (f : Operand → Value) (x y : Operand) (u v : Value) (hx : f x = u) (hy : f y = v) : #[x, y].map f = #[u, v] := by simp [hx, hy]
theorem quietAt_nil {o : Oper} {a : Act} {u : World} (x : Operand) (ho : o.op = .nilCheck x) (p : Addr) (hx : a.eval x = .pointer (some p)) : o.quietAt P a C u (.pointer (some p)) := by
 unfold Oper.quietAt execOp
 simp only [ho, hx]
 exact ⟨rfl, rfl⟩
theorem quietAt_field {o : Oper} {a : Act} {u : World} (t : TypeId) (x : Operand) (i : Nat) (ho : o.op = .fieldAddr t x i) (p q : Addr) (hx : a.eval x = .pointer (some p)) (hr : (Instr.fieldAt t (.pointer (some p)) i).run P u = .ok (.pointer (some q)) u) : o.quietAt P a C u (.pointer (some q)) := by
 unfold Oper.quietAt execOp
 simp only [ho, hx, Sem.run_bind, hr, Result.andThen_ok]
 exact ⟨rfl, rfl⟩
theorem yield_at {a : Act} {j : Nat} {d : Tmp} {b : Bool} (hd : ((ops[j]?).bind (·.dst)) = some d) (hb : a.eval (.tmp d) = .bool b) : yielded ops a.tmps j = some b := by
 unfold yielded
 rw [hd]
 simp only [Act.eval, Array.getD_eq_getD_getElem?] at hb
 cases h : a.tmps[d]? with
 | none => rw [h] at hb; cases hb
 | some v => rw [h] at hb; simp at hb; simp [h, hb]
theorem quietAt_as {o : Oper} {a : Act} {u : World} (x : Operand) (v : Value) (ho : o.op = .assign x) (hx : a.eval x = v) : o.quietAt P a C u v := by
 subst hx
 unfold Oper.quietAt execOp
 simp only [ho]
 exact ⟨rfl, rfl⟩
theorem quietAt_pick {o : Oper} {a : Act} {u : World} (c x y : Operand) (b : Bool) (v : Value) (ho : o.op = .pick c x y) (hc : a.eval c = .bool b) (hv : (if b then a.eval x else a.eval y) = v) : o.quietAt P a C u v := by
 unfold Oper.quietAt execOp
 have h1 : (asBool (.bool b)).run P u = .ok b u := rfl
 simp only [ho, hc, Sem.run_bind, h1, Result.andThen_ok]
 exact ⟨rfl, hv⟩
theorem quietAt_bin {o : Oper} {a : Act} {u : World} (op : BinOp) (t : TypeId) (x y : Operand) (ty : TypeId) (vx vy v : Value) (ho : o.op = .binOp op t x y ty) (hx : a.eval x = vx) (hy : a.eval y = vy) (hr : (do eqGuard op t x y vx vy; binOp op t vx vy : Sem Value).run P u = .ok v u) : o.quietAt P a C u v := by
 subst hx hy
 unfold Oper.quietAt execOp
 simp only [ho]
 rw [Sem.run_bind, hr]
 exact ⟨rfl, rfl⟩
theorem quietAt_idx {o : Oper} {a : Act} {u : World} (t : TypeId) (x i : Operand) (vx vi v : Value) (ho : o.op = .indexAddr t x i) (hx : a.eval x = vx) (hi : a.eval i = vi) (hr : (Instr.indexAt t vx vi).run P u = .ok v u) : o.quietAt P a C u v := by
 subst hx hi
 unfold Oper.quietAt execOp
 simp only [ho]
 rw [Sem.run_bind, hr]
 exact ⟨rfl, rfl⟩
theorem quietAt_ld {o : Oper} {a : Act} {u : World} (t : TypeId) (x : Operand) (vx v : Value) (ho : o.op = .load t x) (hx : a.eval x = vx) (hr : (Instr.loadAt t vx).run P u = .ok v u) : o.quietAt P a C u v := by
 subst hx
 unfold Oper.quietAt execOp
 simp only [ho]
 rw [Sem.run_bind, hr]
 exact ⟨rfl, rfl⟩
theorem quietAt_cv {o : Oper} {a : Act} {u : World} (s t : TypeId) (x : Operand) (vx v : Value) (ho : o.op = .convert s t x) (hx : a.eval x = vx) (hr : (convert s t vx).run P u = .ok v u) : o.quietAt P a C u v := by
 subst hx
 unfold Oper.quietAt execOp
 simp only [ho]
 rw [Sem.run_bind, hr]
 exact ⟨rfl, rfl⟩
theorem quietAt_un {o : Oper} {a : Act} {u : World} (op : UnOp) (t : TypeId) (x : Operand) (vx v : Value) (ho : o.op = .unOp op t x) (hx : a.eval x = vx) (hr : (Op.unary op vx).run P u = .ok v u) : o.quietAt P a C u v := by
 subst hx
 unfold Oper.quietAt execOp
 simp only [ho]
 rw [Sem.run_bind, hr]
 exact ⟨rfl, rfl⟩
theorem map1 (f : Operand → Value) (x : Operand) (u : Value) (hx : f x = u) : #[x].map f = #[u] := by simp [hx]
end
end Go.Proofs.YtpbiofnncdneoaaGreatDoor

namespace Go.Proofs.YtpbiofnncdneoaaGreatDoor
open Go Go.RowKit

section
variable {P : Program} {ops : Array Oper} {Q : Exit → Act → World → Prop} {Φ : Nat → Value → World → Prop} {a0 : Act} {w0 : World} {n : Nat} {row0 : Option Nat} {row : Nat → Option Nat}

/-- slot s is written by none of them. -/
def noDst (ops : Array Oper) (s : Nat) : Bool := ops.toList.all fun o => o.dst != some s
def dstB (ops : Array Oper) : Bool := (List.range ops.size).all fun i => (List.range ops.size).all fun j => i == j || (match (ops[i]?).bind (·.dst), (ops[j]?).bind (·.dst) with | some d, some e => d != e | _, _ => true)
def dltB (ops : Array Oper) (m : Nat) : Bool := ops.toList.all fun o => match o.dst with | some d => decide (d < m) | none => true
def backB (ops : Array Oper) : Bool := (List.range ops.size).all fun i => match ops[i]? with | some o => o.after.all (fun e => !(Region.binds .any e) || decide (e.on < i)) | none => true

structure Held (ops : Array Oper) (Φ : Nat → Value → World → Prop) (row0 : Option Nat) (row : Nat → Option Nat) (a0 : Act) (w0 : World) (listed : Array Bool) (a : Act) (w : World) : Prop where
 grown : w0.grownBy w row0
 sz : a.tmps.size = a0.tmps.size
 defers : a.defers = a0.defers
 out : ∀ s, noDst ops s = true → a.eval (.tmp s) = a0.eval (.tmp s)
 got : ∀ k o d, ops[k]? = some o → o.dst = some d → listed.getD k false = true → Φ k (a.eval (.tmp d)) w
 stored : ∀ k, listed.getD k false = true → ∃ v, Φ k v w
 pure_ : (∀ k, row k ≠ none → listed.getD k false = false) → w0.grownBy w none

/-- what is to be shown of operation i. -/
def Shown (P : Program) (ops : Array Oper) (Q : Exit → Act → World → Prop) (Φ : Nat → Value → World → Prop) (row0 : Option Nat) (row : Nat → Option Nat) (a0 : Act) (w0 : World) (i : Nat) (o : Oper) : Prop :=
 ∀ (A : Act) (u : World), w0.grownBy u row0 → (row i ≠ none → w0.grownBy u none) → A.tmps.size = a0.tmps.size → (∀ s, noDst ops s = true → A.eval (.tmp s) = a0.eval (.tmp s)) →
  (∀ e ∈ o.after, Region.binds .any e = true → ∀ o' d', ops[e.on]? = some o' → o'.dst = some d' → Φ e.on (A.eval (.tmp d')) u) →
  if Region.wanted o (yielded ops A.tmps) = true then o.wp P A u (fun A' u' => ∃ v, A' = A.put o.dst v ∧ u.grownBy u' (row i) ∧ Φ i v u') Q else Φ i undef u

theorem noDst_ne {s k : Nat} {o : Oper} (h : noDst ops s = true) (ho : ops[k]? = some o) : o.dst ≠ some s := by
 have := List.all_eq_true.1 h o (by have := Array.mem_of_getElem? ho; simpa using this)
 simpa using this
theorem dst_ne {i j : Nat} {o o' : Oper} {d e : Tmp} (h : dstB ops = true) (hi : ops[i]? = some o) (hj : ops[j]? = some o') (hd : o.dst = some d) (he : o'.dst = some e) (hne : i ≠ j) : d ≠ e := by
 have h1 := List.all_eq_true.1 h i (List.mem_range.2 (Array.getElem?_eq_some_iff.1 hi).1)
 have h2 := List.all_eq_true.1 h1 j (List.mem_range.2 (Array.getElem?_eq_some_iff.1 hj).1)
 simp only [hi, hj, Option.bind_some, hd, he, Bool.or_eq_true, beq_iff_eq, bne_iff_ne] at h2
 exact h2.resolve_left hne
theorem dst_lt {m k : Nat} {o : Oper} {d : Tmp} (h : dltB ops m = true) (ho : ops[k]? = some o) (hd : o.dst = some d) : d < m := by
 have := List.all_eq_true.1 h o (by have := Array.mem_of_getElem? ho; simpa using this)
 simpa [hd] using this
theorem back_lt {k : Nat} {o : Oper} (h : backB ops = true) (ho : ops[k]? = some o) : ∀ e ∈ o.after, Region.binds .any e = true → e.on < k := by
 intro e he hb
 have h1 := List.all_eq_true.1 h k (List.mem_range.2 (Array.getElem?_eq_some_iff.1 ho).1)
 simp only [ho] at h1
 have h2 := Array.all_eq_true_iff_forall_mem.1 h1 e he
 simp only [hb, Bool.not_true, Bool.false_or, decide_eq_true_eq] at h2
 exact h2
theorem countP_less {p q : Nat → Bool} : ∀ (l : List Nat), (∀ x ∈ l, q x = true → p x = true) → ∀ x ∈ l, p x = true → q x = false → l.countP q < l.countP p
 | [], _, x, hx, _, _ => by cases hx
 | y :: l, h, x, hx, hp, hq => by
  have hle : l.countP q ≤ l.countP p := List.countP_mono_left (fun z hz => h z (List.mem_cons_of_mem _ hz))
  rw [List.countP_cons, List.countP_cons]
  rcases List.mem_cons.1 hx with rfl | hx
  ·rw [if_pos hp, if_neg (by rw [hq]; decide)]; omega
  ·have := countP_less l (fun z hz => h z (List.mem_cons_of_mem _ hz)) x hx hp hq
   have hy := h y List.mem_cons_self
   cases hqy : q y with
   | true => rw [if_pos (hy hqy), if_pos rfl]; omega
   | false => rw [if_neg (by decide)]; split <;> omega
def left (n : Nat) (listed : Array Bool) : Nat := (List.range n).countP fun k => !(listed.getD k false)
theorem first_unlisted {listed : Array Bool} (hb : backB ops = true) (hls : listed.size = ops.size) : ∀ (k : Nat), k < ops.size → listed.getD k false = false → Region.ready .any ops listed ≠ [] := by
 intro k
 induction k using Nat.strongRecOn with
 | ind k ih =>
  intro hk hl
  by_cases hex : ∃ j, j < k ∧ listed.getD j false = false
  ·obtain ⟨j, hj, hjl⟩ := hex
   exact ih j hj (by omega) hjl
  ·have ho : ops[k]? = some ops[k] := Array.getElem?_eq_getElem hk
   refine List.ne_nil_of_mem (mem_ready.2 ⟨?_, ops[k], ho, fun e he hbi => ?_⟩)
   ·rw [Array.getD_eq_getD_getElem?, Array.getElem?_eq_getElem (by omega)] at hl ⊢
    simpa using hl
   ·have := back_lt hb ho e he hbi
    cases h : listed.getD e.on false with
    | true => rfl
    | false => exact absurd ⟨e.on, this, h⟩ hex
theorem set_size {l : Array Bool} (i : Nat) : (l.setIfInBounds i true).size = l.size := by simp
theorem getD_set_iff {l : Array Bool} {i k : Nat} (h : (l.setIfInBounds i true).getD k false = true) : k = i ∨ l.getD k false = true := by
 by_cases e : i = k
 ·exact .inl e.symm
 ·rw [getD_set_ne false e] at h
  exact .inr h
/-- the frame behind: what was there, each of them written. -/
def wrote (ops : List Oper) (A a : Act) : Act := ops.foldl (fun acc o => match o.dst with | none => acc | some d => acc.put (some d) (A.eval (.tmp d))) a
theorem wrote_size (A : Act) : ∀ (l : List Oper) (a : Act), (wrote l A a).tmps.size = a.tmps.size
 | [], _ => rfl
 | o :: l, a => by
  show (wrote l A (match o.dst with | none => a | some d => a.put (some d) (A.eval (.tmp d)))).tmps.size = _
  rw [wrote_size A l]
  cases o.dst with
  | none => rfl
  | some d => exact ev_size a d _
theorem wrote_defers (A : Act) : ∀ (l : List Oper) (a : Act), (wrote l A a).defers = a.defers
 | [], _ => rfl
 | o :: l, a => by
  show (wrote l A (match o.dst with | none => a | some d => a.put (some d) (A.eval (.tmp d)))).defers = _
  rw [wrote_defers A l]
  cases o.dst <;> rfl
theorem wrote_at (A : Act) (s : Nat) : ∀ (l : List Oper) (a : Act), s < a.tmps.size → (a.eval (.tmp s) = A.eval (.tmp s) ∨ ∃ o ∈ l, o.dst = some s) → (wrote l A a).eval (.tmp s) = A.eval (.tmp s)
 | [], a, _, h => by
  rcases h with h | ⟨o, ho, _⟩
  ·exact h
  ·cases ho
 | o :: l, a, hs, h => by
  show (wrote l A (match o.dst with | none => a | some d => a.put (some d) (A.eval (.tmp d)))).eval (.tmp s) = _
  cases hd : o.dst with
  | none =>
   refine wrote_at A s l a hs ?_
   rcases h with h | ⟨o', ho', hd'⟩
   ·exact .inl h
   ·rcases List.mem_cons.1 ho' with rfl | hm
    ·rw [hd] at hd'; cases hd'
    ·exact .inr ⟨o', hm, hd'⟩
  | some d =>
   refine wrote_at A s l _ (by rw [ev_size]; exact hs) ?_
   by_cases e : d = s
   ·subst e
    exact .inl (ev_same a d _ hs)
   ·rw [ev_ne a d s _ e]
    rcases h with h | ⟨o', ho', hd'⟩
    ·exact .inl h
    ·rcases List.mem_cons.1 ho' with rfl | hm
     ·rw [hd] at hd'; injection hd' with hd'; exact absurd hd' e
     ·exact .inr ⟨o', hm, hd'⟩
theorem act_ext {A B : Act} (hs : A.tmps.size = B.tmps.size) (hd : A.defers = B.defers) (h : ∀ s, s < B.tmps.size → A.eval (.tmp s) = B.eval (.tmp s)) : A = B := by
 obtain ⟨ta, da⟩ := A
 obtain ⟨tb, db⟩ := B
 simp only at hs hd
 subst hd
 congr 1
 refine Array.ext hs (fun i h1 h2 => ?_)
 have := h i h2
 simpa [Act.eval, Array.getD_eq_getD_getElem?, h1, h2] using this
theorem Held.frame {listed : Array Bool} {A : Act} {u : World} (h : Held ops Φ row0 row a0 w0 listed A u) : A = wrote ops.toList A a0 := by
 refine act_ext (by rw [wrote_size]; exact h.sz) (by rw [wrote_defers]; exact h.defers) (fun s hs => ?_)
 rw [wrote_size] at hs
 refine (wrote_at A s _ _ hs ?_).symm
 cases hn : noDst ops s with
 | true => exact .inl (h.out s hn).symm
 | false =>
  right
  unfold noDst at hn
  have := List.all_eq_false.1 hn
  obtain ⟨o, ho, hne⟩ := this
  exact ⟨o, ho, by simpa using hne⟩
/-- the part that has come up. -/
theorem Held.part {listed : Array Bool} {A : Act} {u : World} (h : Held ops Φ row0 row a0 w0 listed A u) (n : Nat) (hsame : ∀ s, noDst (ops.toList.take n).toArray s = true → A.eval (.tmp s) = a0.eval (.tmp s)) : A = wrote (ops.toList.take n) A a0 := by
 refine act_ext (by rw [wrote_size]; exact h.sz) (by rw [wrote_defers]; exact h.defers) (fun s hs => ?_)
 rw [wrote_size] at hs
 refine (wrote_at A s _ _ hs ?_).symm
 cases hn : noDst (ops.toList.take n).toArray s with
 | true => exact .inl (hsame s hn).symm
 | false =>
  right
  unfold noDst at hn
  have := List.all_eq_false.1 hn
  obtain ⟨o, ho, hne⟩ := this
  exact ⟨o, by simpa using ho, by simpa using hne⟩
def AllIdx {α : Type} (S : Nat → α → Prop) : Nat → List α → Prop
 | _, [] => True
 | k, x :: l => S k x ∧ AllIdx S (k + 1) l
theorem AllIdx.get {α : Type} {S : Nat → α → Prop} : ∀ {k : Nat} {l : List α}, AllIdx S k l → ∀ (j : Nat) (x : α), l[j]? = some x → S (k + j) x
 | _, [], _, j, x, h => by simp at h
 | k, y :: l, hs, 0, x, h => by
  simp only [List.getElem?_cons_zero, Option.some.injEq] at h
  subst h
  exact hs.1
 | k, y :: l, hs, j + 1, x, h => by
  have := AllIdx.get hs.2 j x (by simpa using h)
  rwa [show k + 1 + j = k + (j + 1) by omega] at this
end
end Go.Proofs.YtpbiofnncdneoaaGreatDoor

namespace Go.Proofs.YtpbiofnncdneoaaGreatDoor
open Go Go.RowKit

theorem noRow_one : ∀ (i j : Nat), (fun _ : Nat => (none : Option Nat)) i ≠ none → (fun _ : Nat => (none : Option Nat)) j ≠ none → i = j := fun _ _ h _ => absurd rfl h
section
variable {P : Program} {ops : Array Oper} {Q : Exit → Act → World → Prop} {Φ : Nat → Value → World → Prop} {i : Nat} {o : Oper} {A : Act} {u : World}
theorem dep (h : ∀ e ∈ o.after, Region.binds .any e = true → ∀ o' d', ops[e.on]? = some o' → o'.dst = some d' → Φ e.on (A.eval (.tmp d')) u) (j : Nat) (hj : (o.after.any fun e => e.on == j && Region.binds .any e) = true) (d' : Tmp) (hd : ((ops[j]?).bind (·.dst)) = some d') : Φ j (A.eval (.tmp d')) u := by
 obtain ⟨e, he, hb⟩ := Array.any_eq_true'.1 hj
 obtain ⟨h1, h2⟩ := Bool.and_eq_true _ _ ▸ hb
 have e1 : e.on = j := by simpa using h1
 subst e1
 cases ho : ops[e.on]? with
 | none => rw [ho] at hd; cases hd
 | some o' =>
  rw [ho] at hd
  exact h e he h2 o' d' ho hd
theorem depL {Φs : List (Value → World → Prop)} (h : ∀ e ∈ o.after, Region.binds .any e = true → ∀ o' d', ops[e.on]? = some o' → o'.dst = some d' → Φs.getD e.on (fun _ _ => True) (A.eval (.tmp d')) u) (j : Nat) (hj : (o.after.any fun e => e.on == j && Region.binds .any e) = true) (d' : Tmp) (hd : ((ops[j]?).bind (·.dst)) = some d') : Φs.getD j (fun _ _ => True) (A.eval (.tmp d')) u :=
 dep (Φ := fun k => Φs.getD k (fun _ _ => True)) h j hj d' hd
theorem ifw_none {X Y : Prop} (hg : o.guard = none) (h : X) : if Region.wanted o (yielded ops A.tmps) = true then X else Y := by
 rw [if_pos (by simp [Region.wanted, hg])]; exact h
theorem ifw_want {X Y : Prop} (j : Nat) (b : Bool) (d : Tmp) (hg : o.guard = some (j, b)) (hd : ((ops[j]?).bind (·.dst)) = some d) (hb : A.eval (.tmp d) = .bool b) (h : X) : if Region.wanted o (yielded ops A.tmps) = true then X else Y := by
 rw [if_pos (by simp [Region.wanted, hg, yield_at hd hb])]; exact h
theorem ifw_pass {X Y : Prop} (j : Nat) (b c : Bool) (d : Tmp) (hg : o.guard = some (j, b)) (hd : ((ops[j]?).bind (·.dst)) = some d) (hb : A.eval (.tmp d) = .bool c) (hbc : c ≠ b) (h : Y) : if Region.wanted o (yielded ops A.tmps) = true then X else Y := by
 rw [if_neg (by simp [Region.wanted, hg, yield_at hd hb, hbc])]; exact h
theorem wp_quiet1 {C : World → Prop} {K : Act → World → Prop} (v : Value) (h : o.quietAt P A C u v) (hK : ∀ u', (u' = u ∨ C u') → K (A.put o.dst v) u') : o.wp P A u K Q := by
 unfold Oper.wp
 unfold Oper.quietAt at h
 generalize (execOp A.eval o).run P u = r at *
 cases r with
 | ok n w' =>
  cases n <;> simp only [Oper.quietUpon] at h <;> simp only [Oper.upon]
  case value x =>
   obtain ⟨e1, e2⟩ := h
   rw [e1, e2]
   exact hK _ (.inl rfl)
  case skip =>
   obtain ⟨e1, e2⟩ := h
   rw [e1, ← e2]
   exact hK _ (.inl rfl)
  case enter f args =>
   obtain ⟨e1, h⟩ := h
   rw [e1]
   refine h.mono ?_
   rintro e w'' ⟨rfl, hc⟩
   exact hK _ (.inr hc)
  all_goals exact h.elim
 | halt x w' => simp only [Oper.quietUpon] at h
/-- a value that is the same in every world. -/
theorem shown_q {Ψ : Value → World → Prop} {row : Option Nat} (v : Value) (h : o.quietAt P A (fun u' => u.grownBy u' none) u v) (hΦ : ∀ u', u.grownBy u' none → Ψ v u') : o.wp P A u (fun A' u' => ∃ v, A' = A.put o.dst v ∧ u.grownBy u' row ∧ Ψ v u') Q :=
 wp_quiet1 v h (fun u' hu => by
  have hg : u.grownBy u' none := by
   rcases hu with rfl | hu
   ·exact ⟨rfl, rfl, rfl, Nat.le_refl _, fun _ _ _ => rfl⟩
   ·exact hu
  exact ⟨v, rfl, gsome hg row, hΦ u' hg⟩)
/-- a call whose value hangs on the world. -/
theorem shown_call {Ψ : Value → World → Prop} {row : Option Nat} (f : FuncId) (fn : Func) (hf : P.funcs[f]? = some fn) (hname : (fn.name == "runtime.NumGoroutine") = false) (hbody : fn.body.isNone = false) (xs : Array Operand) (ts : Array TypeId) (ho : o.op = .call { callee := .value (.func f), args := xs, argTypes := ts }) (args : Array Value) (hargs : xs.map A.eval = args) (hc : Calls P f args u fun e w' => ∃ v, e = .returned v ∧ u.grownBy w' none ∧ Ψ v w') : o.wp P A u (fun A' u' => ∃ v, A' = A.put o.dst v ∧ u.grownBy u' row ∧ Ψ v u') Q := by
 have hr : (callFunc f args).run P u = .ok (.enter f args) u := by
  have hpr : (program).run P u = .ok P u := rfl
  unfold callFunc
  rw [Sem.run_bind, hpr]
  simp only [Result.andThen_ok, hf, hname, hbody]
  rfl
 unfold Oper.wp execOp
 simp [ho, resolve, Deferred.ofValue, Act.eval, invoke]
 rw [hargs, hr]
 simp only [Oper.upon]
 refine hc.mono ?_
 rintro e w' ⟨v, rfl, hg, hv⟩
 exact ⟨v, rfl, gsome hg row, hv⟩
theorem quietAt_len {C : World → Prop} (x : Operand) (t : TypeId) (ho : o.op = .call { callee := .builtin .len, args := #[x], argTypes := #[t] }) (a : Option Addr) (n c : Nat) (hx : A.eval x = .slice a n c) (hu : P.underlying t = some (.slice (P.elem t))) : o.quietAt P A C u (.int .i64 n) := by
 unfold Oper.quietAt execOp
 simp [ho, hx, resolve, invoke, builtin, run_len_slice u t o.type a n c hu]
 exact ⟨rfl, rfl⟩
end
end Go.Proofs.YtpbiofnncdneoaaGreatDoor
