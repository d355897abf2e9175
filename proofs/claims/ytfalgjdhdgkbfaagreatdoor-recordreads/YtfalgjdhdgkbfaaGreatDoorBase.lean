/- Worlds, slices of bytes that can be read, rows of bytes that a call owns; append. -/
import Derived.Test.YtfalgjdhdgkbfaaGreatDoorProg
import Derived.Test.YtfalgjdhdgkbfaaGreatDoorFrm
import Derived.WalkKit
import Derived.WalkSpells
import Derived.WalkLawsBesides
import Derived.WalkMore
import Derived.KernelRfl
import Derived.Deep.AppendLies
import Derived.Deep.OwnRows
import Derived.Deep.QuietTactic
import Derived.BigQuiet
import Derived.Laws.NewBlocks
import Derived.Laws.BitsAllLaws
import Derived.Laws.AppendOwnNone
import Derived.Lib.AppendStr
namespace Go.Proofs.YtfalgjdhdgkbfaaGreatDoor
open Go Go.RowKit
open Go.RowKit (wrap32 wrap64)

theorem hid {p : Prop} (h : p) : Hid p := h
theorem gtrans {a b c : World} {row : Option Nat} (h : a.grownBy b row) (k : b.grownBy c row) : a.grownBy c row :=
  ⟨k.os.trans h.os, k.tape.trans h.tape, k.output.trans h.output, Nat.le_trans h.size k.size, fun i hi hr => (k.block i (Nat.lt_of_lt_of_le hi h.size) hr).trans (h.block i hi hr)⟩
theorem grefl (w : World) (row : Option Nat) : w.grownBy w row := ⟨rfl, rfl, rfl, Nat.le_refl _, fun _ _ _ => rfl⟩
theorem gset (w : World) (a : Addr) (u : Value) : w.grownBy (w.setCell a u) (some a.block) :=
  ⟨rfl, rfl, rfl, by simp [World.setCell], fun k _ hk => Below.heap_setCell _ _ _ _ (fun e => hk (by rw [e]))⟩
theorem gdrew (w : World) (n : Nat) (row : Option Nat) : w.grownBy (w.drewN n) row := ⟨rfl, rfl, rfl, Nat.le_refl _, fun _ _ _ => rfl⟩
theorem gbelow {w w' : World} (h : w.grownBy w' none) : Below w.heap.size w w' := ⟨h.os, h.tape, h.output, h.size, fun k hk => h.block k hk (by simp)⟩
theorem gof {w w' : World} (h : Below w.heap.size w w') (row : Option Nat) : w.grownBy w' row := ⟨h.os, h.tape, h.output, h.size, fun k hk _ => h.block k hk⟩
theorem galloc (w : World) (o : Obj) (row : Option Nat) : w.grownBy (w.alloc o) row := World.grownBy_alloc w o row
theorem gsome {a b : World} (h : a.grownBy b none) (row : Option Nat) : a.grownBy b row := ⟨h.os, h.tape, h.output, h.size, fun k hk _ => h.block k hk (by simp)⟩
theorem heap_new (w : World) (cs : Array Value) (t : TypeId) : (w.alloc (.cells cs t)).heap[w.heap.size]? = some (.cells cs t (0, 0)) := by
  show (w.heap.push _)[w.heap.size]? = _
  simp
theorem heap_at {w u : World} {k : Nat} {x : Obj} {row : Option Nat} (hg : w.grownBy u row) (hr : row ≠ some k) (h : w.heap[k]? = some x) : u.heap[k]? = some x :=
  (hg.block _ (Array.getElem?_eq_some_iff.1 h).1 (fun e => hr e.symm)).trans h
theorem cell_at {w u : World} {row : Option Nat} (hg : w.grownBy u row) {b o : Nat} (hb : b < w.heap.size) (hr : row ≠ some b) : u.cell? ⟨b, o, none⟩ = w.cell? ⟨b, o, none⟩ := by
  have := hg.block b hb (fun e => hr e.symm)
  simp only [World.cell?, this]
theorem u8_bd (x : UInt8) : 0 ≤ (x.toNat : Int) ∧ (x.toNat : Int) < 256 := by have := x.toNat_lt; omega
theorem ret_int {k : IntKind} {a b : Int} (h : a = b) : Ending.returned (.int k a) = .returned (.int k b) := by rw [h]

/-- A slice of bytes that reads as l, in a block of F. -/
def Rd (w : World) (F : Nat → Prop) (v : Value) (l : List UInt8) : Prop :=
  ∃ (a : Option Addr) (b off c : Nat), v = .slice a l.length c ∧ l.length ≤ c ∧ (a = none → c = 0) ∧ (0 < l.length → a = some ⟨b, off, none⟩ ∧ b < w.heap.size ∧ F b) ∧ ∀ i (h : i < l.length), w.cell? ⟨b, off + i, none⟩ = some (.int .u8 l[i].toNat)
theorem Rd.on {w w' : World} {F : Nat → Prop} {v : Value} {l : List UInt8} {row : Option Nat} (h : Rd w F v l) (hg : w.grownBy w' row) (hr : ∀ k, row = some k → ¬ F k) : Rd w' F v l := by
  obtain ⟨a, b, off, c, hv, hc, hn, ha, hcell⟩ := h
  refine ⟨a, b, off, c, hv, hc, hn, fun hl => ⟨(ha hl).1, Nat.lt_of_lt_of_le (ha hl).2.1 hg.size, (ha hl).2.2⟩, fun i hi => ?_⟩
  rw [cell_at hg (ha (by omega)).2.1 (fun e => hr _ e (ha (by omega)).2.2)]
  exact hcell i hi
theorem Rd.keep {w w' : World} {F : Nat → Prop} {v : Value} {l : List UInt8} (h : Rd w F v l) (hg : w.grownBy w' none) : Rd w' F v l := h.on hg (fun k hk => by cases hk)
theorem Rd.mono {w : World} {F G : Nat → Prop} {v : Value} {l : List UInt8} (h : Rd w F v l) (hf : ∀ k, k < w.heap.size → F k → G k) : Rd w G v l := by
  obtain ⟨a, b, off, c, hv, hc, hn, ha, hcell⟩ := h
  exact ⟨a, b, off, c, hv, hc, hn, fun hl => ⟨(ha hl).1, (ha hl).2.1, hf _ (ha hl).2.1 (ha hl).2.2⟩, hcell⟩
theorem Rd.nil (w : World) (F : Nat → Prop) : Rd w F (.slice none 0 0) [] :=
  ⟨none, 0, 0, 0, rfl, Nat.le_refl _, fun _ => rfl, fun h => by simp at h, fun i h => by simp at h⟩

theorem Tryz.info5 : (Tryz.prog.info? 5).map (fun i => (i.zero, i.size, i.bytes)) = some (some (.int .u8 0), 1, 1) := by kernel_rfl
/-- Bytes that the call owns, from block B on. -/
def Out (B : Nat) (w : World) (v : Value) (acc : List UInt8) : Prop := w.ownsRow B 5 1 v acc.length (Lib.byteCells acc)
theorem Out.on {B : Nat} {w w' : World} {v : Value} {acc : List UInt8} {row : Option Nat} (h : Out B w v acc) (hg : w.grownBy w' row) (hr : ∀ k, row = some k → v.ownBlock ≠ some k) : Out B w' v acc := by
  refine World.ownsRow.kept h hg ?_
  cases hv : v.ownBlock with
  | none => exact .inl rfl
  | some g => exact .inr (fun e => hr g e.symm hv)
theorem Out.keep {B : Nat} {w w' : World} {v : Value} {acc : List UInt8} (h : Out B w v acc) (hg : w.grownBy w' none) : Out B w' v acc := h.on hg (fun k hk => by cases hk)
theorem Out.block {B : Nat} {w : World} {v : Value} {l : List UInt8} (h : Out B w v l) : ∀ j, v.ownBlock = some j → B ≤ j := by
  intro j hj
  rcases h.2 with ⟨rfl, _⟩ | ⟨g, cap, cur, rfl, hb, _⟩
  · simp [Value.ownBlock] at hj
  · simp [Value.ownBlock] at hj
    omega
theorem Out.below {B C : Nat} {w : World} {v : Value} {l : List UInt8} (h : Out B w v l) (hC : C ≤ B) : Out C w v l := by
  refine ⟨h.1, ?_⟩
  rcases h.2 with h0 | ⟨g, cap, cur, e, hb, r⟩
  · exact .inl h0
  · exact .inr ⟨g, cap, cur, e, by omega, r⟩
theorem Out.rd {B : Nat} {w : World} {v : Value} {l : List UInt8} (h : Out B w v l) : Rd w (fun g => B ≤ g) v l := by
  rcases h.2 with ⟨rfl, h0⟩ | ⟨g, cap, cur, rfl, hb, hg, hle, hm, hs, ht⟩
  · have : l = [] := List.eq_nil_of_length_eq_zero h0
    subst this
    exact Rd.nil _ _
  · refine ⟨some ⟨g, 0, none⟩, g, 0, cap, rfl, hle, (fun h => by cases h), fun _ => ⟨rfl, (h.lt g rfl).2, hb⟩, fun i hi => ?_⟩
    have := h.cells (g := g) rfl i (.int .u8 l[i].toNat) (by simp [Lib.byteCells, List.getElem?_eq_getElem hi])
    rw [Addr.add_lit] at this
    exact this
theorem byteCells_append (a b : List UInt8) : Lib.byteCells (a ++ b) = Lib.byteCells a ++ Lib.byteCells b := by simp [Lib.byteCells]
theorem byteCells_length (a : List UInt8) : (Lib.byteCells a).length = a.length := by simp [Lib.byteCells]
theorem Out.more {B : Nat} {w : World} {v : Value} {acc bs : List UInt8} {n : Nat} {xs : List Value} (h : w.ownsRow B 5 1 v n xs) (hn : n = acc.length + bs.length) (hx : xs = Lib.byteCells acc ++ Lib.byteCells bs) : Out B w v (acc ++ bs) := by
  unfold Out
  rw [byteCells_append, List.length_append, ← hn, ← hx]
  exact h
theorem Out.nil (B : Nat) (w : World) : Out B w (.slice none 0 0) [] := World.ownsRow_nil _ _ _ _

set_option maxRecDepth 100000 in
/-- append of bytes that can be read onto a row of the call's own. -/
theorem wpList_append_rd {w : World} {ops : Array Oper} {rest : List Oper} {o : Oper} {a : Act} {Q : Exit → Act → World → Prop} (hgd : o.guard = none) (s x : Operand)
    (ho : o.op = .call { callee := .builtin .append, args := #[s, x], argTypes := #[28, 28] })
    (B : Nat) (F : Nat → Prop) (acc l : List UInt8) (hown : Out B w (a.eval s) acc) (hx : Rd w F (a.eval x) l) (hn : acc.length + l.length ≤ 35184372088832) (hB : B ≤ w.heap.size)
    (h : ∀ v' w', Out B w' v' (acc ++ l) → w.grownBy w' (a.eval s).ownBlock → (a.eval s ≠ .slice none 0 0 → v' ≠ .slice none 0 0) → wpList Tryz.prog ops Q rest (a.put o.dst v') w') : wpList Tryz.prog ops Q (o :: rest) a w := by
  obtain ⟨inf, hi, hz0, hz1, hz2⟩ := info_parts Tryz.info5
  obtain ⟨p, b, off, c, e, hc, hnn, ha, hcell⟩ := hx
  cases p with
  | none =>
    have c0 := hnn rfl
    have hl : l = [] := List.eq_nil_of_length_eq_zero (by omega)
    subst hl
    subst c0
    refine wpList_append_own_none hgd s x 28 ho B 5 inf 1 Tryz.underlying28 hi _ _ _ rfl hown e ?_
    exact h _ w (by rw [List.append_nil]; exact hown) (World.grownBy.refl _ _) (fun h => h)
  | some q =>
    refine wpList_append_own w hgd s x 28 ho B 5 inf (.int .u8 0) 1 1 Tryz.underlying28 hi hz0 hz1 hz2 rfl (by decide) _ _ _ rfl hown q l.length c (Lib.byteCells l) e (by simp [Lib.byteCells]) ?_ ?_ (by unfold maxLen; omega) (by omega) hB ?_
    · intro j u hu
      have hj : j < l.length := by have := (List.getElem?_eq_some_iff.1 hu).1; simpa [Lib.byteCells] using this
      have hq := (ha (by omega)).1
      injection hq with hq
      rw [hq, Addr.add_lit, hcell j hj, ← hu]
      simp [Lib.byteCells, List.getElem?_eq_getElem hj]
    · intro u hu
      unfold Lib.byteCells at hu
      obtain ⟨_, _, rfl⟩ := List.mem_map.1 hu
      rfl
    · intro v' w' h1 h2 h3
      exact h v' w' (Out.more h1 rfl rfl) h2 (fun hv e => hv (h3.1 e).1)
/-- append of one byte. -/
theorem wpList_append_byte {w : World} {ops : Array Oper} {rest : List Oper} {o : Oper} {a : Act} {Q : Exit → Act → World → Prop} (hgd : o.guard = none) (s x : Operand)
    (ho : o.op = .call { callee := .builtin .append, args := #[s, x], argTypes := #[28, 28] })
    (B L : Nat) (acc : List UInt8) (c : UInt8) (hown : Out B w (a.eval s) acc) (hx : a.eval x = .slice (some ⟨L, 0, none⟩) 1 1) (hL : w.heap[L]? = some (.cells #[.int .u8 c.toNat] 5 (0, 0))) (hn : acc.length + 1 ≤ 35184372088832) (hB : B ≤ w.heap.size)
    (h : ∀ v' w', Out B w' v' (acc ++ [c]) → w.grownBy w' (a.eval s).ownBlock → wpList Tryz.prog ops Q rest (a.put o.dst v') w') : wpList Tryz.prog ops Q (o :: rest) a w := by
  refine wpList_append_rd hgd s x ho B (fun _ => True) acc [c] hown ?_ hn hB (fun v' w' h1 h2 _ => h v' w' h1 h2)
  rw [hx]
  refine ⟨some ⟨L, 0, none⟩, L, 0, 1, rfl, Nat.le_refl _, (fun h => by cases h), fun _ => ⟨rfl, (Array.getElem?_eq_some_iff.1 hL).1, trivial⟩, fun i hi => ?_⟩
  have : i = 0 := by simp at hi; exact hi
  subst this
  simp [World.cell?, hL]
theorem litL (w : World) (c : Value) : (w.alloc (.cells #[c] 5)).heap[w.heap.size]? = some (.cells #[c] 5 (0, 0)) := heap_new w _ _

/-- The table that the program's text lays. -/
def Tab (w : World) : Prop := 0 < w.heap.size ∧ ∀ i, i < 16 → w.cell? ⟨0, i, none⟩ = some (.int .u32 (tb i))
theorem Tab.on {w w' : World} {row : Option Nat} (h : Tab w) (hg : w.grownBy w' row) (hr : row ≠ some 0) : Tab w' :=
  ⟨Nat.lt_of_lt_of_le h.1 hg.size, fun i hi => by rw [cell_at hg h.1 hr]; exact h.2 i hi⟩
theorem Tab.keep {w w' : World} (h : Tab w) (hg : w.grownBy w' none) : Tab w' := h.on hg (by simp)
end Go.Proofs.YtfalgjdhdgkbfaaGreatDoor
