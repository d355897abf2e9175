/- What Radix' texts of the law's book stand on, in a namespace of its own. -/
import Derived.Test.YtpbiofnncdneoaaGreatDoorX07
import Derived.Deep.OwnRows
import Derived.Laws.IdiomStrings
namespace Go.Proofs.YtpbiofnncdneoaaGreatDoor.Bk
open Go Go.RowKit
open Go.RowKit (wrap32 wrap64)

/-- Bytes as cells. -/
def cb (l : List UInt8) : List Value := l.map fun b => Value.int .u8 (b.toNat : Int)
theorem cb_append (l m : List UInt8) : cb (l ++ m) = cb l ++ cb m := by simp [cb]
theorem cb_length (l : List UInt8) : (cb l).length = l.length := by simp [cb]
theorem news_new (w : World) (cs : Array Value) (t : TypeId) : ∀ j u, cs.toList[j]? = some u → (w.alloc (.cells cs t)).cell? ((⟨w.heap.size, 0, none⟩ : Addr).add j) = some u :=
 World.news_of_block (B := w.heap.size) (cs := cs) (t := t) (fr := (0, 0)) (by show (w.heap.push _)[w.heap.size]? = _; simp)
/-- Bytes that a slice leads to, as a string. -/
theorem convert_sl (l : List UInt8) (a : Option Addr) (b off c : Nat) (w : World) (ha : 0 < l.length → a = some ⟨b, off, none⟩)
  (hcell : ∀ i (h : i < l.length), w.cell? ⟨b, off + i, none⟩ = some (.int .u8 l[i].toNat)) : (convert 74 9 (.slice a l.length c)).run Tryz.prog w = .ok (.string ⟨l.toArray⟩) w := by
 by_cases hl : 0 < l.length
 ·rw [ha hl]
  have := run_convert_bytes_arg w 74 5 Tryz.underlying74 Tryz.underlying5 b off l.length c (l.map fun b => (b.toNat : Int)) (by simp) (fun i hi => by
   simp [hcell i hi, List.getD, List.getElem?_eq_getElem hi]) 9 Tryz.underlying9
  rw [this]
  have e : strOfNums (l.map fun b => (b.toNat : Int)) = ⟨l.toArray⟩ := by
   unfold strOfNums
   rw [List.map_map, show l.map ((fun n : Int => UInt8.ofNat n.toNat) ∘ fun b : UInt8 => (b.toNat : Int)) = l.map id from List.map_congr_left fun x _ => by simp, List.map_id]
  rw [e]
 ·have : l = [] := by cases l with | nil => rfl | cons _ _ => simp at hl
  subst this
  rcases a with _ | ⟨b', o', sp⟩
  ·exact run_convert_bytes_nil w 74 5 Tryz.underlying74 Tryz.underlying5 0 c 9 Tryz.underlying9
  ·rw [run_convert_bytes_string w 74 9 5 _ _ _ Tryz.underlying74 Tryz.underlying5 Tryz.underlying9]
   have hl := run_loadCells_list (P := Tryz.prog) w ⟨b', o', sp⟩ [] (fun j v hj => by simp at hj)
   have := run_bytesToString (P := Tryz.prog) w ⟨b', o', sp⟩ 0 c [] (by simpa using hl)
   exact this
theorem Below.step {w w1 w2 : World} (h : Below w.heap.size w w1) (h' : Below w1.heap.size w1 w2) : Below w.heap.size w w2 := h.trans (h'.mono h.size)
/-- A slice of bytes that reads as l. -/
def Rd (w : World) (v : Value) (l : List UInt8) : Prop :=
 ∃ (a : Option Addr) (b off c : Nat), v = .slice a l.length c ∧ l.length ≤ c ∧ (a = none → c = 0) ∧ (0 < l.length → a = some ⟨b, off, none⟩ ∧ b < w.heap.size) ∧ ∀ i (h : i < l.length), w.cell? ⟨b, off + i, none⟩ = some (.int .u8 l[i].toNat)
theorem Rd.below {w w' : World} {v : Value} {l : List UInt8} (h : Rd w v l) (hb : Below w.heap.size w w') : Rd w' v l := by
 obtain ⟨a, b, off, c, hv, hc, hn, ha, hcell⟩ := h
 refine ⟨a, b, off, c, hv, hc, hn, fun hl => ⟨(ha hl).1, Nat.lt_of_lt_of_le (ha hl).2 hb.size⟩, fun i hi => ?_⟩
 rw [hb.cell (p := ⟨b, off + i, none⟩) (ha (by omega)).2]
 exact hcell i hi
theorem Rd.convert {w : World} {v : Value} {l : List UInt8} (h : Rd w v l) : (convert 74 9 v).run Tryz.prog w = .ok (.string ⟨l.toArray⟩) w := by
 obtain ⟨a, b, off, c, rfl, hc, _, ha, hcell⟩ := h
 exact convert_sl l a b off c w (fun hl => (ha hl).1) hcell
theorem Rd.own {w : World} {B n : Nat} {v : Value} {l : List UInt8} (hown : w.ownsRow B 5 1 v n (cb l)) : Rd w v l := by
 have hn : l.length = n := by have := hown.1; rw [cb_length] at this; omega
 rcases hown.2 with ⟨rfl, h0⟩ | ⟨g, cap, cur, rfl, hb, hg, hle, hm, hs, ht⟩
 ·have : l = [] := by cases l with | nil => rfl | cons _ _ => simp at hn; omega
  subst this
  exact ⟨none, 0, 0, 0, rfl, Nat.le_refl _, fun _ => rfl, fun h => by simp at h, fun i h => by simp at h⟩
 ·refine ⟨some ⟨g, 0, none⟩, g, 0, cap, by rw [hn], by omega, (fun h => by cases h), fun _ => ⟨rfl, (hown.lt g rfl).2⟩, fun i hi => ?_⟩
  have := hown.cells (g := g) rfl i (.int .u8 (l[i]'(by omega)).toNat) (by simp [cb, List.getElem?_eq_getElem (show i < l.length by omega)])
  rw [Addr.add_lit] at this
  exact this
theorem Rd.drewN {w : World} {v : Value} {l : List UInt8} (h : Rd w v l) (n : Nat) : Rd (w.drewN n) v l := h
theorem Rd.take {w : World} {a : Option Addr} {n c : Nat} {l : List UInt8} (h : Rd w (.slice a n c) l) (m : Nat) (hm : m ≤ l.length) : Rd w (.slice a m c) (l.take m) := by
 obtain ⟨a', b, off, c', hv, hc, hn, ha, hcell⟩ := h
 simp only [Value.slice.injEq] at hv
 obtain ⟨rfl, rfl, rfl⟩ := hv
 refine ⟨a, b, off, c, by rw [List.length_take, Nat.min_eq_left hm], by rw [List.length_take]; omega, hn, fun h => ha (by rw [List.length_take] at h; omega), fun i hi => ?_⟩
 rw [List.length_take] at hi
 rw [hcell i (by omega)]
 simp
/-- append of bytes that can be read onto a row that the call owns. -/
theorem wpList_append_rd {w : World} {ops : Array Oper} {rest : List Oper} {o : Oper} {a : Act} {Q : Exit → Act → World → Prop} (hgd : o.guard = none) (s x : Operand)
  (ho : o.op = .call { callee := .builtin .append, args := #[s, x], argTypes := #[74, 74] })
  (B : Nat) (v : Value) (n : Nat) (xs : List Value) (hs : a.eval s = v) (hown : w.ownsRow B 5 1 v n xs) (l : List UInt8) (hx : Rd w (a.eval x) l) (hn : n + l.length ≤ 1099511627776) (hB : B ≤ w.heap.size)
  (h : ∀ v' w', w'.ownsRow B 5 1 v' (n + l.length) (xs ++ cb l) → w.grownBy w' v.ownBlock → wpList Tryz.prog ops Q rest (a.put o.dst v') w') : wpList Tryz.prog ops Q (o :: rest) a w := by
 obtain ⟨inf, hi, hz0, hz1, hz2⟩ := info_parts Tryz.info5
 obtain ⟨ad, b, off, c, hv, hc, hnn, ha, hcell⟩ := hx
 cases ad with
 | none =>
  have hc0 := hnn rfl
  have hl : l = [] := by
   cases l with
   | nil => rfl
   | cons _ _ => have := (ha (by simp)).1; cases this
  subst hl
  subst hc0
  refine wpList_append_own_none hgd s x 74 ho B 5 inf 1 Tryz.underlying74 hi v n xs hs hown hv ?_
  exact h v w (by simpa [cb] using hown) (World.grownBy.refl _ _)
 | some ad =>
  refine wpList_append_own w hgd s x 74 ho B 5 inf (.int .u8 0) 1 1 Tryz.underlying74 hi hz0 hz1 hz2 rfl (by decide) v n xs hs hown ad l.length c (cb l) hv (by rw [cb_length]; omega) ?_ ?_ (by unfold maxLen; omega) (by omega) hB ?_
  ·intro j u hu
   have hj : j < l.length := by have := (List.getElem?_eq_some_iff.1 hu).1; rwa [cb_length] at this
   have e1 : ad = ⟨b, off, none⟩ := Option.some.inj (ha (by omega)).1
   rw [e1, Addr.add_lit, hcell j hj]
   rw [← hu]
   simp [cb, List.getElem?_eq_getElem hj]
  ·intro u hu
   unfold cb at hu
   obtain ⟨_, _, rfl⟩ := List.mem_map.1 hu
   rfl
  ·intro v' w' h1 h2 _
   exact h v' w' h1 h2
theorem Below.drewN' (w : World) (m : Nat) : Below w.heap.size w (w.drewN m) := ⟨rfl, rfl, rfl, Nat.le_refl _, fun _ _ => rfl⟩
end Go.Proofs.YtpbiofnncdneoaaGreatDoor.Bk

namespace Go.Proofs.YtpbiofnncdneoaaGreatDoor.Bk
open Go Go.RowKit
open Go.RowKit (wrap32 wrap64)

/-- Byte k of the mark of list m. -/
def mark (m k : Nat) : UInt8 := if k % 2 = 0 then UInt8.ofNat (1 + m % 251) else UInt8.ofNat (1 + (7 * m + m / 251) % 251)
def markL (m n : Nat) : List UInt8 := (List.range n).map (mark m)

theorem markL_length (m n : Nat) : (markL m n).length = n := by simp [markL]
theorem markL_succ (m n : Nat) : markL m (n + 1) = markL m n ++ [mark m n] := by simp [markL, List.range_succ]

set_option maxRecDepth 100000 in
set_option maxHeartbeats 400000 in
theorem at_any (m k : Nat) (w : World) (hm : m ≤ 1099511627776) (hk : k ≤ 1099511627776) :
  Calls Tryz.prog 66 #[.int .i64 m, .int .i64 k] w fun e w' => e = .returned (.int .u8 (mark m k).toNat) ∧ w' = w := by
 by_cases h : k % 2 = 0
 ·have e : ((mark m k).toNat : Int) = 1 + (m : Int) % 251 := by
   unfold mark
   rw [if_pos h, UInt8.toNat_ofNat']
   omega
  have h' : (k : Int) % 2 = 0 := by omega
  rw [e]
  clear e h
  go_enter Tryz.func66, Tryz.ntmps66
  go_wp2
  go_ret
  exact ⟨rfl, rfl⟩
 ·have e : ((mark m k).toNat : Int) = 1 + (7 * (m : Int) + (m : Int) / 251) % 251 := by
   unfold mark
   rw [if_neg h, UInt8.toNat_ofNat']
   obtain ⟨q, hq⟩ : ∃ q, q = 7 * m + m / 251 := ⟨_, rfl⟩
   have hq2 : 7 * (m : Int) + (m : Int) / 251 = (q : Int) := by omega
   rw [← hq, hq2]
   omega
  have h' : ((k : Int) % 2 == 0) = false := beq_eq_false_iff_ne.2 (by omega)
  rw [e]
  clear e h
  go_enter Tryz.func66, Tryz.ntmps66
  go_wp2
  go_ret
  exact ⟨rfl, rfl⟩

/-- What the book's cells hold where it keeps lists of bytes alone. -/
def bkF (v0 v1 : Value) (A T D U : Int) (i : Nat) : Value :=
 if i = 0 then v0 else if i = 1 then v1 else if i = 2 then .int .i64 A else if i = 72 then .int .i64 T else if i = 73 then .int .i64 D else if i = 74 then .int .i64 U
 else if i % 3 = 2 then .int .i64 0 else .slice none 0 0

def Bkc (w : World) (bk : Nat) (v0 v1 : Value) (A T D U : Int) : Prop := w.rowIs bk 63 75 (bkF v0 v1 A T D U)

/-- All blocks but one are as they were. -/
structure But (w w' : World) (bk : Nat) : Prop where
 os : w'.os = w.os
 tape : w'.tape = w.tape
 output : w'.output = w.output
 size : w'.heap.size = w.heap.size
 block : ∀ k, k ≠ bk → w'.heap[k]? = w.heap[k]?

theorem But.refl (w : World) (bk : Nat) : But w w bk := ⟨rfl, rfl, rfl, rfl, fun _ _ => rfl⟩
theorem But.trans {a b c : World} {bk : Nat} (h : But a b bk) (k : But b c bk) : But a c bk :=
 ⟨k.os.trans h.os, k.tape.trans h.tape, k.output.trans h.output, k.size.trans h.size, fun i hi => (k.block i hi).trans (h.block i hi)⟩
theorem But.setCell (w : World) (bk i : Nat) (u : Value) : But w (w.setCell ⟨bk, i, none⟩ u) bk :=
 ⟨rfl, rfl, rfl, by simp [World.setCell], fun k hk => Below.heap_setCell _ _ _ _ hk⟩
theorem But.drewN (w : World) (bk n : Nat) : But w (w.drewN n) bk := ⟨rfl, rfl, rfl, rfl, fun _ _ => rfl⟩

theorem bkF_T (v0 v1 : Value) (A T D U T' : Int) (i : Nat) : (if i = 72 then Value.int .i64 T' else bkF v0 v1 A T D U i) = bkF v0 v1 A T' D U i := by
 unfold bkF
 by_cases h : i = 72
 ·subst h; rfl
 ·simp [h]
theorem bkF_D (v0 v1 : Value) (A T D U D' : Int) (i : Nat) : (if i = 73 then Value.int .i64 D' else bkF v0 v1 A T D U i) = bkF v0 v1 A T D' U i := by
 unfold bkF
 by_cases h : i = 73
 ·subst h; rfl
 ·simp [h]
theorem bkF_U (v0 v1 : Value) (A T D U U' : Int) (i : Nat) : (if i = 74 then Value.int .i64 U' else bkF v0 v1 A T D U i) = bkF v0 v1 A T D U' i := by
 unfold bkF
 by_cases h : i = 74
 ·subst h; rfl
 ·simp [h]
theorem bkF_A (v0 v1 : Value) (A T D U A' : Int) (i : Nat) : (if i = 2 then Value.int .i64 A' else bkF v0 v1 A T D U i) = bkF v0 v1 A' T D U i := by
 unfold bkF
 by_cases h : i = 2
 ·subst h; rfl
 ·simp [h]
theorem bkF_0 (v0 v1 : Value) (A T D U : Int) (v' : Value) (i : Nat) : (if i = 0 then v' else bkF v0 v1 A T D U i) = bkF v' v1 A T D U i := by
 unfold bkF
 by_cases h : i = 0
 ·subst h; rfl
 ·simp [h]
theorem bkF_1 (v0 v1 : Value) (A T D U : Int) (v' : Value) (i : Nat) : (if i = 1 then v' else bkF v0 v1 A T D U i) = bkF v0 v' A T D U i := by
 unfold bkF
 by_cases h : i = 1
 ·subst h; rfl
 ·simp [h]

set_option maxRecDepth 100000 in
set_option maxHeartbeats 400000 in
theorem tight_any (w : World) (bk : Nat) (v0 v1 : Value) (A T D U n : Int) (h : Bkc w bk v0 v1 A T D U) (hU0 : 0 ≤ U) (hU1 : U ≤ 16777216) (hn0 : 0 ≤ n) (hn1 : n ≤ 1099511627776) :
  Calls Tryz.prog 67 #[.pointer (some ⟨bk, 0, none⟩), .int .i64 n] w fun e w' => (e = .returned (.bool true) ∧ w' = w) ∨ (e = .returned (.bool false) ∧ Hid (U + n ≤ 16777216) ∧ Bkc w' bk v0 v1 A T D (U + n) ∧ But w w' bk) := by
 have hc := h.cell (i := 74) (by decide)
 have hc' : w.cell? ⟨bk, 74, none⟩ = some (.int .i64 U) := hc
 have hf := h.frozen 74
 have hlt := h.lt
 have H := hid h
 clear hc h
 by_cases hb : 16777216 < U + n
 ·go_enter Tryz.func67, Tryz.ntmps67
  go_wp2
  go_ret
  exact .inl ⟨rfl, rfl⟩
 ·have hb' : U + n ≤ 16777216 := by omega
  go_enter Tryz.func67, Tryz.ntmps67
  go_wp2
  go_ret
  exact .inr ⟨rfl, hid trivial, (H.out.set 74 _).congr (fun i _ => bkF_U v0 v1 A T D U (U + n) i), But.setCell _ _ _ _⟩
end Go.Proofs.YtpbiofnncdneoaaGreatDoor.Bk

namespace Go.Proofs.YtpbiofnncdneoaaGreatDoor.Bk
open Go Go.RowKit
open Go.RowKit (wrap32 wrap64)

theorem bkF_at (v0 v1 : Value) (A T D U : Int) (o : Nat) (u : Value) (hu : bkF v0 v1 A T D U o = u) (i : Nat) : (if i = o then u else bkF v0 v1 A T D U i) = bkF v0 v1 A T D U i := by
 by_cases h : i = o
 ·rw [if_pos h, h, hu]
 ·rw [if_neg h]

set_option maxRecDepth 100000 in
set_option maxHeartbeats 400000 in
theorem grow76_any (w : World) (bk : Nat) (v0 v1 : Value) (A T D U : Int) (h : Bkc w bk v0 v1 A T D U) :
  Calls Tryz.prog 76 #[.pointer (some ⟨bk, 0, none⟩)] w fun e w' => e = .returned (.tuple #[]) ∧ Bkc w' bk v0 v1 A T D U ∧ But w w' bk := by
 have hc : w.cell? ⟨bk, 3, none⟩ = some (.slice none 0 0) := h.cell (i := 3) (by decide)
 have hc2 : w.cell? ⟨bk, 5, none⟩ = some (.int .i64 0) := h.cell (i := 5) (by decide)
 have hf := h.frozen 5
 have hlt := h.lt
 have H := hid h
 clear h
 go_enter Tryz.func76, Tryz.ntmps76
 go_wp2
 go_loop [3] (fun kv => kv = .int .i64 0) (fun _ => 0)
 case atStart => rfl
 case round =>
  subst hrel
  go_wp2
  go_end0
  exact ⟨rfl, (H.out.set 5 _).congr (fun i _ => bkF_at v0 v1 A T D U 5 _ rfl i), But.setCell _ _ _ _⟩

set_option maxRecDepth 100000 in
set_option maxHeartbeats 400000 in
theorem grow77_any (w : World) (bk : Nat) (v0 v1 : Value) (A T D U : Int) (h : Bkc w bk v0 v1 A T D U) :
  Calls Tryz.prog 77 #[.pointer (some ⟨bk, 0, none⟩)] w fun e w' => e = .returned (.tuple #[]) ∧ Bkc w' bk v0 v1 A T D U ∧ But w w' bk := by
 have hc : w.cell? ⟨bk, 6, none⟩ = some (.slice none 0 0) := h.cell (i := 6) (by decide)
 have hc2 : w.cell? ⟨bk, 8, none⟩ = some (.int .i64 0) := h.cell (i := 8) (by decide)
 have hf := h.frozen 8
 have hlt := h.lt
 have H := hid h
 clear h
 go_enter Tryz.func77, Tryz.ntmps77
 go_wp2
 go_loop [3] (fun kv => kv = .int .i64 0) (fun _ => 0)
 case atStart => rfl
 case round =>
  subst hrel
  go_wp2
  go_end0
  exact ⟨rfl, (H.out.set 8 _).congr (fun i _ => bkF_at v0 v1 A T D U 8 _ rfl i), But.setCell _ _ _ _⟩

set_option maxRecDepth 100000 in
set_option maxHeartbeats 400000 in
theorem grow78_any (w : World) (bk : Nat) (v0 v1 : Value) (A T D U : Int) (h : Bkc w bk v0 v1 A T D U) :
  Calls Tryz.prog 78 #[.pointer (some ⟨bk, 0, none⟩)] w fun e w' => e = .returned (.tuple #[]) ∧ Bkc w' bk v0 v1 A T D U ∧ But w w' bk := by
 have hc : w.cell? ⟨bk, 9, none⟩ = some (.slice none 0 0) := h.cell (i := 9) (by decide)
 have hc2 : w.cell? ⟨bk, 11, none⟩ = some (.int .i64 0) := h.cell (i := 11) (by decide)
 have hf := h.frozen 11
 have hlt := h.lt
 have H := hid h
 clear h
 go_enter Tryz.func78, Tryz.ntmps78
 go_wp2
 go_loop [3] (fun kv => kv = .int .i64 0) (fun _ => 0)
 case atStart => rfl
 case round =>
  subst hrel
  go_wp2
  go_end0
  exact ⟨rfl, (H.out.set 11 _).congr (fun i _ => bkF_at v0 v1 A T D U 11 _ rfl i), But.setCell _ _ _ _⟩

set_option maxRecDepth 100000 in
set_option maxHeartbeats 400000 in
theorem grow79_any (w : World) (bk : Nat) (v0 v1 : Value) (A T D U : Int) (h : Bkc w bk v0 v1 A T D U) :
  Calls Tryz.prog 79 #[.pointer (some ⟨bk, 0, none⟩)] w fun e w' => e = .returned (.tuple #[]) ∧ Bkc w' bk v0 v1 A T D U ∧ But w w' bk := by
 have hc : w.cell? ⟨bk, 12, none⟩ = some (.slice none 0 0) := h.cell (i := 12) (by decide)
 have hc2 : w.cell? ⟨bk, 14, none⟩ = some (.int .i64 0) := h.cell (i := 14) (by decide)
 have hf := h.frozen 14
 have hlt := h.lt
 have H := hid h
 clear h
 go_enter Tryz.func79, Tryz.ntmps79
 go_wp2
 go_loop [3] (fun kv => kv = .int .i64 0) (fun _ => 0)
 case atStart => rfl
 case round =>
  subst hrel
  go_wp2
  go_end0
  exact ⟨rfl, (H.out.set 14 _).congr (fun i _ => bkF_at v0 v1 A T D U 14 _ rfl i), But.setCell _ _ _ _⟩

set_option maxRecDepth 100000 in
set_option maxHeartbeats 400000 in
theorem grow80_any (w : World) (bk : Nat) (v0 v1 : Value) (A T D U : Int) (h : Bkc w bk v0 v1 A T D U) :
  Calls Tryz.prog 80 #[.pointer (some ⟨bk, 0, none⟩)] w fun e w' => e = .returned (.tuple #[]) ∧ Bkc w' bk v0 v1 A T D U ∧ But w w' bk := by
 have hc : w.cell? ⟨bk, 15, none⟩ = some (.slice none 0 0) := h.cell (i := 15) (by decide)
 have hc2 : w.cell? ⟨bk, 17, none⟩ = some (.int .i64 0) := h.cell (i := 17) (by decide)
 have hf := h.frozen 17
 have hlt := h.lt
 have H := hid h
 clear h
 go_enter Tryz.func80, Tryz.ntmps80
 go_wp2
 go_loop [3] (fun kv => kv = .int .i64 0) (fun _ => 0)
 case atStart => rfl
 case round =>
  subst hrel
  go_wp2
  go_end0
  exact ⟨rfl, (H.out.set 17 _).congr (fun i _ => bkF_at v0 v1 A T D U 17 _ rfl i), But.setCell _ _ _ _⟩

set_option maxRecDepth 100000 in
set_option maxHeartbeats 400000 in
theorem grow81_any (w : World) (bk : Nat) (v0 v1 : Value) (A T D U : Int) (h : Bkc w bk v0 v1 A T D U) :
  Calls Tryz.prog 81 #[.pointer (some ⟨bk, 0, none⟩)] w fun e w' => e = .returned (.tuple #[]) ∧ Bkc w' bk v0 v1 A T D U ∧ But w w' bk := by
 have hc : w.cell? ⟨bk, 18, none⟩ = some (.slice none 0 0) := h.cell (i := 18) (by decide)
 have hc2 : w.cell? ⟨bk, 20, none⟩ = some (.int .i64 0) := h.cell (i := 20) (by decide)
 have hf := h.frozen 20
 have hlt := h.lt
 have H := hid h
 clear h
 go_enter Tryz.func81, Tryz.ntmps81
 go_wp2
 go_loop [3] (fun kv => kv = .int .i64 0) (fun _ => 0)
 case atStart => rfl
 case round =>
  subst hrel
  go_wp2
  go_end0
  exact ⟨rfl, (H.out.set 20 _).congr (fun i _ => bkF_at v0 v1 A T D U 20 _ rfl i), But.setCell _ _ _ _⟩

set_option maxRecDepth 100000 in
set_option maxHeartbeats 400000 in
theorem grow82_any (w : World) (bk : Nat) (v0 v1 : Value) (A T D U : Int) (h : Bkc w bk v0 v1 A T D U) :
  Calls Tryz.prog 82 #[.pointer (some ⟨bk, 0, none⟩)] w fun e w' => e = .returned (.tuple #[]) ∧ Bkc w' bk v0 v1 A T D U ∧ But w w' bk := by
 have hc : w.cell? ⟨bk, 21, none⟩ = some (.slice none 0 0) := h.cell (i := 21) (by decide)
 have hc2 : w.cell? ⟨bk, 23, none⟩ = some (.int .i64 0) := h.cell (i := 23) (by decide)
 have hf := h.frozen 23
 have hlt := h.lt
 have H := hid h
 clear h
 go_enter Tryz.func82, Tryz.ntmps82
 go_wp2
 go_loop [3] (fun kv => kv = .int .i64 0) (fun _ => 0)
 case atStart => rfl
 case round =>
  subst hrel
  go_wp2
  go_end0
  exact ⟨rfl, (H.out.set 23 _).congr (fun i _ => bkF_at v0 v1 A T D U 23 _ rfl i), But.setCell _ _ _ _⟩

set_option maxRecDepth 100000 in
set_option maxHeartbeats 400000 in
theorem grow83_any (w : World) (bk : Nat) (v0 v1 : Value) (A T D U : Int) (h : Bkc w bk v0 v1 A T D U) :
  Calls Tryz.prog 83 #[.pointer (some ⟨bk, 0, none⟩)] w fun e w' => e = .returned (.tuple #[]) ∧ Bkc w' bk v0 v1 A T D U ∧ But w w' bk := by
 have hc : w.cell? ⟨bk, 24, none⟩ = some (.slice none 0 0) := h.cell (i := 24) (by decide)
 have hc2 : w.cell? ⟨bk, 26, none⟩ = some (.int .i64 0) := h.cell (i := 26) (by decide)
 have hf := h.frozen 26
 have hlt := h.lt
 have H := hid h
 clear h
 go_enter Tryz.func83, Tryz.ntmps83
 go_wp2
 go_loop [3] (fun kv => kv = .int .i64 0) (fun _ => 0)
 case atStart => rfl
 case round =>
  subst hrel
  go_wp2
  go_end0
  exact ⟨rfl, (H.out.set 26 _).congr (fun i _ => bkF_at v0 v1 A T D U 26 _ rfl i), But.setCell _ _ _ _⟩

set_option maxRecDepth 100000 in
set_option maxHeartbeats 400000 in
theorem grow84_any (w : World) (bk : Nat) (v0 v1 : Value) (A T D U : Int) (h : Bkc w bk v0 v1 A T D U) :
  Calls Tryz.prog 84 #[.pointer (some ⟨bk, 0, none⟩)] w fun e w' => e = .returned (.tuple #[]) ∧ Bkc w' bk v0 v1 A T D U ∧ But w w' bk := by
 have hc : w.cell? ⟨bk, 27, none⟩ = some (.slice none 0 0) := h.cell (i := 27) (by decide)
 have hc2 : w.cell? ⟨bk, 29, none⟩ = some (.int .i64 0) := h.cell (i := 29) (by decide)
 have hf := h.frozen 29
 have hlt := h.lt
 have H := hid h
 clear h
 go_enter Tryz.func84, Tryz.ntmps84
 go_wp2
 go_loop [3] (fun kv => kv = .int .i64 0) (fun _ => 0)
 case atStart => rfl
 case round =>
  subst hrel
  go_wp2
  go_end0
  exact ⟨rfl, (H.out.set 29 _).congr (fun i _ => bkF_at v0 v1 A T D U 29 _ rfl i), But.setCell _ _ _ _⟩

set_option maxRecDepth 100000 in
set_option maxHeartbeats 400000 in
theorem grow85_any (w : World) (bk : Nat) (v0 v1 : Value) (A T D U : Int) (h : Bkc w bk v0 v1 A T D U) :
  Calls Tryz.prog 85 #[.pointer (some ⟨bk, 0, none⟩)] w fun e w' => e = .returned (.tuple #[]) ∧ Bkc w' bk v0 v1 A T D U ∧ But w w' bk := by
 have hc : w.cell? ⟨bk, 30, none⟩ = some (.slice none 0 0) := h.cell (i := 30) (by decide)
 have hc2 : w.cell? ⟨bk, 32, none⟩ = some (.int .i64 0) := h.cell (i := 32) (by decide)
 have hf := h.frozen 32
 have hlt := h.lt
 have H := hid h
 clear h
 go_enter Tryz.func85, Tryz.ntmps85
 go_wp2
 go_loop [3] (fun kv => kv = .int .i64 0) (fun _ => 0)
 case atStart => rfl
 case round =>
  subst hrel
  go_wp2
  go_end0
  exact ⟨rfl, (H.out.set 32 _).congr (fun i _ => bkF_at v0 v1 A T D U 32 _ rfl i), But.setCell _ _ _ _⟩

set_option maxRecDepth 100000 in
set_option maxHeartbeats 400000 in
theorem grow86_any (w : World) (bk : Nat) (v0 v1 : Value) (A T D U : Int) (h : Bkc w bk v0 v1 A T D U) :
  Calls Tryz.prog 86 #[.pointer (some ⟨bk, 0, none⟩)] w fun e w' => e = .returned (.tuple #[]) ∧ Bkc w' bk v0 v1 A T D U ∧ But w w' bk := by
 have hc : w.cell? ⟨bk, 33, none⟩ = some (.slice none 0 0) := h.cell (i := 33) (by decide)
 have hc2 : w.cell? ⟨bk, 35, none⟩ = some (.int .i64 0) := h.cell (i := 35) (by decide)
 have hf := h.frozen 35
 have hlt := h.lt
 have H := hid h
 clear h
 go_enter Tryz.func86, Tryz.ntmps86
 go_wp2
 go_loop [3] (fun kv => kv = .int .i64 0) (fun _ => 0)
 case atStart => rfl
 case round =>
  subst hrel
  go_wp2
  go_end0
  exact ⟨rfl, (H.out.set 35 _).congr (fun i _ => bkF_at v0 v1 A T D U 35 _ rfl i), But.setCell _ _ _ _⟩

set_option maxRecDepth 100000 in
set_option maxHeartbeats 400000 in
theorem grow87_any (w : World) (bk : Nat) (v0 v1 : Value) (A T D U : Int) (h : Bkc w bk v0 v1 A T D U) :
  Calls Tryz.prog 87 #[.pointer (some ⟨bk, 0, none⟩)] w fun e w' => e = .returned (.tuple #[]) ∧ Bkc w' bk v0 v1 A T D U ∧ But w w' bk := by
 have hc : w.cell? ⟨bk, 36, none⟩ = some (.slice none 0 0) := h.cell (i := 36) (by decide)
 have hc2 : w.cell? ⟨bk, 38, none⟩ = some (.int .i64 0) := h.cell (i := 38) (by decide)
 have hf := h.frozen 38
 have hlt := h.lt
 have H := hid h
 clear h
 go_enter Tryz.func87, Tryz.ntmps87
 go_wp2
 go_loop [3] (fun kv => kv = .int .i64 0) (fun _ => 0)
 case atStart => rfl
 case round =>
  subst hrel
  go_wp2
  go_end0
  exact ⟨rfl, (H.out.set 38 _).congr (fun i _ => bkF_at v0 v1 A T D U 38 _ rfl i), But.setCell _ _ _ _⟩

set_option maxRecDepth 100000 in
set_option maxHeartbeats 400000 in
theorem grow88_any (w : World) (bk : Nat) (v0 v1 : Value) (A T D U : Int) (h : Bkc w bk v0 v1 A T D U) :
  Calls Tryz.prog 88 #[.pointer (some ⟨bk, 0, none⟩)] w fun e w' => e = .returned (.tuple #[]) ∧ Bkc w' bk v0 v1 A T D U ∧ But w w' bk := by
 have hc : w.cell? ⟨bk, 39, none⟩ = some (.slice none 0 0) := h.cell (i := 39) (by decide)
 have hc2 : w.cell? ⟨bk, 41, none⟩ = some (.int .i64 0) := h.cell (i := 41) (by decide)
 have hf := h.frozen 41
 have hlt := h.lt
 have H := hid h
 clear h
 go_enter Tryz.func88, Tryz.ntmps88
 go_wp2
 go_loop [3] (fun kv => kv = .int .i64 0) (fun _ => 0)
 case atStart => rfl
 case round =>
  subst hrel
  go_wp2
  go_end0
  exact ⟨rfl, (H.out.set 41 _).congr (fun i _ => bkF_at v0 v1 A T D U 41 _ rfl i), But.setCell _ _ _ _⟩

set_option maxRecDepth 100000 in
set_option maxHeartbeats 400000 in
theorem grow89_any (w : World) (bk : Nat) (v0 v1 : Value) (A T D U : Int) (h : Bkc w bk v0 v1 A T D U) :
  Calls Tryz.prog 89 #[.pointer (some ⟨bk, 0, none⟩)] w fun e w' => e = .returned (.tuple #[]) ∧ Bkc w' bk v0 v1 A T D U ∧ But w w' bk := by
 have hc : w.cell? ⟨bk, 42, none⟩ = some (.slice none 0 0) := h.cell (i := 42) (by decide)
 have hc2 : w.cell? ⟨bk, 44, none⟩ = some (.int .i64 0) := h.cell (i := 44) (by decide)
 have hf := h.frozen 44
 have hlt := h.lt
 have H := hid h
 clear h
 go_enter Tryz.func89, Tryz.ntmps89
 go_wp2
 go_loop [3] (fun kv => kv = .int .i64 0) (fun _ => 0)
 case atStart => rfl
 case round =>
  subst hrel
  go_wp2
  go_end0
  exact ⟨rfl, (H.out.set 44 _).congr (fun i _ => bkF_at v0 v1 A T D U 44 _ rfl i), But.setCell _ _ _ _⟩

set_option maxRecDepth 100000 in
set_option maxHeartbeats 400000 in
theorem grow90_any (w : World) (bk : Nat) (v0 v1 : Value) (A T D U : Int) (h : Bkc w bk v0 v1 A T D U) :
  Calls Tryz.prog 90 #[.pointer (some ⟨bk, 0, none⟩)] w fun e w' => e = .returned (.tuple #[]) ∧ Bkc w' bk v0 v1 A T D U ∧ But w w' bk := by
 have hc : w.cell? ⟨bk, 45, none⟩ = some (.slice none 0 0) := h.cell (i := 45) (by decide)
 have hc2 : w.cell? ⟨bk, 47, none⟩ = some (.int .i64 0) := h.cell (i := 47) (by decide)
 have hf := h.frozen 47
 have hlt := h.lt
 have H := hid h
 clear h
 go_enter Tryz.func90, Tryz.ntmps90
 go_wp2
 go_loop [3] (fun kv => kv = .int .i64 0) (fun _ => 0)
 case atStart => rfl
 case round =>
  subst hrel
  go_wp2
  go_end0
  exact ⟨rfl, (H.out.set 47 _).congr (fun i _ => bkF_at v0 v1 A T D U 47 _ rfl i), But.setCell _ _ _ _⟩

set_option maxRecDepth 100000 in
set_option maxHeartbeats 400000 in
theorem grow91_any (w : World) (bk : Nat) (v0 v1 : Value) (A T D U : Int) (h : Bkc w bk v0 v1 A T D U) :
  Calls Tryz.prog 91 #[.pointer (some ⟨bk, 0, none⟩)] w fun e w' => e = .returned (.tuple #[]) ∧ Bkc w' bk v0 v1 A T D U ∧ But w w' bk := by
 have hc : w.cell? ⟨bk, 48, none⟩ = some (.slice none 0 0) := h.cell (i := 48) (by decide)
 have hc2 : w.cell? ⟨bk, 50, none⟩ = some (.int .i64 0) := h.cell (i := 50) (by decide)
 have hf := h.frozen 50
 have hlt := h.lt
 have H := hid h
 clear h
 go_enter Tryz.func91, Tryz.ntmps91
 go_wp2
 go_loop [3] (fun kv => kv = .int .i64 0) (fun _ => 0)
 case atStart => rfl
 case round =>
  subst hrel
  go_wp2
  go_end0
  exact ⟨rfl, (H.out.set 50 _).congr (fun i _ => bkF_at v0 v1 A T D U 50 _ rfl i), But.setCell _ _ _ _⟩

set_option maxRecDepth 100000 in
set_option maxHeartbeats 400000 in
theorem grow92_any (w : World) (bk : Nat) (v0 v1 : Value) (A T D U : Int) (h : Bkc w bk v0 v1 A T D U) :
  Calls Tryz.prog 92 #[.pointer (some ⟨bk, 0, none⟩)] w fun e w' => e = .returned (.tuple #[]) ∧ Bkc w' bk v0 v1 A T D U ∧ But w w' bk := by
 have hc : w.cell? ⟨bk, 51, none⟩ = some (.slice none 0 0) := h.cell (i := 51) (by decide)
 have hc2 : w.cell? ⟨bk, 53, none⟩ = some (.int .i64 0) := h.cell (i := 53) (by decide)
 have hf := h.frozen 53
 have hlt := h.lt
 have H := hid h
 clear h
 go_enter Tryz.func92, Tryz.ntmps92
 go_wp2
 go_loop [3] (fun kv => kv = .int .i64 0) (fun _ => 0)
 case atStart => rfl
 case round =>
  subst hrel
  go_wp2
  go_end0
  exact ⟨rfl, (H.out.set 53 _).congr (fun i _ => bkF_at v0 v1 A T D U 53 _ rfl i), But.setCell _ _ _ _⟩

set_option maxRecDepth 100000 in
set_option maxHeartbeats 400000 in
theorem grow93_any (w : World) (bk : Nat) (v0 v1 : Value) (A T D U : Int) (h : Bkc w bk v0 v1 A T D U) :
  Calls Tryz.prog 93 #[.pointer (some ⟨bk, 0, none⟩)] w fun e w' => e = .returned (.tuple #[]) ∧ Bkc w' bk v0 v1 A T D U ∧ But w w' bk := by
 have hc : w.cell? ⟨bk, 54, none⟩ = some (.slice none 0 0) := h.cell (i := 54) (by decide)
 have hc2 : w.cell? ⟨bk, 56, none⟩ = some (.int .i64 0) := h.cell (i := 56) (by decide)
 have hf := h.frozen 56
 have hlt := h.lt
 have H := hid h
 clear h
 go_enter Tryz.func93, Tryz.ntmps93
 go_wp2
 go_loop [3] (fun kv => kv = .int .i64 0) (fun _ => 0)
 case atStart => rfl
 case round =>
  subst hrel
  go_wp2
  go_end0
  exact ⟨rfl, (H.out.set 56 _).congr (fun i _ => bkF_at v0 v1 A T D U 56 _ rfl i), But.setCell _ _ _ _⟩

set_option maxRecDepth 100000 in
set_option maxHeartbeats 400000 in
theorem grow94_any (w : World) (bk : Nat) (v0 v1 : Value) (A T D U : Int) (h : Bkc w bk v0 v1 A T D U) :
  Calls Tryz.prog 94 #[.pointer (some ⟨bk, 0, none⟩)] w fun e w' => e = .returned (.tuple #[]) ∧ Bkc w' bk v0 v1 A T D U ∧ But w w' bk := by
 have hc : w.cell? ⟨bk, 57, none⟩ = some (.slice none 0 0) := h.cell (i := 57) (by decide)
 have hc2 : w.cell? ⟨bk, 59, none⟩ = some (.int .i64 0) := h.cell (i := 59) (by decide)
 have hf := h.frozen 59
 have hlt := h.lt
 have H := hid h
 clear h
 go_enter Tryz.func94, Tryz.ntmps94
 go_wp2
 go_loop [3] (fun kv => kv = .int .i64 0) (fun _ => 0)
 case atStart => rfl
 case round =>
  subst hrel
  go_wp2
  go_end0
  exact ⟨rfl, (H.out.set 59 _).congr (fun i _ => bkF_at v0 v1 A T D U 59 _ rfl i), But.setCell _ _ _ _⟩

set_option maxRecDepth 100000 in
set_option maxHeartbeats 400000 in
theorem grow95_any (w : World) (bk : Nat) (v0 v1 : Value) (A T D U : Int) (h : Bkc w bk v0 v1 A T D U) :
  Calls Tryz.prog 95 #[.pointer (some ⟨bk, 0, none⟩)] w fun e w' => e = .returned (.tuple #[]) ∧ Bkc w' bk v0 v1 A T D U ∧ But w w' bk := by
 have hc : w.cell? ⟨bk, 60, none⟩ = some (.slice none 0 0) := h.cell (i := 60) (by decide)
 have hc2 : w.cell? ⟨bk, 62, none⟩ = some (.int .i64 0) := h.cell (i := 62) (by decide)
 have hf := h.frozen 62
 have hlt := h.lt
 have H := hid h
 clear h
 go_enter Tryz.func95, Tryz.ntmps95
 go_wp2
 go_loop [3] (fun kv => kv = .int .i64 0) (fun _ => 0)
 case atStart => rfl
 case round =>
  subst hrel
  go_wp2
  go_end0
  exact ⟨rfl, (H.out.set 62 _).congr (fun i _ => bkF_at v0 v1 A T D U 62 _ rfl i), But.setCell _ _ _ _⟩

set_option maxRecDepth 100000 in
set_option maxHeartbeats 400000 in
theorem grow96_any (w : World) (bk : Nat) (v0 v1 : Value) (A T D U : Int) (h : Bkc w bk v0 v1 A T D U) :
  Calls Tryz.prog 96 #[.pointer (some ⟨bk, 0, none⟩)] w fun e w' => e = .returned (.tuple #[]) ∧ Bkc w' bk v0 v1 A T D U ∧ But w w' bk := by
 have hc : w.cell? ⟨bk, 63, none⟩ = some (.slice none 0 0) := h.cell (i := 63) (by decide)
 have hc2 : w.cell? ⟨bk, 65, none⟩ = some (.int .i64 0) := h.cell (i := 65) (by decide)
 have hf := h.frozen 65
 have hlt := h.lt
 have H := hid h
 clear h
 go_enter Tryz.func96, Tryz.ntmps96
 go_wp2
 go_loop [3] (fun kv => kv = .int .i64 0) (fun _ => 0)
 case atStart => rfl
 case round =>
  subst hrel
  go_wp2
  go_end0
  exact ⟨rfl, (H.out.set 65 _).congr (fun i _ => bkF_at v0 v1 A T D U 65 _ rfl i), But.setCell _ _ _ _⟩

set_option maxRecDepth 100000 in
set_option maxHeartbeats 400000 in
theorem grow97_any (w : World) (bk : Nat) (v0 v1 : Value) (A T D U : Int) (h : Bkc w bk v0 v1 A T D U) :
  Calls Tryz.prog 97 #[.pointer (some ⟨bk, 0, none⟩)] w fun e w' => e = .returned (.tuple #[]) ∧ Bkc w' bk v0 v1 A T D U ∧ But w w' bk := by
 have hc : w.cell? ⟨bk, 66, none⟩ = some (.slice none 0 0) := h.cell (i := 66) (by decide)
 have hc2 : w.cell? ⟨bk, 68, none⟩ = some (.int .i64 0) := h.cell (i := 68) (by decide)
 have hf := h.frozen 68
 have hlt := h.lt
 have H := hid h
 clear h
 go_enter Tryz.func97, Tryz.ntmps97
 go_wp2
 go_loop [3] (fun kv => kv = .int .i64 0) (fun _ => 0)
 case atStart => rfl
 case round =>
  subst hrel
  go_wp2
  go_end0
  exact ⟨rfl, (H.out.set 68 _).congr (fun i _ => bkF_at v0 v1 A T D U 68 _ rfl i), But.setCell _ _ _ _⟩

set_option maxRecDepth 100000 in
set_option maxHeartbeats 400000 in
theorem grow98_any (w : World) (bk : Nat) (v0 v1 : Value) (A T D U : Int) (h : Bkc w bk v0 v1 A T D U) :
  Calls Tryz.prog 98 #[.pointer (some ⟨bk, 0, none⟩)] w fun e w' => e = .returned (.tuple #[]) ∧ Bkc w' bk v0 v1 A T D U ∧ But w w' bk := by
 have hc : w.cell? ⟨bk, 69, none⟩ = some (.slice none 0 0) := h.cell (i := 69) (by decide)
 have hc2 : w.cell? ⟨bk, 71, none⟩ = some (.int .i64 0) := h.cell (i := 71) (by decide)
 have hf := h.frozen 71
 have hlt := h.lt
 have H := hid h
 clear h
 go_enter Tryz.func98, Tryz.ntmps98
 go_wp2
 go_loop [3] (fun kv => kv = .int .i64 0) (fun _ => 0)
 case atStart => rfl
 case round =>
  subst hrel
  go_wp2
  go_end0
  exact ⟨rfl, (H.out.set 71 _).congr (fun i _ => bkF_at v0 v1 A T D U 71 _ rfl i), But.setCell _ _ _ _⟩

end Go.Proofs.YtpbiofnncdneoaaGreatDoor.Bk

namespace Go.Proofs.YtpbiofnncdneoaaGreatDoor.Bk
open Go Go.RowKit
open Go.RowKit (wrap32 wrap64)

set_option maxRecDepth 100000 in
set_option maxHeartbeats 800000 in
theorem look69_any (w : World) (bk : Nat) (v0 v1 : Value) (A T D U : Int) (h : Bkc w bk v0 v1 A T D U) :
  Calls Tryz.prog 69 #[.pointer (some ⟨bk, 0, none⟩)] w fun e w' => e = .returned (.bool true) ∧ w' = w := by
 have hc0 : w.cell? ⟨bk, 6, none⟩ = some (.slice none 0 0) := h.cell (i := 6) (by decide)
 have hc1 : w.cell? ⟨bk, 9, none⟩ = some (.slice none 0 0) := h.cell (i := 9) (by decide)
 have hc2 : w.cell? ⟨bk, 12, none⟩ = some (.slice none 0 0) := h.cell (i := 12) (by decide)
 have hc3 : w.cell? ⟨bk, 15, none⟩ = some (.slice none 0 0) := h.cell (i := 15) (by decide)
 have hlt := h.lt
 clear h
 go_enter Tryz.func69, Tryz.ntmps69
 go_wp2
 go_loop [3] (fun iv => iv = .int .i64 0) (fun _ => 0)
 case atStart => rfl
 case round =>
  as_aux_lemma =>
  subst hrel
  go_wp2
  go_loop [5] (fun iv => iv = .int .i64 0) (fun _ => 0)
  case atStart => rfl
  case round =>
   as_aux_lemma =>
   subst hrel
   go_wp2
   go_loop [7] (fun iv => iv = .int .i64 0) (fun _ => 0)
   case atStart => rfl
   case round =>
    as_aux_lemma =>
    subst hrel
    go_wp2
    go_loop [9] (fun iv => iv = .int .i64 0) (fun _ => 0)
    case atStart => rfl
    case round =>
     as_aux_lemma =>
     subst hrel
     go_wp2
     go_ret
     exact ⟨rfl, rfl⟩

set_option maxRecDepth 100000 in
set_option maxHeartbeats 800000 in
theorem look70_any (w : World) (bk : Nat) (v0 v1 : Value) (A T D U : Int) (h : Bkc w bk v0 v1 A T D U) :
  Calls Tryz.prog 70 #[.pointer (some ⟨bk, 0, none⟩)] w fun e w' => e = .returned (.bool true) ∧ w' = w := by
 have hc0 : w.cell? ⟨bk, 18, none⟩ = some (.slice none 0 0) := h.cell (i := 18) (by decide)
 have hc1 : w.cell? ⟨bk, 21, none⟩ = some (.slice none 0 0) := h.cell (i := 21) (by decide)
 have hc2 : w.cell? ⟨bk, 24, none⟩ = some (.slice none 0 0) := h.cell (i := 24) (by decide)
 have hc3 : w.cell? ⟨bk, 27, none⟩ = some (.slice none 0 0) := h.cell (i := 27) (by decide)
 have hlt := h.lt
 clear h
 go_enter Tryz.func70, Tryz.ntmps70
 go_wp2
 go_loop [3] (fun iv => iv = .int .i64 0) (fun _ => 0)
 case atStart => rfl
 case round =>
  as_aux_lemma =>
  subst hrel
  go_wp2
  go_loop [5] (fun iv => iv = .int .i64 0) (fun _ => 0)
  case atStart => rfl
  case round =>
   as_aux_lemma =>
   subst hrel
   go_wp2
   go_loop [7] (fun iv => iv = .int .i64 0) (fun _ => 0)
   case atStart => rfl
   case round =>
    as_aux_lemma =>
    subst hrel
    go_wp2
    go_loop [9] (fun iv => iv = .int .i64 0) (fun _ => 0)
    case atStart => rfl
    case round =>
     as_aux_lemma =>
     subst hrel
     go_wp2
     go_ret
     exact ⟨rfl, rfl⟩

set_option maxRecDepth 100000 in
set_option maxHeartbeats 800000 in
theorem look71_any (w : World) (bk : Nat) (v0 v1 : Value) (A T D U : Int) (h : Bkc w bk v0 v1 A T D U) :
  Calls Tryz.prog 71 #[.pointer (some ⟨bk, 0, none⟩)] w fun e w' => e = .returned (.bool true) ∧ w' = w := by
 have hc0 : w.cell? ⟨bk, 30, none⟩ = some (.slice none 0 0) := h.cell (i := 30) (by decide)
 have hc1 : w.cell? ⟨bk, 33, none⟩ = some (.slice none 0 0) := h.cell (i := 33) (by decide)
 have hc2 : w.cell? ⟨bk, 36, none⟩ = some (.slice none 0 0) := h.cell (i := 36) (by decide)
 have hc3 : w.cell? ⟨bk, 39, none⟩ = some (.slice none 0 0) := h.cell (i := 39) (by decide)
 have hlt := h.lt
 clear h
 go_enter Tryz.func71, Tryz.ntmps71
 go_wp2
 go_loop [3] (fun iv => iv = .int .i64 0) (fun _ => 0)
 case atStart => rfl
 case round =>
  as_aux_lemma =>
  subst hrel
  go_wp2
  go_loop [5] (fun iv => iv = .int .i64 0) (fun _ => 0)
  case atStart => rfl
  case round =>
   as_aux_lemma =>
   subst hrel
   go_wp2
   go_loop [7] (fun iv => iv = .int .i64 0) (fun _ => 0)
   case atStart => rfl
   case round =>
    as_aux_lemma =>
    subst hrel
    go_wp2
    go_loop [11] (fun iv => iv = .int .i64 0) (fun _ => 0)
    case atStart => rfl
    case round =>
     as_aux_lemma =>
     subst hrel
     go_wp2
     go_ret
     exact ⟨rfl, rfl⟩

set_option maxRecDepth 100000 in
set_option maxHeartbeats 800000 in
theorem look72_any (w : World) (bk : Nat) (v0 v1 : Value) (A T D U : Int) (h : Bkc w bk v0 v1 A T D U) :
  Calls Tryz.prog 72 #[.pointer (some ⟨bk, 0, none⟩)] w fun e w' => e = .returned (.bool true) ∧ w' = w := by
 have hc0 : w.cell? ⟨bk, 42, none⟩ = some (.slice none 0 0) := h.cell (i := 42) (by decide)
 have hc1 : w.cell? ⟨bk, 45, none⟩ = some (.slice none 0 0) := h.cell (i := 45) (by decide)
 have hc2 : w.cell? ⟨bk, 48, none⟩ = some (.slice none 0 0) := h.cell (i := 48) (by decide)
 have hc3 : w.cell? ⟨bk, 51, none⟩ = some (.slice none 0 0) := h.cell (i := 51) (by decide)
 have hlt := h.lt
 clear h
 go_enter Tryz.func72, Tryz.ntmps72
 go_wp2
 go_loop [3] (fun iv => iv = .int .i64 0) (fun _ => 0)
 case atStart => rfl
 case round =>
  as_aux_lemma =>
  subst hrel
  go_wp2
  go_loop [7] (fun iv => iv = .int .i64 0) (fun _ => 0)
  case atStart => rfl
  case round =>
   as_aux_lemma =>
   subst hrel
   go_wp2
   go_loop [11] (fun iv => iv = .int .i64 0) (fun _ => 0)
   case atStart => rfl
   case round =>
    as_aux_lemma =>
    subst hrel
    go_wp2
    go_loop [15] (fun iv => iv = .int .i64 0) (fun _ => 0)
    case atStart => rfl
    case round =>
     as_aux_lemma =>
     subst hrel
     go_wp2
     go_ret
     exact ⟨rfl, rfl⟩

set_option maxRecDepth 100000 in
set_option maxHeartbeats 800000 in
theorem look73_any (w : World) (bk : Nat) (v0 v1 : Value) (A T D U : Int) (h : Bkc w bk v0 v1 A T D U) :
  Calls Tryz.prog 73 #[.pointer (some ⟨bk, 0, none⟩)] w fun e w' => e = .returned (.bool true) ∧ w' = w := by
 have hc0 : w.cell? ⟨bk, 54, none⟩ = some (.slice none 0 0) := h.cell (i := 54) (by decide)
 have hc1 : w.cell? ⟨bk, 57, none⟩ = some (.slice none 0 0) := h.cell (i := 57) (by decide)
 have hc2 : w.cell? ⟨bk, 60, none⟩ = some (.slice none 0 0) := h.cell (i := 60) (by decide)
 have hc3 : w.cell? ⟨bk, 63, none⟩ = some (.slice none 0 0) := h.cell (i := 63) (by decide)
 have hlt := h.lt
 clear h
 go_enter Tryz.func73, Tryz.ntmps73
 go_wp2
 go_loop [3] (fun iv => iv = .int .i64 0) (fun _ => 0)
 case atStart => rfl
 case round =>
  as_aux_lemma =>
  subst hrel
  go_wp2
  go_loop [7] (fun iv => iv = .int .i64 0) (fun _ => 0)
  case atStart => rfl
  case round =>
   as_aux_lemma =>
   subst hrel
   go_wp2
   go_loop [11] (fun iv => iv = .int .i64 0) (fun _ => 0)
   case atStart => rfl
   case round =>
    as_aux_lemma =>
    subst hrel
    go_wp2
    go_loop [15] (fun iv => iv = .int .i64 0) (fun _ => 0)
    case atStart => rfl
    case round =>
     as_aux_lemma =>
     subst hrel
     go_wp2
     go_ret
     exact ⟨rfl, rfl⟩

set_option maxRecDepth 100000 in
set_option maxHeartbeats 800000 in
theorem look74_any (w : World) (bk : Nat) (v0 v1 : Value) (A T D U : Int) (h : Bkc w bk v0 v1 A T D U) :
  Calls Tryz.prog 74 #[.pointer (some ⟨bk, 0, none⟩)] w fun e w' => e = .returned (.bool true) ∧ w' = w := by
 have hc0 : w.cell? ⟨bk, 66, none⟩ = some (.slice none 0 0) := h.cell (i := 66) (by decide)
 have hc1 : w.cell? ⟨bk, 69, none⟩ = some (.slice none 0 0) := h.cell (i := 69) (by decide)
 have hlt := h.lt
 clear h
 go_enter Tryz.func74, Tryz.ntmps74
 go_wp2
 go_loop [3] (fun iv => iv = .int .i64 0) (fun _ => 0)
 case atStart => rfl
 case round =>
  as_aux_lemma =>
  subst hrel
  go_wp2
  go_loop [7] (fun iv => iv = .int .i64 0) (fun _ => 0)
  case atStart => rfl
  case round =>
   as_aux_lemma =>
   subst hrel
   go_wp2
   go_ret
   exact ⟨rfl, rfl⟩

end Go.Proofs.YtpbiofnncdneoaaGreatDoor.Bk
