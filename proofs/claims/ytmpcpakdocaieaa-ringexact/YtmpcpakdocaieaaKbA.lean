/- The law's book where it keeps keys: its cells; tight, keysMark. -/
import Derived.Test.YtmpcpakdocaieaaReA
namespace Go.Proofs.Ytmpcpakdocaieaa
open Go Go.RowKit
open Go.RowKit (wrap32 wrap64)

/-- What the book's cells hold where it keeps lists of keys alone. -/
def bkF (v0 v1 : Value) (A T D U : Int) (i : Nat) : Value :=
  if i = 18 then v0 else if i = 19 then v1 else if i = 20 then .int .i64 A else if i = 72 then .int .i64 T else if i = 73 then .int .i64 D else if i = 74 then .int .i64 U
  else if i % 3 = 2 then .int .i64 0 else .slice none 0 0

def Bkc (w : World) (bk : Nat) (v0 v1 : Value) (A T D U : Int) : Prop := w.rowIs bk 50 75 (bkF v0 v1 A T D U)

/-- All blocks but one are as they were. -/
structure But (w w' : World) (bk : Nat) : Prop where
  os : w'.os = w.os
  tape : w'.tape = w.tape
  output : w'.output = w.output
  size : w'.heap.size = w.heap.size
  block : ∀ k, k ≠ bk → w'.heap[k]? = w.heap[k]?

theorem But.refl (w : World) (bk : Nat) : But w w bk := ⟨rfl, rfl, rfl, rfl, fun _ _ => rfl⟩
theorem But.trans {a b c : World} {bk : Nat} (h : But a b bk) (k : But b c bk) : But a c bk :=
  ⟨k.os.trans h.os, k.tape.trans h.tape, k.output.trans h.output, k.size.trans h.size, fun i hi => (k.block i hi).trans (h.block i hi)⟩
theorem But.setCell (w : World) (bk i : Nat) (u : Value) : But w (w.setCell ⟨bk, i, none⟩ u) bk :=
  ⟨rfl, rfl, rfl, by simp [World.setCell], fun k hk => Below.heap_setCell _ _ _ _ hk⟩
theorem But.drewN (w : World) (bk n : Nat) : But w (w.drewN n) bk := ⟨rfl, rfl, rfl, rfl, fun _ _ => rfl⟩

theorem bkF_T (v0 v1 : Value) (A T D U T' : Int) (i : Nat) : (if i = 72 then Value.int .i64 T' else bkF v0 v1 A T D U i) = bkF v0 v1 A T' D U i := by
  unfold bkF
  by_cases h : i = 72
  · subst h; rfl
  · simp [h]
theorem bkF_D (v0 v1 : Value) (A T D U D' : Int) (i : Nat) : (if i = 73 then Value.int .i64 D' else bkF v0 v1 A T D U i) = bkF v0 v1 A T D' U i := by
  unfold bkF
  by_cases h : i = 73
  · subst h; rfl
  · simp [h]
theorem bkF_U (v0 v1 : Value) (A T D U U' : Int) (i : Nat) : (if i = 74 then Value.int .i64 U' else bkF v0 v1 A T D U i) = bkF v0 v1 A T D U' i := by
  unfold bkF
  by_cases h : i = 74
  · subst h; rfl
  · simp [h]
theorem bkF_A (v0 v1 : Value) (A T D U A' : Int) (i : Nat) : (if i = 20 then Value.int .i64 A' else bkF v0 v1 A T D U i) = bkF v0 v1 A' T D U i := by
  unfold bkF
  by_cases h : i = 20
  · subst h; rfl
  · simp [h]
theorem bkF_0 (v0 v1 : Value) (A T D U : Int) (v' : Value) (i : Nat) : (if i = 18 then v' else bkF v0 v1 A T D U i) = bkF v' v1 A T D U i := by
  unfold bkF
  by_cases h : i = 18
  · subst h; rfl
  · simp [h]
theorem bkF_1 (v0 v1 : Value) (A T D U : Int) (v' : Value) (i : Nat) : (if i = 19 then v' else bkF v0 v1 A T D U i) = bkF v0 v' A T D U i := by
  unfold bkF
  by_cases h : i = 19
  · subst h; rfl
  · simp [h]
theorem bkF_at (v0 v1 : Value) (A T D U : Int) (o : Nat) (u : Value) (hu : bkF v0 v1 A T D U o = u) (i : Nat) : (if i = o then u else bkF v0 v1 A T D U i) = bkF v0 v1 A T D U i := by
  by_cases h : i = o
  · rw [if_pos h, h, hu]
  · rw [if_neg h]

set_option maxRecDepth 100000 in
set_option maxHeartbeats 400000 in
theorem tight_any (w : World) (bk : Nat) (v0 v1 : Value) (A T D U n : Int) (h : Bkc w bk v0 v1 A T D U) (hU0 : 0 ≤ U) (hU1 : U ≤ 16777216) (hn0 : 0 ≤ n) (hn1 : n ≤ 1099511627776) :
    Calls Try.prog 52 #[.pointer (some ⟨bk, 0, none⟩), .int .i64 n] w fun e w' => (e = .returned (.bool true) ∧ w' = w) ∨ (e = .returned (.bool false) ∧ Hid (U + n ≤ 16777216) ∧ Bkc w' bk v0 v1 A T D (U + n) ∧ But w w' bk) := by
  have hc := h.cell (i := 74) (by decide)
  have hc' : w.cell? ⟨bk, 74, none⟩ = some (.int .i64 U) := hc
  have hf := h.frozen 74
  have hlt := h.lt
  have H := hid h
  clear hc h
  by_cases hb : 16777216 < U + n
  · go_enter Try.func52, Try.ntmps52
    go_wp2
    go_ret
    exact .inl ⟨rfl, rfl⟩
  · have hb' : U + n ≤ 16777216 := by omega
    go_enter Try.func52, Try.ntmps52
    go_wp2
    go_ret
    exact .inr ⟨rfl, hid trivial, (H.out.set 74 _).congr (fun i _ => bkF_U v0 v1 A T D U (U + n) i), But.setCell _ _ _ _⟩
/-- What stands in a list of keys of that number. -/
def kyM (m : Nat) : Ky := ⟨m * 1048576, z32, -7⟩
theorem kyM_ok (m : Nat) (h : m ≤ 1099511627776) : (kyM m).ok := ⟨by show m * 1048576 < 18446744073709551616; omega, by show z32.length = 32; rfl, by show -9223372036854775808 ≤ (-7 : Int) ∧ (-7 : Int) ≤ 9223372036854775807; omega⟩
theorem built_km (n : Nat) : Try.prog.built 107 [(0, .int .u64 (n : Int)), (2, .int .i64 (-7))] = some (Ky.mk n z32 (-7)).cells.toArray := by kernel_rfl
end Go.Proofs.Ytmpcpakdocaieaa
