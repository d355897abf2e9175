/- The law's book where it keeps keys: its cells; tight, keysMark. -/
import Derived.Test.YtlgjmhemgfjgnaaGreatX24
namespace Go.Proofs.YtlgjmhemgfjgnaaGreat
open Go Go.RowKit
open Go.RowKit (wrap32 wrap64)

/-- What the book's cells hold where it keeps lists of keys alone. -/
def bkF (v0 v1 : Value) (A T D U : Int) (i : Nat) : Value :=
  if i = 30 then v0 else if i = 31 then v1 else if i = 32 then .int .i64 A else if i = 72 then .int .i64 T else if i = 73 then .int .i64 D else if i = 74 then .int .i64 U
  else if i % 3 = 2 then .int .i64 0 else .slice none 0 0

def Bkc (w : World) (bk : Nat) (v0 v1 : Value) (A T D U : Int) : Prop := w.rowIs bk 50 75 (bkF v0 v1 A T D U)

/-- All blocks but one are as they were. -/
structure But (w w' : World) (bk : Nat) : Prop where
  os : w'.os = w.os
  tape : w'.tape = w.tape
  output : w'.output = w.output
  size : w'.heap.size = w.heap.size
  block : ∀ k, k ≠ bk → w'.heap[k]? = w.heap[k]?

theorem But.refl (w : World) (bk : Nat) : But w w bk := ⟨rfl, rfl, rfl, rfl, fun _ _ => rfl⟩
theorem But.trans {a b c : World} {bk : Nat} (h : But a b bk) (k : But b c bk) : But a c bk :=
  ⟨k.os.trans h.os, k.tape.trans h.tape, k.output.trans h.output, k.size.trans h.size, fun i hi => (k.block i hi).trans (h.block i hi)⟩
theorem But.setCell (w : World) (bk i : Nat) (u : Value) : But w (w.setCell ⟨bk, i, none⟩ u) bk :=
  ⟨rfl, rfl, rfl, by simp [World.setCell], fun k hk => Below.heap_setCell _ _ _ _ hk⟩
theorem But.drewN (w : World) (bk n : Nat) : But w (w.drewN n) bk := ⟨rfl, rfl, rfl, rfl, fun _ _ => rfl⟩

theorem bkF_T (v0 v1 : Value) (A T D U T' : Int) (i : Nat) : (if i = 72 then Value.int .i64 T' else bkF v0 v1 A T D U i) = bkF v0 v1 A T' D U i := by
  unfold bkF
  by_cases h : i = 72
  · subst h; rfl
  · simp [h]
theorem bkF_D (v0 v1 : Value) (A T D U D' : Int) (i : Nat) : (if i = 73 then Value.int .i64 D' else bkF v0 v1 A T D U i) = bkF v0 v1 A T D' U i := by
  unfold bkF
  by_cases h : i = 73
  · subst h; rfl
  · simp [h]
theorem bkF_U (v0 v1 : Value) (A T D U U' : Int) (i : Nat) : (if i = 74 then Value.int .i64 U' else bkF v0 v1 A T D U i) = bkF v0 v1 A T D U' i := by
  unfold bkF
  by_cases h : i = 74
  · subst h; rfl
  · simp [h]
theorem bkF_A (v0 v1 : Value) (A T D U A' : Int) (i : Nat) : (if i = 32 then Value.int .i64 A' else bkF v0 v1 A T D U i) = bkF v0 v1 A' T D U i := by
  unfold bkF
  by_cases h : i = 32
  · subst h; rfl
  · simp [h]
theorem bkF_0 (v0 v1 : Value) (A T D U : Int) (v' : Value) (i : Nat) : (if i = 30 then v' else bkF v0 v1 A T D U i) = bkF v' v1 A T D U i := by
  unfold bkF
  by_cases h : i = 30
  · subst h; rfl
  · simp [h]
theorem bkF_1 (v0 v1 : Value) (A T D U : Int) (v' : Value) (i : Nat) : (if i = 31 then v' else bkF v0 v1 A T D U i) = bkF v0 v' A T D U i := by
  unfold bkF
  by_cases h : i = 31
  · subst h; rfl
  · simp [h]
theorem bkF_at (v0 v1 : Value) (A T D U : Int) (o : Nat) (u : Value) (hu : bkF v0 v1 A T D U o = u) (i : Nat) : (if i = o then u else bkF v0 v1 A T D U i) = bkF v0 v1 A T D U i := by
  by_cases h : i = o
  · rw [if_pos h, h, hu]
  · rw [if_neg h]

set_option maxRecDepth 100000 in
set_option maxHeartbeats 400000 in
theorem tight_any (w : World) (bk : Nat) (v0 v1 : Value) (A T D U n : Int) (h : Bkc w bk v0 v1 A T D U) (hU0 : 0 ≤ U) (hU1 : U ≤ 16777216) (hn0 : 0 ≤ n) (hn1 : n ≤ 1099511627776) :
    Calls Tryz.prog 28 #[.pointer (some ⟨bk, 0, none⟩), .int .i64 n] w fun e w' => (e = .returned (.bool true) ∧ w' = w) ∨ (e = .returned (.bool false) ∧ Hid (U + n ≤ 16777216) ∧ Bkc w' bk v0 v1 A T D (U + n) ∧ But w w' bk) := by
  have hc := h.cell (i := 74) (by decide)
  have hc' : w.cell? ⟨bk, 74, none⟩ = some (.int .i64 U) := hc
  have hf := h.frozen 74
  have hlt := h.lt
  have H := hid h
  clear hc h
  by_cases hb : 16777216 < U + n
  · go_enter Tryz.func28, Tryz.ntmps28
    go_wp2
    go_ret
    exact .inl ⟨rfl, rfl⟩
  · have hb' : U + n ≤ 16777216 := by omega
    go_enter Tryz.func28, Tryz.ntmps28
    go_wp2
    go_ret
    exact .inr ⟨rfl, hid trivial, (H.out.set 74 _).congr (fun i _ => bkF_U v0 v1 A T D U (U + n) i), But.setCell _ _ _ _⟩
/-- What stands in a list of keys of that number. -/
def kyM (m : Nat) : Ky := ⟨false, m * 1048576, z16, -7⟩
theorem kyM_ok (m : Nat) (h : m ≤ 1099511627776) : (kyM m).ok := ⟨by show m * 1048576 < 18446744073709551616; omega, by show z16.length = 16; rfl, by show -9223372036854775808 ≤ (-7 : Int) ∧ (-7 : Int) ≤ 9223372036854775807; omega⟩
theorem built_km (n : Nat) : Tryz.prog.built 85 [(1, .int .u64 (n : Int)), (3, .int .i64 (-7))] = some (Ky.mk false n z16 (-7)).cells.toArray := by kernel_rfl
end Go.Proofs.YtlgjmhemgfjgnaaGreat

namespace Go.Proofs.YtlgjmhemgfjgnaaGreat
open Go Go.RowKit
open Go.RowKit (wrap32 wrap64)

set_option maxRecDepth 100000 in
set_option maxHeartbeats 400000 in
theorem grow60_any (w : World) (bk : Nat) (v0 v1 : Value) (A T D U : Int) (h : Bkc w bk v0 v1 A T D U) :
    Calls Tryz.prog 49 #[.pointer (some ⟨bk, 0, none⟩)] w fun e w' => e = .returned (.tuple #[]) ∧ Bkc w' bk v0 v1 A T D U ∧ But w w' bk := by
  have hc : w.cell? ⟨bk, 0, none⟩ = some (.slice none 0 0) := h.cell (i := 0) (by decide)
  have hc2 : w.cell? ⟨bk, 2, none⟩ = some (.int .i64 0) := h.cell (i := 2) (by decide)
  have hf := h.frozen 2
  have hlt := h.lt
  have H := hid h
  clear h
  go_enter Tryz.func49, Tryz.ntmps49
  go_wp2
  go_loop [3] (fun kv => kv = .int .i64 0) (fun _ => 0)
  case atStart => rfl
  case round =>
    subst hrel
    go_wp2
    go_end0
    exact ⟨rfl, (H.out.set 2 _).congr (fun i _ => bkF_at v0 v1 A T D U 2 _ rfl i), But.setCell _ _ _ _⟩

set_option maxRecDepth 100000 in
set_option maxHeartbeats 400000 in
theorem grow61_any (w : World) (bk : Nat) (v0 v1 : Value) (A T D U : Int) (h : Bkc w bk v0 v1 A T D U) :
    Calls Tryz.prog 50 #[.pointer (some ⟨bk, 0, none⟩)] w fun e w' => e = .returned (.tuple #[]) ∧ Bkc w' bk v0 v1 A T D U ∧ But w w' bk := by
  have hc : w.cell? ⟨bk, 3, none⟩ = some (.slice none 0 0) := h.cell (i := 3) (by decide)
  have hc2 : w.cell? ⟨bk, 5, none⟩ = some (.int .i64 0) := h.cell (i := 5) (by decide)
  have hf := h.frozen 5
  have hlt := h.lt
  have H := hid h
  clear h
  go_enter Tryz.func50, Tryz.ntmps50
  go_wp2
  go_loop [3] (fun kv => kv = .int .i64 0) (fun _ => 0)
  case atStart => rfl
  case round =>
    subst hrel
    go_wp2
    go_end0
    exact ⟨rfl, (H.out.set 5 _).congr (fun i _ => bkF_at v0 v1 A T D U 5 _ rfl i), But.setCell _ _ _ _⟩

set_option maxRecDepth 100000 in
set_option maxHeartbeats 400000 in
theorem grow62_any (w : World) (bk : Nat) (v0 v1 : Value) (A T D U : Int) (h : Bkc w bk v0 v1 A T D U) :
    Calls Tryz.prog 51 #[.pointer (some ⟨bk, 0, none⟩)] w fun e w' => e = .returned (.tuple #[]) ∧ Bkc w' bk v0 v1 A T D U ∧ But w w' bk := by
  have hc : w.cell? ⟨bk, 6, none⟩ = some (.slice none 0 0) := h.cell (i := 6) (by decide)
  have hc2 : w.cell? ⟨bk, 8, none⟩ = some (.int .i64 0) := h.cell (i := 8) (by decide)
  have hf := h.frozen 8
  have hlt := h.lt
  have H := hid h
  clear h
  go_enter Tryz.func51, Tryz.ntmps51
  go_wp2
  go_loop [3] (fun kv => kv = .int .i64 0) (fun _ => 0)
  case atStart => rfl
  case round =>
    subst hrel
    go_wp2
    go_end0
    exact ⟨rfl, (H.out.set 8 _).congr (fun i _ => bkF_at v0 v1 A T D U 8 _ rfl i), But.setCell _ _ _ _⟩

set_option maxRecDepth 100000 in
set_option maxHeartbeats 400000 in
theorem grow63_any (w : World) (bk : Nat) (v0 v1 : Value) (A T D U : Int) (h : Bkc w bk v0 v1 A T D U) :
    Calls Tryz.prog 52 #[.pointer (some ⟨bk, 0, none⟩)] w fun e w' => e = .returned (.tuple #[]) ∧ Bkc w' bk v0 v1 A T D U ∧ But w w' bk := by
  have hc : w.cell? ⟨bk, 9, none⟩ = some (.slice none 0 0) := h.cell (i := 9) (by decide)
  have hc2 : w.cell? ⟨bk, 11, none⟩ = some (.int .i64 0) := h.cell (i := 11) (by decide)
  have hf := h.frozen 11
  have hlt := h.lt
  have H := hid h
  clear h
  go_enter Tryz.func52, Tryz.ntmps52
  go_wp2
  go_loop [3] (fun kv => kv = .int .i64 0) (fun _ => 0)
  case atStart => rfl
  case round =>
    subst hrel
    go_wp2
    go_end0
    exact ⟨rfl, (H.out.set 11 _).congr (fun i _ => bkF_at v0 v1 A T D U 11 _ rfl i), But.setCell _ _ _ _⟩

set_option maxRecDepth 100000 in
set_option maxHeartbeats 400000 in
theorem grow64_any (w : World) (bk : Nat) (v0 v1 : Value) (A T D U : Int) (h : Bkc w bk v0 v1 A T D U) :
    Calls Tryz.prog 53 #[.pointer (some ⟨bk, 0, none⟩)] w fun e w' => e = .returned (.tuple #[]) ∧ Bkc w' bk v0 v1 A T D U ∧ But w w' bk := by
  have hc : w.cell? ⟨bk, 12, none⟩ = some (.slice none 0 0) := h.cell (i := 12) (by decide)
  have hc2 : w.cell? ⟨bk, 14, none⟩ = some (.int .i64 0) := h.cell (i := 14) (by decide)
  have hf := h.frozen 14
  have hlt := h.lt
  have H := hid h
  clear h
  go_enter Tryz.func53, Tryz.ntmps53
  go_wp2
  go_loop [3] (fun kv => kv = .int .i64 0) (fun _ => 0)
  case atStart => rfl
  case round =>
    subst hrel
    go_wp2
    go_end0
    exact ⟨rfl, (H.out.set 14 _).congr (fun i _ => bkF_at v0 v1 A T D U 14 _ rfl i), But.setCell _ _ _ _⟩

set_option maxRecDepth 100000 in
set_option maxHeartbeats 400000 in
theorem grow65_any (w : World) (bk : Nat) (v0 v1 : Value) (A T D U : Int) (h : Bkc w bk v0 v1 A T D U) :
    Calls Tryz.prog 54 #[.pointer (some ⟨bk, 0, none⟩)] w fun e w' => e = .returned (.tuple #[]) ∧ Bkc w' bk v0 v1 A T D U ∧ But w w' bk := by
  have hc : w.cell? ⟨bk, 15, none⟩ = some (.slice none 0 0) := h.cell (i := 15) (by decide)
  have hc2 : w.cell? ⟨bk, 17, none⟩ = some (.int .i64 0) := h.cell (i := 17) (by decide)
  have hf := h.frozen 17
  have hlt := h.lt
  have H := hid h
  clear h
  go_enter Tryz.func54, Tryz.ntmps54
  go_wp2
  go_loop [3] (fun kv => kv = .int .i64 0) (fun _ => 0)
  case atStart => rfl
  case round =>
    subst hrel
    go_wp2
    go_end0
    exact ⟨rfl, (H.out.set 17 _).congr (fun i _ => bkF_at v0 v1 A T D U 17 _ rfl i), But.setCell _ _ _ _⟩

set_option maxRecDepth 100000 in
set_option maxHeartbeats 400000 in
theorem grow67_any (w : World) (bk : Nat) (v0 v1 : Value) (A T D U : Int) (h : Bkc w bk v0 v1 A T D U) :
    Calls Tryz.prog 56 #[.pointer (some ⟨bk, 0, none⟩)] w fun e w' => e = .returned (.tuple #[]) ∧ Bkc w' bk v0 v1 A T D U ∧ But w w' bk := by
  have hc : w.cell? ⟨bk, 21, none⟩ = some (.slice none 0 0) := h.cell (i := 21) (by decide)
  have hc2 : w.cell? ⟨bk, 23, none⟩ = some (.int .i64 0) := h.cell (i := 23) (by decide)
  have hf := h.frozen 23
  have hlt := h.lt
  have H := hid h
  clear h
  go_enter Tryz.func56, Tryz.ntmps56
  go_wp2
  go_loop [3] (fun kv => kv = .int .i64 0) (fun _ => 0)
  case atStart => rfl
  case round =>
    subst hrel
    go_wp2
    go_end0
    exact ⟨rfl, (H.out.set 23 _).congr (fun i _ => bkF_at v0 v1 A T D U 23 _ rfl i), But.setCell _ _ _ _⟩

set_option maxRecDepth 100000 in
set_option maxHeartbeats 400000 in
theorem grow68_any (w : World) (bk : Nat) (v0 v1 : Value) (A T D U : Int) (h : Bkc w bk v0 v1 A T D U) :
    Calls Tryz.prog 57 #[.pointer (some ⟨bk, 0, none⟩)] w fun e w' => e = .returned (.tuple #[]) ∧ Bkc w' bk v0 v1 A T D U ∧ But w w' bk := by
  have hc : w.cell? ⟨bk, 24, none⟩ = some (.slice none 0 0) := h.cell (i := 24) (by decide)
  have hc2 : w.cell? ⟨bk, 26, none⟩ = some (.int .i64 0) := h.cell (i := 26) (by decide)
  have hf := h.frozen 26
  have hlt := h.lt
  have H := hid h
  clear h
  go_enter Tryz.func57, Tryz.ntmps57
  go_wp2
  go_loop [3] (fun kv => kv = .int .i64 0) (fun _ => 0)
  case atStart => rfl
  case round =>
    subst hrel
    go_wp2
    go_end0
    exact ⟨rfl, (H.out.set 26 _).congr (fun i _ => bkF_at v0 v1 A T D U 26 _ rfl i), But.setCell _ _ _ _⟩

set_option maxRecDepth 100000 in
set_option maxHeartbeats 400000 in
theorem grow69_any (w : World) (bk : Nat) (v0 v1 : Value) (A T D U : Int) (h : Bkc w bk v0 v1 A T D U) :
    Calls Tryz.prog 58 #[.pointer (some ⟨bk, 0, none⟩)] w fun e w' => e = .returned (.tuple #[]) ∧ Bkc w' bk v0 v1 A T D U ∧ But w w' bk := by
  have hc : w.cell? ⟨bk, 27, none⟩ = some (.slice none 0 0) := h.cell (i := 27) (by decide)
  have hc2 : w.cell? ⟨bk, 29, none⟩ = some (.int .i64 0) := h.cell (i := 29) (by decide)
  have hf := h.frozen 29
  have hlt := h.lt
  have H := hid h
  clear h
  go_enter Tryz.func58, Tryz.ntmps58
  go_wp2
  go_loop [3] (fun kv => kv = .int .i64 0) (fun _ => 0)
  case atStart => rfl
  case round =>
    subst hrel
    go_wp2
    go_end0
    exact ⟨rfl, (H.out.set 29 _).congr (fun i _ => bkF_at v0 v1 A T D U 29 _ rfl i), But.setCell _ _ _ _⟩

set_option maxRecDepth 100000 in
set_option maxHeartbeats 400000 in
theorem grow70_any (w : World) (bk : Nat) (v0 v1 : Value) (A T D U : Int) (h : Bkc w bk v0 v1 A T D U) :
    Calls Tryz.prog 55 #[.pointer (some ⟨bk, 0, none⟩)] w fun e w' => e = .returned (.tuple #[]) ∧ Bkc w' bk v0 v1 A T D U ∧ But w w' bk := by
  have hc : w.cell? ⟨bk, 18, none⟩ = some (.slice none 0 0) := h.cell (i := 18) (by decide)
  have hc2 : w.cell? ⟨bk, 20, none⟩ = some (.int .i64 0) := h.cell (i := 20) (by decide)
  have hf := h.frozen 20
  have hlt := h.lt
  have H := hid h
  clear h
  go_enter Tryz.func55, Tryz.ntmps55
  go_wp2
  go_loop [3] (fun kv => kv = .int .i64 0) (fun _ => 0)
  case atStart => rfl
  case round =>
    subst hrel
    go_wp2
    go_end0
    exact ⟨rfl, (H.out.set 20 _).congr (fun i _ => bkF_at v0 v1 A T D U 20 _ rfl i), But.setCell _ _ _ _⟩

set_option maxRecDepth 100000 in
set_option maxHeartbeats 400000 in
theorem grow71_any (w : World) (bk : Nat) (v0 v1 : Value) (A T D U : Int) (h : Bkc w bk v0 v1 A T D U) :
    Calls Tryz.prog 60 #[.pointer (some ⟨bk, 0, none⟩)] w fun e w' => e = .returned (.tuple #[]) ∧ Bkc w' bk v0 v1 A T D U ∧ But w w' bk := by
  have hc : w.cell? ⟨bk, 33, none⟩ = some (.slice none 0 0) := h.cell (i := 33) (by decide)
  have hc2 : w.cell? ⟨bk, 35, none⟩ = some (.int .i64 0) := h.cell (i := 35) (by decide)
  have hf := h.frozen 35
  have hlt := h.lt
  have H := hid h
  clear h
  go_enter Tryz.func60, Tryz.ntmps60
  go_wp2
  go_loop [3] (fun kv => kv = .int .i64 0) (fun _ => 0)
  case atStart => rfl
  case round =>
    subst hrel
    go_wp2
    go_end0
    exact ⟨rfl, (H.out.set 35 _).congr (fun i _ => bkF_at v0 v1 A T D U 35 _ rfl i), But.setCell _ _ _ _⟩

set_option maxRecDepth 100000 in
set_option maxHeartbeats 400000 in
theorem grow72_any (w : World) (bk : Nat) (v0 v1 : Value) (A T D U : Int) (h : Bkc w bk v0 v1 A T D U) :
    Calls Tryz.prog 61 #[.pointer (some ⟨bk, 0, none⟩)] w fun e w' => e = .returned (.tuple #[]) ∧ Bkc w' bk v0 v1 A T D U ∧ But w w' bk := by
  have hc : w.cell? ⟨bk, 36, none⟩ = some (.slice none 0 0) := h.cell (i := 36) (by decide)
  have hc2 : w.cell? ⟨bk, 38, none⟩ = some (.int .i64 0) := h.cell (i := 38) (by decide)
  have hf := h.frozen 38
  have hlt := h.lt
  have H := hid h
  clear h
  go_enter Tryz.func61, Tryz.ntmps61
  go_wp2
  go_loop [3] (fun kv => kv = .int .i64 0) (fun _ => 0)
  case atStart => rfl
  case round =>
    subst hrel
    go_wp2
    go_end0
    exact ⟨rfl, (H.out.set 38 _).congr (fun i _ => bkF_at v0 v1 A T D U 38 _ rfl i), But.setCell _ _ _ _⟩

set_option maxRecDepth 100000 in
set_option maxHeartbeats 400000 in
theorem grow73_any (w : World) (bk : Nat) (v0 v1 : Value) (A T D U : Int) (h : Bkc w bk v0 v1 A T D U) :
    Calls Tryz.prog 62 #[.pointer (some ⟨bk, 0, none⟩)] w fun e w' => e = .returned (.tuple #[]) ∧ Bkc w' bk v0 v1 A T D U ∧ But w w' bk := by
  have hc : w.cell? ⟨bk, 39, none⟩ = some (.slice none 0 0) := h.cell (i := 39) (by decide)
  have hc2 : w.cell? ⟨bk, 41, none⟩ = some (.int .i64 0) := h.cell (i := 41) (by decide)
  have hf := h.frozen 41
  have hlt := h.lt
  have H := hid h
  clear h
  go_enter Tryz.func62, Tryz.ntmps62
  go_wp2
  go_loop [3] (fun kv => kv = .int .i64 0) (fun _ => 0)
  case atStart => rfl
  case round =>
    subst hrel
    go_wp2
    go_end0
    exact ⟨rfl, (H.out.set 41 _).congr (fun i _ => bkF_at v0 v1 A T D U 41 _ rfl i), But.setCell _ _ _ _⟩

set_option maxRecDepth 100000 in
set_option maxHeartbeats 400000 in
theorem grow74_any (w : World) (bk : Nat) (v0 v1 : Value) (A T D U : Int) (h : Bkc w bk v0 v1 A T D U) :
    Calls Tryz.prog 63 #[.pointer (some ⟨bk, 0, none⟩)] w fun e w' => e = .returned (.tuple #[]) ∧ Bkc w' bk v0 v1 A T D U ∧ But w w' bk := by
  have hc : w.cell? ⟨bk, 42, none⟩ = some (.slice none 0 0) := h.cell (i := 42) (by decide)
  have hc2 : w.cell? ⟨bk, 44, none⟩ = some (.int .i64 0) := h.cell (i := 44) (by decide)
  have hf := h.frozen 44
  have hlt := h.lt
  have H := hid h
  clear h
  go_enter Tryz.func63, Tryz.ntmps63
  go_wp2
  go_loop [3] (fun kv => kv = .int .i64 0) (fun _ => 0)
  case atStart => rfl
  case round =>
    subst hrel
    go_wp2
    go_end0
    exact ⟨rfl, (H.out.set 44 _).congr (fun i _ => bkF_at v0 v1 A T D U 44 _ rfl i), But.setCell _ _ _ _⟩

set_option maxRecDepth 100000 in
set_option maxHeartbeats 400000 in
theorem grow75_any (w : World) (bk : Nat) (v0 v1 : Value) (A T D U : Int) (h : Bkc w bk v0 v1 A T D U) :
    Calls Tryz.prog 64 #[.pointer (some ⟨bk, 0, none⟩)] w fun e w' => e = .returned (.tuple #[]) ∧ Bkc w' bk v0 v1 A T D U ∧ But w w' bk := by
  have hc : w.cell? ⟨bk, 45, none⟩ = some (.slice none 0 0) := h.cell (i := 45) (by decide)
  have hc2 : w.cell? ⟨bk, 47, none⟩ = some (.int .i64 0) := h.cell (i := 47) (by decide)
  have hf := h.frozen 47
  have hlt := h.lt
  have H := hid h
  clear h
  go_enter Tryz.func64, Tryz.ntmps64
  go_wp2
  go_loop [3] (fun kv => kv = .int .i64 0) (fun _ => 0)
  case atStart => rfl
  case round =>
    subst hrel
    go_wp2
    go_end0
    exact ⟨rfl, (H.out.set 47 _).congr (fun i _ => bkF_at v0 v1 A T D U 47 _ rfl i), But.setCell _ _ _ _⟩

set_option maxRecDepth 100000 in
set_option maxHeartbeats 400000 in
theorem grow76_any (w : World) (bk : Nat) (v0 v1 : Value) (A T D U : Int) (h : Bkc w bk v0 v1 A T D U) :
    Calls Tryz.prog 65 #[.pointer (some ⟨bk, 0, none⟩)] w fun e w' => e = .returned (.tuple #[]) ∧ Bkc w' bk v0 v1 A T D U ∧ But w w' bk := by
  have hc : w.cell? ⟨bk, 48, none⟩ = some (.slice none 0 0) := h.cell (i := 48) (by decide)
  have hc2 : w.cell? ⟨bk, 50, none⟩ = some (.int .i64 0) := h.cell (i := 50) (by decide)
  have hf := h.frozen 50
  have hlt := h.lt
  have H := hid h
  clear h
  go_enter Tryz.func65, Tryz.ntmps65
  go_wp2
  go_loop [3] (fun kv => kv = .int .i64 0) (fun _ => 0)
  case atStart => rfl
  case round =>
    subst hrel
    go_wp2
    go_end0
    exact ⟨rfl, (H.out.set 50 _).congr (fun i _ => bkF_at v0 v1 A T D U 50 _ rfl i), But.setCell _ _ _ _⟩

set_option maxRecDepth 100000 in
set_option maxHeartbeats 400000 in
theorem grow77_any (w : World) (bk : Nat) (v0 v1 : Value) (A T D U : Int) (h : Bkc w bk v0 v1 A T D U) :
    Calls Tryz.prog 66 #[.pointer (some ⟨bk, 0, none⟩)] w fun e w' => e = .returned (.tuple #[]) ∧ Bkc w' bk v0 v1 A T D U ∧ But w w' bk := by
  have hc : w.cell? ⟨bk, 51, none⟩ = some (.slice none 0 0) := h.cell (i := 51) (by decide)
  have hc2 : w.cell? ⟨bk, 53, none⟩ = some (.int .i64 0) := h.cell (i := 53) (by decide)
  have hf := h.frozen 53
  have hlt := h.lt
  have H := hid h
  clear h
  go_enter Tryz.func66, Tryz.ntmps66
  go_wp2
  go_loop [3] (fun kv => kv = .int .i64 0) (fun _ => 0)
  case atStart => rfl
  case round =>
    subst hrel
    go_wp2
    go_end0
    exact ⟨rfl, (H.out.set 53 _).congr (fun i _ => bkF_at v0 v1 A T D U 53 _ rfl i), But.setCell _ _ _ _⟩

set_option maxRecDepth 100000 in
set_option maxHeartbeats 400000 in
theorem grow78_any (w : World) (bk : Nat) (v0 v1 : Value) (A T D U : Int) (h : Bkc w bk v0 v1 A T D U) :
    Calls Tryz.prog 67 #[.pointer (some ⟨bk, 0, none⟩)] w fun e w' => e = .returned (.tuple #[]) ∧ Bkc w' bk v0 v1 A T D U ∧ But w w' bk := by
  have hc : w.cell? ⟨bk, 54, none⟩ = some (.slice none 0 0) := h.cell (i := 54) (by decide)
  have hc2 : w.cell? ⟨bk, 56, none⟩ = some (.int .i64 0) := h.cell (i := 56) (by decide)
  have hf := h.frozen 56
  have hlt := h.lt
  have H := hid h
  clear h
  go_enter Tryz.func67, Tryz.ntmps67
  go_wp2
  go_loop [3] (fun kv => kv = .int .i64 0) (fun _ => 0)
  case atStart => rfl
  case round =>
    subst hrel
    go_wp2
    go_end0
    exact ⟨rfl, (H.out.set 56 _).congr (fun i _ => bkF_at v0 v1 A T D U 56 _ rfl i), But.setCell _ _ _ _⟩

set_option maxRecDepth 100000 in
set_option maxHeartbeats 400000 in
theorem grow79_any (w : World) (bk : Nat) (v0 v1 : Value) (A T D U : Int) (h : Bkc w bk v0 v1 A T D U) :
    Calls Tryz.prog 68 #[.pointer (some ⟨bk, 0, none⟩)] w fun e w' => e = .returned (.tuple #[]) ∧ Bkc w' bk v0 v1 A T D U ∧ But w w' bk := by
  have hc : w.cell? ⟨bk, 57, none⟩ = some (.slice none 0 0) := h.cell (i := 57) (by decide)
  have hc2 : w.cell? ⟨bk, 59, none⟩ = some (.int .i64 0) := h.cell (i := 59) (by decide)
  have hf := h.frozen 59
  have hlt := h.lt
  have H := hid h
  clear h
  go_enter Tryz.func68, Tryz.ntmps68
  go_wp2
  go_loop [3] (fun kv => kv = .int .i64 0) (fun _ => 0)
  case atStart => rfl
  case round =>
    subst hrel
    go_wp2
    go_end0
    exact ⟨rfl, (H.out.set 59 _).congr (fun i _ => bkF_at v0 v1 A T D U 59 _ rfl i), But.setCell _ _ _ _⟩

set_option maxRecDepth 100000 in
set_option maxHeartbeats 400000 in
theorem grow80_any (w : World) (bk : Nat) (v0 v1 : Value) (A T D U : Int) (h : Bkc w bk v0 v1 A T D U) :
    Calls Tryz.prog 69 #[.pointer (some ⟨bk, 0, none⟩)] w fun e w' => e = .returned (.tuple #[]) ∧ Bkc w' bk v0 v1 A T D U ∧ But w w' bk := by
  have hc : w.cell? ⟨bk, 60, none⟩ = some (.slice none 0 0) := h.cell (i := 60) (by decide)
  have hc2 : w.cell? ⟨bk, 62, none⟩ = some (.int .i64 0) := h.cell (i := 62) (by decide)
  have hf := h.frozen 62
  have hlt := h.lt
  have H := hid h
  clear h
  go_enter Tryz.func69, Tryz.ntmps69
  go_wp2
  go_loop [3] (fun kv => kv = .int .i64 0) (fun _ => 0)
  case atStart => rfl
  case round =>
    subst hrel
    go_wp2
    go_end0
    exact ⟨rfl, (H.out.set 62 _).congr (fun i _ => bkF_at v0 v1 A T D U 62 _ rfl i), But.setCell _ _ _ _⟩

set_option maxRecDepth 100000 in
set_option maxHeartbeats 400000 in
theorem grow81_any (w : World) (bk : Nat) (v0 v1 : Value) (A T D U : Int) (h : Bkc w bk v0 v1 A T D U) :
    Calls Tryz.prog 70 #[.pointer (some ⟨bk, 0, none⟩)] w fun e w' => e = .returned (.tuple #[]) ∧ Bkc w' bk v0 v1 A T D U ∧ But w w' bk := by
  have hc : w.cell? ⟨bk, 63, none⟩ = some (.slice none 0 0) := h.cell (i := 63) (by decide)
  have hc2 : w.cell? ⟨bk, 65, none⟩ = some (.int .i64 0) := h.cell (i := 65) (by decide)
  have hf := h.frozen 65
  have hlt := h.lt
  have H := hid h
  clear h
  go_enter Tryz.func70, Tryz.ntmps70
  go_wp2
  go_loop [3] (fun kv => kv = .int .i64 0) (fun _ => 0)
  case atStart => rfl
  case round =>
    subst hrel
    go_wp2
    go_end0
    exact ⟨rfl, (H.out.set 65 _).congr (fun i _ => bkF_at v0 v1 A T D U 65 _ rfl i), But.setCell _ _ _ _⟩

set_option maxRecDepth 100000 in
set_option maxHeartbeats 400000 in
theorem grow82_any (w : World) (bk : Nat) (v0 v1 : Value) (A T D U : Int) (h : Bkc w bk v0 v1 A T D U) :
    Calls Tryz.prog 71 #[.pointer (some ⟨bk, 0, none⟩)] w fun e w' => e = .returned (.tuple #[]) ∧ Bkc w' bk v0 v1 A T D U ∧ But w w' bk := by
  have hc : w.cell? ⟨bk, 66, none⟩ = some (.slice none 0 0) := h.cell (i := 66) (by decide)
  have hc2 : w.cell? ⟨bk, 68, none⟩ = some (.int .i64 0) := h.cell (i := 68) (by decide)
  have hf := h.frozen 68
  have hlt := h.lt
  have H := hid h
  clear h
  go_enter Tryz.func71, Tryz.ntmps71
  go_wp2
  go_loop [3] (fun kv => kv = .int .i64 0) (fun _ => 0)
  case atStart => rfl
  case round =>
    subst hrel
    go_wp2
    go_end0
    exact ⟨rfl, (H.out.set 68 _).congr (fun i _ => bkF_at v0 v1 A T D U 68 _ rfl i), But.setCell _ _ _ _⟩

set_option maxRecDepth 100000 in
set_option maxHeartbeats 400000 in
theorem grow83_any (w : World) (bk : Nat) (v0 v1 : Value) (A T D U : Int) (h : Bkc w bk v0 v1 A T D U) :
    Calls Tryz.prog 72 #[.pointer (some ⟨bk, 0, none⟩)] w fun e w' => e = .returned (.tuple #[]) ∧ Bkc w' bk v0 v1 A T D U ∧ But w w' bk := by
  have hc : w.cell? ⟨bk, 69, none⟩ = some (.slice none 0 0) := h.cell (i := 69) (by decide)
  have hc2 : w.cell? ⟨bk, 71, none⟩ = some (.int .i64 0) := h.cell (i := 71) (by decide)
  have hf := h.frozen 71
  have hlt := h.lt
  have H := hid h
  clear h
  go_enter Tryz.func72, Tryz.ntmps72
  go_wp2
  go_loop [3] (fun kv => kv = .int .i64 0) (fun _ => 0)
  case atStart => rfl
  case round =>
    subst hrel
    go_wp2
    go_end0
    exact ⟨rfl, (H.out.set 71 _).congr (fun i _ => bkF_at v0 v1 A T D U 71 _ rfl i), But.setCell _ _ _ _⟩

end Go.Proofs.YtlgjmhemgfjgnaaGreat
