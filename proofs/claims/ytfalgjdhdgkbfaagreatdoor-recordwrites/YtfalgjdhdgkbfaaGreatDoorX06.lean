/- The walks of the book's grows, but for that of the lists of bytes: their lists are empty. -/
import Derived.Test.YtfalgjdhdgkbfaaGreatDoorX05
namespace Go.Proofs.YtfalgjdhdgkbfaaGreatDoor.Bk
open Go Go.RowKit
open Go.RowKit (wrap32 wrap64)

theorem bkF_at (v0 v1 : Value) (A T D U : Int) (o : Nat) (u : Value) (hu : bkF v0 v1 A T D U o = u) (i : Nat) : (if i = o then u else bkF v0 v1 A T D U i) = bkF v0 v1 A T D U i := by
  by_cases h : i = o
  · rw [if_pos h, h, hu]
  · rw [if_neg h]

set_option maxRecDepth 100000 in
set_option maxHeartbeats 400000 in
theorem grow84_any (w : World) (bk : Nat) (v0 v1 : Value) (A T D U : Int) (h : Bkc w bk v0 v1 A T D U) :
    Calls Tryz.prog 84 #[.pointer (some ⟨bk, 0, none⟩)] w fun e w' => e = .returned (.tuple #[]) ∧ Bkc w' bk v0 v1 A T D U ∧ But w w' bk := by
  have hc : w.cell? ⟨bk, 3, none⟩ = some (.slice none 0 0) := h.cell (i := 3) (by decide)
  have hc2 : w.cell? ⟨bk, 5, none⟩ = some (.int .i64 0) := h.cell (i := 5) (by decide)
  have hf := h.frozen 5
  have hlt := h.lt
  have H := hid h
  clear h
  go_enter Tryz.func84, Tryz.ntmps84
  go_wp2
  go_loop [3] (fun kv => kv = .int .i64 0) (fun _ => 0)
  case atStart => rfl
  case round =>
    subst hrel
    go_wp2
    go_end0
    exact ⟨rfl, (H.out.set 5 _).congr (fun i _ => bkF_at v0 v1 A T D U 5 _ rfl i), But.setCell _ _ _ _⟩

set_option maxRecDepth 100000 in
set_option maxHeartbeats 400000 in
theorem grow85_any (w : World) (bk : Nat) (v0 v1 : Value) (A T D U : Int) (h : Bkc w bk v0 v1 A T D U) :
    Calls Tryz.prog 85 #[.pointer (some ⟨bk, 0, none⟩)] w fun e w' => e = .returned (.tuple #[]) ∧ Bkc w' bk v0 v1 A T D U ∧ But w w' bk := by
  have hc : w.cell? ⟨bk, 6, none⟩ = some (.slice none 0 0) := h.cell (i := 6) (by decide)
  have hc2 : w.cell? ⟨bk, 8, none⟩ = some (.int .i64 0) := h.cell (i := 8) (by decide)
  have hf := h.frozen 8
  have hlt := h.lt
  have H := hid h
  clear h
  go_enter Tryz.func85, Tryz.ntmps85
  go_wp2
  go_loop [3] (fun kv => kv = .int .i64 0) (fun _ => 0)
  case atStart => rfl
  case round =>
    subst hrel
    go_wp2
    go_end0
    exact ⟨rfl, (H.out.set 8 _).congr (fun i _ => bkF_at v0 v1 A T D U 8 _ rfl i), But.setCell _ _ _ _⟩

set_option maxRecDepth 100000 in
set_option maxHeartbeats 400000 in
theorem grow86_any (w : World) (bk : Nat) (v0 v1 : Value) (A T D U : Int) (h : Bkc w bk v0 v1 A T D U) :
    Calls Tryz.prog 86 #[.pointer (some ⟨bk, 0, none⟩)] w fun e w' => e = .returned (.tuple #[]) ∧ Bkc w' bk v0 v1 A T D U ∧ But w w' bk := by
  have hc : w.cell? ⟨bk, 9, none⟩ = some (.slice none 0 0) := h.cell (i := 9) (by decide)
  have hc2 : w.cell? ⟨bk, 11, none⟩ = some (.int .i64 0) := h.cell (i := 11) (by decide)
  have hf := h.frozen 11
  have hlt := h.lt
  have H := hid h
  clear h
  go_enter Tryz.func86, Tryz.ntmps86
  go_wp2
  go_loop [3] (fun kv => kv = .int .i64 0) (fun _ => 0)
  case atStart => rfl
  case round =>
    subst hrel
    go_wp2
    go_end0
    exact ⟨rfl, (H.out.set 11 _).congr (fun i _ => bkF_at v0 v1 A T D U 11 _ rfl i), But.setCell _ _ _ _⟩

set_option maxRecDepth 100000 in
set_option maxHeartbeats 400000 in
theorem grow87_any (w : World) (bk : Nat) (v0 v1 : Value) (A T D U : Int) (h : Bkc w bk v0 v1 A T D U) :
    Calls Tryz.prog 87 #[.pointer (some ⟨bk, 0, none⟩)] w fun e w' => e = .returned (.tuple #[]) ∧ Bkc w' bk v0 v1 A T D U ∧ But w w' bk := by
  have hc : w.cell? ⟨bk, 12, none⟩ = some (.slice none 0 0) := h.cell (i := 12) (by decide)
  have hc2 : w.cell? ⟨bk, 14, none⟩ = some (.int .i64 0) := h.cell (i := 14) (by decide)
  have hf := h.frozen 14
  have hlt := h.lt
  have H := hid h
  clear h
  go_enter Tryz.func87, Tryz.ntmps87
  go_wp2
  go_loop [3] (fun kv => kv = .int .i64 0) (fun _ => 0)
  case atStart => rfl
  case round =>
    subst hrel
    go_wp2
    go_end0
    exact ⟨rfl, (H.out.set 14 _).congr (fun i _ => bkF_at v0 v1 A T D U 14 _ rfl i), But.setCell _ _ _ _⟩

set_option maxRecDepth 100000 in
set_option maxHeartbeats 400000 in
theorem grow88_any (w : World) (bk : Nat) (v0 v1 : Value) (A T D U : Int) (h : Bkc w bk v0 v1 A T D U) :
    Calls Tryz.prog 88 #[.pointer (some ⟨bk, 0, none⟩)] w fun e w' => e = .returned (.tuple #[]) ∧ Bkc w' bk v0 v1 A T D U ∧ But w w' bk := by
  have hc : w.cell? ⟨bk, 15, none⟩ = some (.slice none 0 0) := h.cell (i := 15) (by decide)
  have hc2 : w.cell? ⟨bk, 17, none⟩ = some (.int .i64 0) := h.cell (i := 17) (by decide)
  have hf := h.frozen 17
  have hlt := h.lt
  have H := hid h
  clear h
  go_enter Tryz.func88, Tryz.ntmps88
  go_wp2
  go_loop [3] (fun kv => kv = .int .i64 0) (fun _ => 0)
  case atStart => rfl
  case round =>
    subst hrel
    go_wp2
    go_end0
    exact ⟨rfl, (H.out.set 17 _).congr (fun i _ => bkF_at v0 v1 A T D U 17 _ rfl i), But.setCell _ _ _ _⟩

set_option maxRecDepth 100000 in
set_option maxHeartbeats 400000 in
theorem grow89_any (w : World) (bk : Nat) (v0 v1 : Value) (A T D U : Int) (h : Bkc w bk v0 v1 A T D U) :
    Calls Tryz.prog 89 #[.pointer (some ⟨bk, 0, none⟩)] w fun e w' => e = .returned (.tuple #[]) ∧ Bkc w' bk v0 v1 A T D U ∧ But w w' bk := by
  have hc : w.cell? ⟨bk, 18, none⟩ = some (.slice none 0 0) := h.cell (i := 18) (by decide)
  have hc2 : w.cell? ⟨bk, 20, none⟩ = some (.int .i64 0) := h.cell (i := 20) (by decide)
  have hf := h.frozen 20
  have hlt := h.lt
  have H := hid h
  clear h
  go_enter Tryz.func89, Tryz.ntmps89
  go_wp2
  go_loop [3] (fun kv => kv = .int .i64 0) (fun _ => 0)
  case atStart => rfl
  case round =>
    subst hrel
    go_wp2
    go_end0
    exact ⟨rfl, (H.out.set 20 _).congr (fun i _ => bkF_at v0 v1 A T D U 20 _ rfl i), But.setCell _ _ _ _⟩

set_option maxRecDepth 100000 in
set_option maxHeartbeats 400000 in
theorem grow90_any (w : World) (bk : Nat) (v0 v1 : Value) (A T D U : Int) (h : Bkc w bk v0 v1 A T D U) :
    Calls Tryz.prog 90 #[.pointer (some ⟨bk, 0, none⟩)] w fun e w' => e = .returned (.tuple #[]) ∧ Bkc w' bk v0 v1 A T D U ∧ But w w' bk := by
  have hc : w.cell? ⟨bk, 21, none⟩ = some (.slice none 0 0) := h.cell (i := 21) (by decide)
  have hc2 : w.cell? ⟨bk, 23, none⟩ = some (.int .i64 0) := h.cell (i := 23) (by decide)
  have hf := h.frozen 23
  have hlt := h.lt
  have H := hid h
  clear h
  go_enter Tryz.func90, Tryz.ntmps90
  go_wp2
  go_loop [3] (fun kv => kv = .int .i64 0) (fun _ => 0)
  case atStart => rfl
  case round =>
    subst hrel
    go_wp2
    go_end0
    exact ⟨rfl, (H.out.set 23 _).congr (fun i _ => bkF_at v0 v1 A T D U 23 _ rfl i), But.setCell _ _ _ _⟩

set_option maxRecDepth 100000 in
set_option maxHeartbeats 400000 in
theorem grow91_any (w : World) (bk : Nat) (v0 v1 : Value) (A T D U : Int) (h : Bkc w bk v0 v1 A T D U) :
    Calls Tryz.prog 91 #[.pointer (some ⟨bk, 0, none⟩)] w fun e w' => e = .returned (.tuple #[]) ∧ Bkc w' bk v0 v1 A T D U ∧ But w w' bk := by
  have hc : w.cell? ⟨bk, 24, none⟩ = some (.slice none 0 0) := h.cell (i := 24) (by decide)
  have hc2 : w.cell? ⟨bk, 26, none⟩ = some (.int .i64 0) := h.cell (i := 26) (by decide)
  have hf := h.frozen 26
  have hlt := h.lt
  have H := hid h
  clear h
  go_enter Tryz.func91, Tryz.ntmps91
  go_wp2
  go_loop [3] (fun kv => kv = .int .i64 0) (fun _ => 0)
  case atStart => rfl
  case round =>
    subst hrel
    go_wp2
    go_end0
    exact ⟨rfl, (H.out.set 26 _).congr (fun i _ => bkF_at v0 v1 A T D U 26 _ rfl i), But.setCell _ _ _ _⟩

set_option maxRecDepth 100000 in
set_option maxHeartbeats 400000 in
theorem grow92_any (w : World) (bk : Nat) (v0 v1 : Value) (A T D U : Int) (h : Bkc w bk v0 v1 A T D U) :
    Calls Tryz.prog 92 #[.pointer (some ⟨bk, 0, none⟩)] w fun e w' => e = .returned (.tuple #[]) ∧ Bkc w' bk v0 v1 A T D U ∧ But w w' bk := by
  have hc : w.cell? ⟨bk, 27, none⟩ = some (.slice none 0 0) := h.cell (i := 27) (by decide)
  have hc2 : w.cell? ⟨bk, 29, none⟩ = some (.int .i64 0) := h.cell (i := 29) (by decide)
  have hf := h.frozen 29
  have hlt := h.lt
  have H := hid h
  clear h
  go_enter Tryz.func92, Tryz.ntmps92
  go_wp2
  go_loop [3] (fun kv => kv = .int .i64 0) (fun _ => 0)
  case atStart => rfl
  case round =>
    subst hrel
    go_wp2
    go_end0
    exact ⟨rfl, (H.out.set 29 _).congr (fun i _ => bkF_at v0 v1 A T D U 29 _ rfl i), But.setCell _ _ _ _⟩

set_option maxRecDepth 100000 in
set_option maxHeartbeats 400000 in
theorem grow93_any (w : World) (bk : Nat) (v0 v1 : Value) (A T D U : Int) (h : Bkc w bk v0 v1 A T D U) :
    Calls Tryz.prog 93 #[.pointer (some ⟨bk, 0, none⟩)] w fun e w' => e = .returned (.tuple #[]) ∧ Bkc w' bk v0 v1 A T D U ∧ But w w' bk := by
  have hc : w.cell? ⟨bk, 30, none⟩ = some (.slice none 0 0) := h.cell (i := 30) (by decide)
  have hc2 : w.cell? ⟨bk, 32, none⟩ = some (.int .i64 0) := h.cell (i := 32) (by decide)
  have hf := h.frozen 32
  have hlt := h.lt
  have H := hid h
  clear h
  go_enter Tryz.func93, Tryz.ntmps93
  go_wp2
  go_loop [3] (fun kv => kv = .int .i64 0) (fun _ => 0)
  case atStart => rfl
  case round =>
    subst hrel
    go_wp2
    go_end0
    exact ⟨rfl, (H.out.set 32 _).congr (fun i _ => bkF_at v0 v1 A T D U 32 _ rfl i), But.setCell _ _ _ _⟩

set_option maxRecDepth 100000 in
set_option maxHeartbeats 400000 in
theorem grow94_any (w : World) (bk : Nat) (v0 v1 : Value) (A T D U : Int) (h : Bkc w bk v0 v1 A T D U) :
    Calls Tryz.prog 94 #[.pointer (some ⟨bk, 0, none⟩)] w fun e w' => e = .returned (.tuple #[]) ∧ Bkc w' bk v0 v1 A T D U ∧ But w w' bk := by
  have hc : w.cell? ⟨bk, 33, none⟩ = some (.slice none 0 0) := h.cell (i := 33) (by decide)
  have hc2 : w.cell? ⟨bk, 35, none⟩ = some (.int .i64 0) := h.cell (i := 35) (by decide)
  have hf := h.frozen 35
  have hlt := h.lt
  have H := hid h
  clear h
  go_enter Tryz.func94, Tryz.ntmps94
  go_wp2
  go_loop [3] (fun kv => kv = .int .i64 0) (fun _ => 0)
  case atStart => rfl
  case round =>
    subst hrel
    go_wp2
    go_end0
    exact ⟨rfl, (H.out.set 35 _).congr (fun i _ => bkF_at v0 v1 A T D U 35 _ rfl i), But.setCell _ _ _ _⟩

set_option maxRecDepth 100000 in
set_option maxHeartbeats 400000 in
theorem grow95_any (w : World) (bk : Nat) (v0 v1 : Value) (A T D U : Int) (h : Bkc w bk v0 v1 A T D U) :
    Calls Tryz.prog 95 #[.pointer (some ⟨bk, 0, none⟩)] w fun e w' => e = .returned (.tuple #[]) ∧ Bkc w' bk v0 v1 A T D U ∧ But w w' bk := by
  have hc : w.cell? ⟨bk, 36, none⟩ = some (.slice none 0 0) := h.cell (i := 36) (by decide)
  have hc2 : w.cell? ⟨bk, 38, none⟩ = some (.int .i64 0) := h.cell (i := 38) (by decide)
  have hf := h.frozen 38
  have hlt := h.lt
  have H := hid h
  clear h
  go_enter Tryz.func95, Tryz.ntmps95
  go_wp2
  go_loop [3] (fun kv => kv = .int .i64 0) (fun _ => 0)
  case atStart => rfl
  case round =>
    subst hrel
    go_wp2
    go_end0
    exact ⟨rfl, (H.out.set 38 _).congr (fun i _ => bkF_at v0 v1 A T D U 38 _ rfl i), But.setCell _ _ _ _⟩

set_option maxRecDepth 100000 in
set_option maxHeartbeats 400000 in
theorem grow96_any (w : World) (bk : Nat) (v0 v1 : Value) (A T D U : Int) (h : Bkc w bk v0 v1 A T D U) :
    Calls Tryz.prog 96 #[.pointer (some ⟨bk, 0, none⟩)] w fun e w' => e = .returned (.tuple #[]) ∧ Bkc w' bk v0 v1 A T D U ∧ But w w' bk := by
  have hc : w.cell? ⟨bk, 39, none⟩ = some (.slice none 0 0) := h.cell (i := 39) (by decide)
  have hc2 : w.cell? ⟨bk, 41, none⟩ = some (.int .i64 0) := h.cell (i := 41) (by decide)
  have hf := h.frozen 41
  have hlt := h.lt
  have H := hid h
  clear h
  go_enter Tryz.func96, Tryz.ntmps96
  go_wp2
  go_loop [3] (fun kv => kv = .int .i64 0) (fun _ => 0)
  case atStart => rfl
  case round =>
    subst hrel
    go_wp2
    go_end0
    exact ⟨rfl, (H.out.set 41 _).congr (fun i _ => bkF_at v0 v1 A T D U 41 _ rfl i), But.setCell _ _ _ _⟩

set_option maxRecDepth 100000 in
set_option maxHeartbeats 400000 in
theorem grow97_any (w : World) (bk : Nat) (v0 v1 : Value) (A T D U : Int) (h : Bkc w bk v0 v1 A T D U) :
    Calls Tryz.prog 97 #[.pointer (some ⟨bk, 0, none⟩)] w fun e w' => e = .returned (.tuple #[]) ∧ Bkc w' bk v0 v1 A T D U ∧ But w w' bk := by
  have hc : w.cell? ⟨bk, 42, none⟩ = some (.slice none 0 0) := h.cell (i := 42) (by decide)
  have hc2 : w.cell? ⟨bk, 44, none⟩ = some (.int .i64 0) := h.cell (i := 44) (by decide)
  have hf := h.frozen 44
  have hlt := h.lt
  have H := hid h
  clear h
  go_enter Tryz.func97, Tryz.ntmps97
  go_wp2
  go_loop [3] (fun kv => kv = .int .i64 0) (fun _ => 0)
  case atStart => rfl
  case round =>
    subst hrel
    go_wp2
    go_end0
    exact ⟨rfl, (H.out.set 44 _).congr (fun i _ => bkF_at v0 v1 A T D U 44 _ rfl i), But.setCell _ _ _ _⟩

set_option maxRecDepth 100000 in
set_option maxHeartbeats 400000 in
theorem grow98_any (w : World) (bk : Nat) (v0 v1 : Value) (A T D U : Int) (h : Bkc w bk v0 v1 A T D U) :
    Calls Tryz.prog 98 #[.pointer (some ⟨bk, 0, none⟩)] w fun e w' => e = .returned (.tuple #[]) ∧ Bkc w' bk v0 v1 A T D U ∧ But w w' bk := by
  have hc : w.cell? ⟨bk, 45, none⟩ = some (.slice none 0 0) := h.cell (i := 45) (by decide)
  have hc2 : w.cell? ⟨bk, 47, none⟩ = some (.int .i64 0) := h.cell (i := 47) (by decide)
  have hf := h.frozen 47
  have hlt := h.lt
  have H := hid h
  clear h
  go_enter Tryz.func98, Tryz.ntmps98
  go_wp2
  go_loop [3] (fun kv => kv = .int .i64 0) (fun _ => 0)
  case atStart => rfl
  case round =>
    subst hrel
    go_wp2
    go_end0
    exact ⟨rfl, (H.out.set 47 _).congr (fun i _ => bkF_at v0 v1 A T D U 47 _ rfl i), But.setCell _ _ _ _⟩

set_option maxRecDepth 100000 in
set_option maxHeartbeats 400000 in
theorem grow99_any (w : World) (bk : Nat) (v0 v1 : Value) (A T D U : Int) (h : Bkc w bk v0 v1 A T D U) :
    Calls Tryz.prog 99 #[.pointer (some ⟨bk, 0, none⟩)] w fun e w' => e = .returned (.tuple #[]) ∧ Bkc w' bk v0 v1 A T D U ∧ But w w' bk := by
  have hc : w.cell? ⟨bk, 48, none⟩ = some (.slice none 0 0) := h.cell (i := 48) (by decide)
  have hc2 : w.cell? ⟨bk, 50, none⟩ = some (.int .i64 0) := h.cell (i := 50) (by decide)
  have hf := h.frozen 50
  have hlt := h.lt
  have H := hid h
  clear h
  go_enter Tryz.func99, Tryz.ntmps99
  go_wp2
  go_loop [3] (fun kv => kv = .int .i64 0) (fun _ => 0)
  case atStart => rfl
  case round =>
    subst hrel
    go_wp2
    go_end0
    exact ⟨rfl, (H.out.set 50 _).congr (fun i _ => bkF_at v0 v1 A T D U 50 _ rfl i), But.setCell _ _ _ _⟩

set_option maxRecDepth 100000 in
set_option maxHeartbeats 400000 in
theorem grow100_any (w : World) (bk : Nat) (v0 v1 : Value) (A T D U : Int) (h : Bkc w bk v0 v1 A T D U) :
    Calls Tryz.prog 100 #[.pointer (some ⟨bk, 0, none⟩)] w fun e w' => e = .returned (.tuple #[]) ∧ Bkc w' bk v0 v1 A T D U ∧ But w w' bk := by
  have hc : w.cell? ⟨bk, 51, none⟩ = some (.slice none 0 0) := h.cell (i := 51) (by decide)
  have hc2 : w.cell? ⟨bk, 53, none⟩ = some (.int .i64 0) := h.cell (i := 53) (by decide)
  have hf := h.frozen 53
  have hlt := h.lt
  have H := hid h
  clear h
  go_enter Tryz.func100, Tryz.ntmps100
  go_wp2
  go_loop [3] (fun kv => kv = .int .i64 0) (fun _ => 0)
  case atStart => rfl
  case round =>
    subst hrel
    go_wp2
    go_end0
    exact ⟨rfl, (H.out.set 53 _).congr (fun i _ => bkF_at v0 v1 A T D U 53 _ rfl i), But.setCell _ _ _ _⟩

set_option maxRecDepth 100000 in
set_option maxHeartbeats 400000 in
theorem grow101_any (w : World) (bk : Nat) (v0 v1 : Value) (A T D U : Int) (h : Bkc w bk v0 v1 A T D U) :
    Calls Tryz.prog 101 #[.pointer (some ⟨bk, 0, none⟩)] w fun e w' => e = .returned (.tuple #[]) ∧ Bkc w' bk v0 v1 A T D U ∧ But w w' bk := by
  have hc : w.cell? ⟨bk, 54, none⟩ = some (.slice none 0 0) := h.cell (i := 54) (by decide)
  have hc2 : w.cell? ⟨bk, 56, none⟩ = some (.int .i64 0) := h.cell (i := 56) (by decide)
  have hf := h.frozen 56
  have hlt := h.lt
  have H := hid h
  clear h
  go_enter Tryz.func101, Tryz.ntmps101
  go_wp2
  go_loop [3] (fun kv => kv = .int .i64 0) (fun _ => 0)
  case atStart => rfl
  case round =>
    subst hrel
    go_wp2
    go_end0
    exact ⟨rfl, (H.out.set 56 _).congr (fun i _ => bkF_at v0 v1 A T D U 56 _ rfl i), But.setCell _ _ _ _⟩

set_option maxRecDepth 100000 in
set_option maxHeartbeats 400000 in
theorem grow102_any (w : World) (bk : Nat) (v0 v1 : Value) (A T D U : Int) (h : Bkc w bk v0 v1 A T D U) :
    Calls Tryz.prog 102 #[.pointer (some ⟨bk, 0, none⟩)] w fun e w' => e = .returned (.tuple #[]) ∧ Bkc w' bk v0 v1 A T D U ∧ But w w' bk := by
  have hc : w.cell? ⟨bk, 57, none⟩ = some (.slice none 0 0) := h.cell (i := 57) (by decide)
  have hc2 : w.cell? ⟨bk, 59, none⟩ = some (.int .i64 0) := h.cell (i := 59) (by decide)
  have hf := h.frozen 59
  have hlt := h.lt
  have H := hid h
  clear h
  go_enter Tryz.func102, Tryz.ntmps102
  go_wp2
  go_loop [3] (fun kv => kv = .int .i64 0) (fun _ => 0)
  case atStart => rfl
  case round =>
    subst hrel
    go_wp2
    go_end0
    exact ⟨rfl, (H.out.set 59 _).congr (fun i _ => bkF_at v0 v1 A T D U 59 _ rfl i), But.setCell _ _ _ _⟩

set_option maxRecDepth 100000 in
set_option maxHeartbeats 400000 in
theorem grow103_any (w : World) (bk : Nat) (v0 v1 : Value) (A T D U : Int) (h : Bkc w bk v0 v1 A T D U) :
    Calls Tryz.prog 103 #[.pointer (some ⟨bk, 0, none⟩)] w fun e w' => e = .returned (.tuple #[]) ∧ Bkc w' bk v0 v1 A T D U ∧ But w w' bk := by
  have hc : w.cell? ⟨bk, 60, none⟩ = some (.slice none 0 0) := h.cell (i := 60) (by decide)
  have hc2 : w.cell? ⟨bk, 62, none⟩ = some (.int .i64 0) := h.cell (i := 62) (by decide)
  have hf := h.frozen 62
  have hlt := h.lt
  have H := hid h
  clear h
  go_enter Tryz.func103, Tryz.ntmps103
  go_wp2
  go_loop [3] (fun kv => kv = .int .i64 0) (fun _ => 0)
  case atStart => rfl
  case round =>
    subst hrel
    go_wp2
    go_end0
    exact ⟨rfl, (H.out.set 62 _).congr (fun i _ => bkF_at v0 v1 A T D U 62 _ rfl i), But.setCell _ _ _ _⟩

set_option maxRecDepth 100000 in
set_option maxHeartbeats 400000 in
theorem grow104_any (w : World) (bk : Nat) (v0 v1 : Value) (A T D U : Int) (h : Bkc w bk v0 v1 A T D U) :
    Calls Tryz.prog 104 #[.pointer (some ⟨bk, 0, none⟩)] w fun e w' => e = .returned (.tuple #[]) ∧ Bkc w' bk v0 v1 A T D U ∧ But w w' bk := by
  have hc : w.cell? ⟨bk, 63, none⟩ = some (.slice none 0 0) := h.cell (i := 63) (by decide)
  have hc2 : w.cell? ⟨bk, 65, none⟩ = some (.int .i64 0) := h.cell (i := 65) (by decide)
  have hf := h.frozen 65
  have hlt := h.lt
  have H := hid h
  clear h
  go_enter Tryz.func104, Tryz.ntmps104
  go_wp2
  go_loop [3] (fun kv => kv = .int .i64 0) (fun _ => 0)
  case atStart => rfl
  case round =>
    subst hrel
    go_wp2
    go_end0
    exact ⟨rfl, (H.out.set 65 _).congr (fun i _ => bkF_at v0 v1 A T D U 65 _ rfl i), But.setCell _ _ _ _⟩

set_option maxRecDepth 100000 in
set_option maxHeartbeats 400000 in
theorem grow105_any (w : World) (bk : Nat) (v0 v1 : Value) (A T D U : Int) (h : Bkc w bk v0 v1 A T D U) :
    Calls Tryz.prog 105 #[.pointer (some ⟨bk, 0, none⟩)] w fun e w' => e = .returned (.tuple #[]) ∧ Bkc w' bk v0 v1 A T D U ∧ But w w' bk := by
  have hc : w.cell? ⟨bk, 66, none⟩ = some (.slice none 0 0) := h.cell (i := 66) (by decide)
  have hc2 : w.cell? ⟨bk, 68, none⟩ = some (.int .i64 0) := h.cell (i := 68) (by decide)
  have hf := h.frozen 68
  have hlt := h.lt
  have H := hid h
  clear h
  go_enter Tryz.func105, Tryz.ntmps105
  go_wp2
  go_loop [3] (fun kv => kv = .int .i64 0) (fun _ => 0)
  case atStart => rfl
  case round =>
    subst hrel
    go_wp2
    go_end0
    exact ⟨rfl, (H.out.set 68 _).congr (fun i _ => bkF_at v0 v1 A T D U 68 _ rfl i), But.setCell _ _ _ _⟩

set_option maxRecDepth 100000 in
set_option maxHeartbeats 400000 in
theorem grow106_any (w : World) (bk : Nat) (v0 v1 : Value) (A T D U : Int) (h : Bkc w bk v0 v1 A T D U) :
    Calls Tryz.prog 106 #[.pointer (some ⟨bk, 0, none⟩)] w fun e w' => e = .returned (.tuple #[]) ∧ Bkc w' bk v0 v1 A T D U ∧ But w w' bk := by
  have hc : w.cell? ⟨bk, 69, none⟩ = some (.slice none 0 0) := h.cell (i := 69) (by decide)
  have hc2 : w.cell? ⟨bk, 71, none⟩ = some (.int .i64 0) := h.cell (i := 71) (by decide)
  have hf := h.frozen 71
  have hlt := h.lt
  have H := hid h
  clear h
  go_enter Tryz.func106, Tryz.ntmps106
  go_wp2
  go_loop [3] (fun kv => kv = .int .i64 0) (fun _ => 0)
  case atStart => rfl
  case round =>
    subst hrel
    go_wp2
    go_end0
    exact ⟨rfl, (H.out.set 71 _).congr (fun i _ => bkF_at v0 v1 A T D U 71 _ rfl i), But.setCell _ _ _ _⟩

end Go.Proofs.YtfalgjdhdgkbfaaGreatDoor.Bk

namespace Go.Proofs.YtfalgjdhdgkbfaaGreatDoor.Bk
open Go Go.RowKit
open Go.RowKit (wrap32 wrap64)

set_option maxRecDepth 100000 in
set_option maxHeartbeats 800000 in
theorem look77_any (w : World) (bk : Nat) (v0 v1 : Value) (A T D U : Int) (h : Bkc w bk v0 v1 A T D U) :
    Calls Tryz.prog 77 #[.pointer (some ⟨bk, 0, none⟩)] w fun e w' => e = .returned (.bool true) ∧ w' = w := by
  have hc0 : w.cell? ⟨bk, 6, none⟩ = some (.slice none 0 0) := h.cell (i := 6) (by decide)
  have hc1 : w.cell? ⟨bk, 9, none⟩ = some (.slice none 0 0) := h.cell (i := 9) (by decide)
  have hc2 : w.cell? ⟨bk, 12, none⟩ = some (.slice none 0 0) := h.cell (i := 12) (by decide)
  have hc3 : w.cell? ⟨bk, 15, none⟩ = some (.slice none 0 0) := h.cell (i := 15) (by decide)
  have hlt := h.lt
  clear h
  go_enter Tryz.func77, Tryz.ntmps77
  go_wp2
  go_loop [3] (fun iv => iv = .int .i64 0) (fun _ => 0)
  case atStart => rfl
  case round =>
    as_aux_lemma =>
    subst hrel
    go_wp2
    go_loop [5] (fun iv => iv = .int .i64 0) (fun _ => 0)
    case atStart => rfl
    case round =>
      as_aux_lemma =>
      subst hrel
      go_wp2
      go_loop [7] (fun iv => iv = .int .i64 0) (fun _ => 0)
      case atStart => rfl
      case round =>
        as_aux_lemma =>
        subst hrel
        go_wp2
        go_loop [9] (fun iv => iv = .int .i64 0) (fun _ => 0)
        case atStart => rfl
        case round =>
          as_aux_lemma =>
          subst hrel
          go_wp2
          go_ret
          exact ⟨rfl, rfl⟩

set_option maxRecDepth 100000 in
set_option maxHeartbeats 800000 in
theorem look78_any (w : World) (bk : Nat) (v0 v1 : Value) (A T D U : Int) (h : Bkc w bk v0 v1 A T D U) :
    Calls Tryz.prog 78 #[.pointer (some ⟨bk, 0, none⟩)] w fun e w' => e = .returned (.bool true) ∧ w' = w := by
  have hc0 : w.cell? ⟨bk, 18, none⟩ = some (.slice none 0 0) := h.cell (i := 18) (by decide)
  have hc1 : w.cell? ⟨bk, 21, none⟩ = some (.slice none 0 0) := h.cell (i := 21) (by decide)
  have hc2 : w.cell? ⟨bk, 24, none⟩ = some (.slice none 0 0) := h.cell (i := 24) (by decide)
  have hc3 : w.cell? ⟨bk, 27, none⟩ = some (.slice none 0 0) := h.cell (i := 27) (by decide)
  have hlt := h.lt
  clear h
  go_enter Tryz.func78, Tryz.ntmps78
  go_wp2
  go_loop [3] (fun iv => iv = .int .i64 0) (fun _ => 0)
  case atStart => rfl
  case round =>
    as_aux_lemma =>
    subst hrel
    go_wp2
    go_loop [5] (fun iv => iv = .int .i64 0) (fun _ => 0)
    case atStart => rfl
    case round =>
      as_aux_lemma =>
      subst hrel
      go_wp2
      go_loop [7] (fun iv => iv = .int .i64 0) (fun _ => 0)
      case atStart => rfl
      case round =>
        as_aux_lemma =>
        subst hrel
        go_wp2
        go_loop [9] (fun iv => iv = .int .i64 0) (fun _ => 0)
        case atStart => rfl
        case round =>
          as_aux_lemma =>
          subst hrel
          go_wp2
          go_ret
          exact ⟨rfl, rfl⟩

set_option maxRecDepth 100000 in
set_option maxHeartbeats 800000 in
theorem look79_any (w : World) (bk : Nat) (v0 v1 : Value) (A T D U : Int) (h : Bkc w bk v0 v1 A T D U) :
    Calls Tryz.prog 79 #[.pointer (some ⟨bk, 0, none⟩)] w fun e w' => e = .returned (.bool true) ∧ w' = w := by
  have hc0 : w.cell? ⟨bk, 30, none⟩ = some (.slice none 0 0) := h.cell (i := 30) (by decide)
  have hc1 : w.cell? ⟨bk, 33, none⟩ = some (.slice none 0 0) := h.cell (i := 33) (by decide)
  have hc2 : w.cell? ⟨bk, 36, none⟩ = some (.slice none 0 0) := h.cell (i := 36) (by decide)
  have hc3 : w.cell? ⟨bk, 39, none⟩ = some (.slice none 0 0) := h.cell (i := 39) (by decide)
  have hlt := h.lt
  clear h
  go_enter Tryz.func79, Tryz.ntmps79
  go_wp2
  go_loop [3] (fun iv => iv = .int .i64 0) (fun _ => 0)
  case atStart => rfl
  case round =>
    as_aux_lemma =>
    subst hrel
    go_wp2
    go_loop [5] (fun iv => iv = .int .i64 0) (fun _ => 0)
    case atStart => rfl
    case round =>
      as_aux_lemma =>
      subst hrel
      go_wp2
      go_loop [7] (fun iv => iv = .int .i64 0) (fun _ => 0)
      case atStart => rfl
      case round =>
        as_aux_lemma =>
        subst hrel
        go_wp2
        go_loop [11] (fun iv => iv = .int .i64 0) (fun _ => 0)
        case atStart => rfl
        case round =>
          as_aux_lemma =>
          subst hrel
          go_wp2
          go_ret
          exact ⟨rfl, rfl⟩

set_option maxRecDepth 100000 in
set_option maxHeartbeats 800000 in
theorem look80_any (w : World) (bk : Nat) (v0 v1 : Value) (A T D U : Int) (h : Bkc w bk v0 v1 A T D U) :
    Calls Tryz.prog 80 #[.pointer (some ⟨bk, 0, none⟩)] w fun e w' => e = .returned (.bool true) ∧ w' = w := by
  have hc0 : w.cell? ⟨bk, 42, none⟩ = some (.slice none 0 0) := h.cell (i := 42) (by decide)
  have hc1 : w.cell? ⟨bk, 45, none⟩ = some (.slice none 0 0) := h.cell (i := 45) (by decide)
  have hc2 : w.cell? ⟨bk, 48, none⟩ = some (.slice none 0 0) := h.cell (i := 48) (by decide)
  have hc3 : w.cell? ⟨bk, 51, none⟩ = some (.slice none 0 0) := h.cell (i := 51) (by decide)
  have hlt := h.lt
  clear h
  go_enter Tryz.func80, Tryz.ntmps80
  go_wp2
  go_loop [3] (fun iv => iv = .int .i64 0) (fun _ => 0)
  case atStart => rfl
  case round =>
    as_aux_lemma =>
    subst hrel
    go_wp2
    go_loop [7] (fun iv => iv = .int .i64 0) (fun _ => 0)
    case atStart => rfl
    case round =>
      as_aux_lemma =>
      subst hrel
      go_wp2
      go_loop [11] (fun iv => iv = .int .i64 0) (fun _ => 0)
      case atStart => rfl
      case round =>
        as_aux_lemma =>
        subst hrel
        go_wp2
        go_loop [15] (fun iv => iv = .int .i64 0) (fun _ => 0)
        case atStart => rfl
        case round =>
          as_aux_lemma =>
          subst hrel
          go_wp2
          go_ret
          exact ⟨rfl, rfl⟩

set_option maxRecDepth 100000 in
set_option maxHeartbeats 800000 in
theorem look81_any (w : World) (bk : Nat) (v0 v1 : Value) (A T D U : Int) (h : Bkc w bk v0 v1 A T D U) :
    Calls Tryz.prog 81 #[.pointer (some ⟨bk, 0, none⟩)] w fun e w' => e = .returned (.bool true) ∧ w' = w := by
  have hc0 : w.cell? ⟨bk, 54, none⟩ = some (.slice none 0 0) := h.cell (i := 54) (by decide)
  have hc1 : w.cell? ⟨bk, 57, none⟩ = some (.slice none 0 0) := h.cell (i := 57) (by decide)
  have hc2 : w.cell? ⟨bk, 60, none⟩ = some (.slice none 0 0) := h.cell (i := 60) (by decide)
  have hc3 : w.cell? ⟨bk, 63, none⟩ = some (.slice none 0 0) := h.cell (i := 63) (by decide)
  have hlt := h.lt
  clear h
  go_enter Tryz.func81, Tryz.ntmps81
  go_wp2
  go_loop [3] (fun iv => iv = .int .i64 0) (fun _ => 0)
  case atStart => rfl
  case round =>
    as_aux_lemma =>
    subst hrel
    go_wp2
    go_loop [7] (fun iv => iv = .int .i64 0) (fun _ => 0)
    case atStart => rfl
    case round =>
      as_aux_lemma =>
      subst hrel
      go_wp2
      go_loop [11] (fun iv => iv = .int .i64 0) (fun _ => 0)
      case atStart => rfl
      case round =>
        as_aux_lemma =>
        subst hrel
        go_wp2
        go_loop [15] (fun iv => iv = .int .i64 0) (fun _ => 0)
        case atStart => rfl
        case round =>
          as_aux_lemma =>
          subst hrel
          go_wp2
          go_ret
          exact ⟨rfl, rfl⟩

set_option maxRecDepth 100000 in
set_option maxHeartbeats 800000 in
theorem look82_any (w : World) (bk : Nat) (v0 v1 : Value) (A T D U : Int) (h : Bkc w bk v0 v1 A T D U) :
    Calls Tryz.prog 82 #[.pointer (some ⟨bk, 0, none⟩)] w fun e w' => e = .returned (.bool true) ∧ w' = w := by
  have hc0 : w.cell? ⟨bk, 66, none⟩ = some (.slice none 0 0) := h.cell (i := 66) (by decide)
  have hc1 : w.cell? ⟨bk, 69, none⟩ = some (.slice none 0 0) := h.cell (i := 69) (by decide)
  have hlt := h.lt
  clear h
  go_enter Tryz.func82, Tryz.ntmps82
  go_wp2
  go_loop [3] (fun iv => iv = .int .i64 0) (fun _ => 0)
  case atStart => rfl
  case round =>
    as_aux_lemma =>
    subst hrel
    go_wp2
    go_loop [7] (fun iv => iv = .int .i64 0) (fun _ => 0)
    case atStart => rfl
    case round =>
      as_aux_lemma =>
      subst hrel
      go_wp2
      go_ret
      exact ⟨rfl, rfl⟩

end Go.Proofs.YtfalgjdhdgkbfaaGreatDoor.Bk
