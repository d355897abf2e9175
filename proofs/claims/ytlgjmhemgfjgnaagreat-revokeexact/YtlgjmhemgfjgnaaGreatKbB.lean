/- The walks of the book's grows, but for that of the lists of keys: their lists are empty. -/
import Derived.Test.YtlgjmhemgfjgnaaGreatX36
namespace Go.Proofs.YtlgjmhemgfjgnaaGreat
open Go Go.RowKit
open Go.RowKit (wrap32 wrap64)

set_option maxRecDepth 100000 in
set_option maxHeartbeats 400000 in
theorem grow60_any (w : World) (bk : Nat) (v0 v1 : Value) (A T D U : Int) (h : Bkc w bk v0 v1 A T D U) :
    Calls Tryz.prog 49 #[.pointer (some ⟨bk, 0, none⟩)] w fun e w' => e = .returned (.tuple #[]) ∧ Bkc w' bk v0 v1 A T D U ∧ But w w' bk := by
  have hc : w.cell? ⟨bk, 0, none⟩ = some (.slice none 0 0) := h.cell (i := 0) (by decide)
  have hc2 : w.cell? ⟨bk, 2, none⟩ = some (.int .i64 0) := h.cell (i := 2) (by decide)
  have hf := h.frozen 2
  have hlt := h.lt
  have H := hid h
  clear h
  go_enter Tryz.func49, Tryz.ntmps49
  go_wp2
  go_loop [3] (fun kv => kv = .int .i64 0) (fun _ => 0)
  case atStart => rfl
  case round =>
    subst hrel
    go_wp2
    go_end0
    exact ⟨rfl, (H.out.set 2 _).congr (fun i _ => bkF_at v0 v1 A T D U 2 _ rfl i), But.setCell _ _ _ _⟩

set_option maxRecDepth 100000 in
set_option maxHeartbeats 400000 in
theorem grow61_any (w : World) (bk : Nat) (v0 v1 : Value) (A T D U : Int) (h : Bkc w bk v0 v1 A T D U) :
    Calls Tryz.prog 50 #[.pointer (some ⟨bk, 0, none⟩)] w fun e w' => e = .returned (.tuple #[]) ∧ Bkc w' bk v0 v1 A T D U ∧ But w w' bk := by
  have hc : w.cell? ⟨bk, 3, none⟩ = some (.slice none 0 0) := h.cell (i := 3) (by decide)
  have hc2 : w.cell? ⟨bk, 5, none⟩ = some (.int .i64 0) := h.cell (i := 5) (by decide)
  have hf := h.frozen 5
  have hlt := h.lt
  have H := hid h
  clear h
  go_enter Tryz.func50, Tryz.ntmps50
  go_wp2
  go_loop [3] (fun kv => kv = .int .i64 0) (fun _ => 0)
  case atStart => rfl
  case round =>
    subst hrel
    go_wp2
    go_end0
    exact ⟨rfl, (H.out.set 5 _).congr (fun i _ => bkF_at v0 v1 A T D U 5 _ rfl i), But.setCell _ _ _ _⟩

set_option maxRecDepth 100000 in
set_option maxHeartbeats 400000 in
theorem grow62_any (w : World) (bk : Nat) (v0 v1 : Value) (A T D U : Int) (h : Bkc w bk v0 v1 A T D U) :
    Calls Tryz.prog 51 #[.pointer (some ⟨bk, 0, none⟩)] w fun e w' => e = .returned (.tuple #[]) ∧ Bkc w' bk v0 v1 A T D U ∧ But w w' bk := by
  have hc : w.cell? ⟨bk, 6, none⟩ = some (.slice none 0 0) := h.cell (i := 6) (by decide)
  have hc2 : w.cell? ⟨bk, 8, none⟩ = some (.int .i64 0) := h.cell (i := 8) (by decide)
  have hf := h.frozen 8
  have hlt := h.lt
  have H := hid h
  clear h
  go_enter Tryz.func51, Tryz.ntmps51
  go_wp2
  go_loop [3] (fun kv => kv = .int .i64 0) (fun _ => 0)
  case atStart => rfl
  case round =>
    subst hrel
    go_wp2
    go_end0
    exact ⟨rfl, (H.out.set 8 _).congr (fun i _ => bkF_at v0 v1 A T D U 8 _ rfl i), But.setCell _ _ _ _⟩

set_option maxRecDepth 100000 in
set_option maxHeartbeats 400000 in
theorem grow63_any (w : World) (bk : Nat) (v0 v1 : Value) (A T D U : Int) (h : Bkc w bk v0 v1 A T D U) :
    Calls Tryz.prog 52 #[.pointer (some ⟨bk, 0, none⟩)] w fun e w' => e = .returned (.tuple #[]) ∧ Bkc w' bk v0 v1 A T D U ∧ But w w' bk := by
  have hc : w.cell? ⟨bk, 9, none⟩ = some (.slice none 0 0) := h.cell (i := 9) (by decide)
  have hc2 : w.cell? ⟨bk, 11, none⟩ = some (.int .i64 0) := h.cell (i := 11) (by decide)
  have hf := h.frozen 11
  have hlt := h.lt
  have H := hid h
  clear h
  go_enter Tryz.func52, Tryz.ntmps52
  go_wp2
  go_loop [3] (fun kv => kv = .int .i64 0) (fun _ => 0)
  case atStart => rfl
  case round =>
    subst hrel
    go_wp2
    go_end0
    exact ⟨rfl, (H.out.set 11 _).congr (fun i _ => bkF_at v0 v1 A T D U 11 _ rfl i), But.setCell _ _ _ _⟩

set_option maxRecDepth 100000 in
set_option maxHeartbeats 400000 in
theorem grow64_any (w : World) (bk : Nat) (v0 v1 : Value) (A T D U : Int) (h : Bkc w bk v0 v1 A T D U) :
    Calls Tryz.prog 53 #[.pointer (some ⟨bk, 0, none⟩)] w fun e w' => e = .returned (.tuple #[]) ∧ Bkc w' bk v0 v1 A T D U ∧ But w w' bk := by
  have hc : w.cell? ⟨bk, 12, none⟩ = some (.slice none 0 0) := h.cell (i := 12) (by decide)
  have hc2 : w.cell? ⟨bk, 14, none⟩ = some (.int .i64 0) := h.cell (i := 14) (by decide)
  have hf := h.frozen 14
  have hlt := h.lt
  have H := hid h
  clear h
  go_enter Tryz.func53, Tryz.ntmps53
  go_wp2
  go_loop [3] (fun kv => kv = .int .i64 0) (fun _ => 0)
  case atStart => rfl
  case round =>
    subst hrel
    go_wp2
    go_end0
    exact ⟨rfl, (H.out.set 14 _).congr (fun i _ => bkF_at v0 v1 A T D U 14 _ rfl i), But.setCell _ _ _ _⟩

set_option maxRecDepth 100000 in
set_option maxHeartbeats 400000 in
theorem grow65_any (w : World) (bk : Nat) (v0 v1 : Value) (A T D U : Int) (h : Bkc w bk v0 v1 A T D U) :
    Calls Tryz.prog 54 #[.pointer (some ⟨bk, 0, none⟩)] w fun e w' => e = .returned (.tuple #[]) ∧ Bkc w' bk v0 v1 A T D U ∧ But w w' bk := by
  have hc : w.cell? ⟨bk, 15, none⟩ = some (.slice none 0 0) := h.cell (i := 15) (by decide)
  have hc2 : w.cell? ⟨bk, 17, none⟩ = some (.int .i64 0) := h.cell (i := 17) (by decide)
  have hf := h.frozen 17
  have hlt := h.lt
  have H := hid h
  clear h
  go_enter Tryz.func54, Tryz.ntmps54
  go_wp2
  go_loop [3] (fun kv => kv = .int .i64 0) (fun _ => 0)
  case atStart => rfl
  case round =>
    subst hrel
    go_wp2
    go_end0
    exact ⟨rfl, (H.out.set 17 _).congr (fun i _ => bkF_at v0 v1 A T D U 17 _ rfl i), But.setCell _ _ _ _⟩

set_option maxRecDepth 100000 in
set_option maxHeartbeats 400000 in
theorem grow67_any (w : World) (bk : Nat) (v0 v1 : Value) (A T D U : Int) (h : Bkc w bk v0 v1 A T D U) :
    Calls Tryz.prog 56 #[.pointer (some ⟨bk, 0, none⟩)] w fun e w' => e = .returned (.tuple #[]) ∧ Bkc w' bk v0 v1 A T D U ∧ But w w' bk := by
  have hc : w.cell? ⟨bk, 21, none⟩ = some (.slice none 0 0) := h.cell (i := 21) (by decide)
  have hc2 : w.cell? ⟨bk, 23, none⟩ = some (.int .i64 0) := h.cell (i := 23) (by decide)
  have hf := h.frozen 23
  have hlt := h.lt
  have H := hid h
  clear h
  go_enter Tryz.func56, Tryz.ntmps56
  go_wp2
  go_loop [3] (fun kv => kv = .int .i64 0) (fun _ => 0)
  case atStart => rfl
  case round =>
    subst hrel
    go_wp2
    go_end0
    exact ⟨rfl, (H.out.set 23 _).congr (fun i _ => bkF_at v0 v1 A T D U 23 _ rfl i), But.setCell _ _ _ _⟩

set_option maxRecDepth 100000 in
set_option maxHeartbeats 400000 in
theorem grow68_any (w : World) (bk : Nat) (v0 v1 : Value) (A T D U : Int) (h : Bkc w bk v0 v1 A T D U) :
    Calls Tryz.prog 57 #[.pointer (some ⟨bk, 0, none⟩)] w fun e w' => e = .returned (.tuple #[]) ∧ Bkc w' bk v0 v1 A T D U ∧ But w w' bk := by
  have hc : w.cell? ⟨bk, 24, none⟩ = some (.slice none 0 0) := h.cell (i := 24) (by decide)
  have hc2 : w.cell? ⟨bk, 26, none⟩ = some (.int .i64 0) := h.cell (i := 26) (by decide)
  have hf := h.frozen 26
  have hlt := h.lt
  have H := hid h
  clear h
  go_enter Tryz.func57, Tryz.ntmps57
  go_wp2
  go_loop [3] (fun kv => kv = .int .i64 0) (fun _ => 0)
  case atStart => rfl
  case round =>
    subst hrel
    go_wp2
    go_end0
    exact ⟨rfl, (H.out.set 26 _).congr (fun i _ => bkF_at v0 v1 A T D U 26 _ rfl i), But.setCell _ _ _ _⟩

set_option maxRecDepth 100000 in
set_option maxHeartbeats 400000 in
theorem grow69_any (w : World) (bk : Nat) (v0 v1 : Value) (A T D U : Int) (h : Bkc w bk v0 v1 A T D U) :
    Calls Tryz.prog 58 #[.pointer (some ⟨bk, 0, none⟩)] w fun e w' => e = .returned (.tuple #[]) ∧ Bkc w' bk v0 v1 A T D U ∧ But w w' bk := by
  have hc : w.cell? ⟨bk, 27, none⟩ = some (.slice none 0 0) := h.cell (i := 27) (by decide)
  have hc2 : w.cell? ⟨bk, 29, none⟩ = some (.int .i64 0) := h.cell (i := 29) (by decide)
  have hf := h.frozen 29
  have hlt := h.lt
  have H := hid h
  clear h
  go_enter Tryz.func58, Tryz.ntmps58
  go_wp2
  go_loop [3] (fun kv => kv = .int .i64 0) (fun _ => 0)
  case atStart => rfl
  case round =>
    subst hrel
    go_wp2
    go_end0
    exact ⟨rfl, (H.out.set 29 _).congr (fun i _ => bkF_at v0 v1 A T D U 29 _ rfl i), But.setCell _ _ _ _⟩

set_option maxRecDepth 100000 in
set_option maxHeartbeats 400000 in
theorem grow70_any (w : World) (bk : Nat) (v0 v1 : Value) (A T D U : Int) (h : Bkc w bk v0 v1 A T D U) :
    Calls Tryz.prog 55 #[.pointer (some ⟨bk, 0, none⟩)] w fun e w' => e = .returned (.tuple #[]) ∧ Bkc w' bk v0 v1 A T D U ∧ But w w' bk := by
  have hc : w.cell? ⟨bk, 18, none⟩ = some (.slice none 0 0) := h.cell (i := 18) (by decide)
  have hc2 : w.cell? ⟨bk, 20, none⟩ = some (.int .i64 0) := h.cell (i := 20) (by decide)
  have hf := h.frozen 20
  have hlt := h.lt
  have H := hid h
  clear h
  go_enter Tryz.func55, Tryz.ntmps55
  go_wp2
  go_loop [3] (fun kv => kv = .int .i64 0) (fun _ => 0)
  case atStart => rfl
  case round =>
    subst hrel
    go_wp2
    go_end0
    exact ⟨rfl, (H.out.set 20 _).congr (fun i _ => bkF_at v0 v1 A T D U 20 _ rfl i), But.setCell _ _ _ _⟩

set_option maxRecDepth 100000 in
set_option maxHeartbeats 400000 in
theorem grow71_any (w : World) (bk : Nat) (v0 v1 : Value) (A T D U : Int) (h : Bkc w bk v0 v1 A T D U) :
    Calls Tryz.prog 60 #[.pointer (some ⟨bk, 0, none⟩)] w fun e w' => e = .returned (.tuple #[]) ∧ Bkc w' bk v0 v1 A T D U ∧ But w w' bk := by
  have hc : w.cell? ⟨bk, 33, none⟩ = some (.slice none 0 0) := h.cell (i := 33) (by decide)
  have hc2 : w.cell? ⟨bk, 35, none⟩ = some (.int .i64 0) := h.cell (i := 35) (by decide)
  have hf := h.frozen 35
  have hlt := h.lt
  have H := hid h
  clear h
  go_enter Tryz.func60, Tryz.ntmps60
  go_wp2
  go_loop [3] (fun kv => kv = .int .i64 0) (fun _ => 0)
  case atStart => rfl
  case round =>
    subst hrel
    go_wp2
    go_end0
    exact ⟨rfl, (H.out.set 35 _).congr (fun i _ => bkF_at v0 v1 A T D U 35 _ rfl i), But.setCell _ _ _ _⟩

set_option maxRecDepth 100000 in
set_option maxHeartbeats 400000 in
theorem grow72_any (w : World) (bk : Nat) (v0 v1 : Value) (A T D U : Int) (h : Bkc w bk v0 v1 A T D U) :
    Calls Tryz.prog 61 #[.pointer (some ⟨bk, 0, none⟩)] w fun e w' => e = .returned (.tuple #[]) ∧ Bkc w' bk v0 v1 A T D U ∧ But w w' bk := by
  have hc : w.cell? ⟨bk, 36, none⟩ = some (.slice none 0 0) := h.cell (i := 36) (by decide)
  have hc2 : w.cell? ⟨bk, 38, none⟩ = some (.int .i64 0) := h.cell (i := 38) (by decide)
  have hf := h.frozen 38
  have hlt := h.lt
  have H := hid h
  clear h
  go_enter Tryz.func61, Tryz.ntmps61
  go_wp2
  go_loop [3] (fun kv => kv = .int .i64 0) (fun _ => 0)
  case atStart => rfl
  case round =>
    subst hrel
    go_wp2
    go_end0
    exact ⟨rfl, (H.out.set 38 _).congr (fun i _ => bkF_at v0 v1 A T D U 38 _ rfl i), But.setCell _ _ _ _⟩

set_option maxRecDepth 100000 in
set_option maxHeartbeats 400000 in
theorem grow73_any (w : World) (bk : Nat) (v0 v1 : Value) (A T D U : Int) (h : Bkc w bk v0 v1 A T D U) :
    Calls Tryz.prog 62 #[.pointer (some ⟨bk, 0, none⟩)] w fun e w' => e = .returned (.tuple #[]) ∧ Bkc w' bk v0 v1 A T D U ∧ But w w' bk := by
  have hc : w.cell? ⟨bk, 39, none⟩ = some (.slice none 0 0) := h.cell (i := 39) (by decide)
  have hc2 : w.cell? ⟨bk, 41, none⟩ = some (.int .i64 0) := h.cell (i := 41) (by decide)
  have hf := h.frozen 41
  have hlt := h.lt
  have H := hid h
  clear h
  go_enter Tryz.func62, Tryz.ntmps62
  go_wp2
  go_loop [3] (fun kv => kv = .int .i64 0) (fun _ => 0)
  case atStart => rfl
  case round =>
    subst hrel
    go_wp2
    go_end0
    exact ⟨rfl, (H.out.set 41 _).congr (fun i _ => bkF_at v0 v1 A T D U 41 _ rfl i), But.setCell _ _ _ _⟩

set_option maxRecDepth 100000 in
set_option maxHeartbeats 400000 in
theorem grow74_any (w : World) (bk : Nat) (v0 v1 : Value) (A T D U : Int) (h : Bkc w bk v0 v1 A T D U) :
    Calls Tryz.prog 63 #[.pointer (some ⟨bk, 0, none⟩)] w fun e w' => e = .returned (.tuple #[]) ∧ Bkc w' bk v0 v1 A T D U ∧ But w w' bk := by
  have hc : w.cell? ⟨bk, 42, none⟩ = some (.slice none 0 0) := h.cell (i := 42) (by decide)
  have hc2 : w.cell? ⟨bk, 44, none⟩ = some (.int .i64 0) := h.cell (i := 44) (by decide)
  have hf := h.frozen 44
  have hlt := h.lt
  have H := hid h
  clear h
  go_enter Tryz.func63, Tryz.ntmps63
  go_wp2
  go_loop [3] (fun kv => kv = .int .i64 0) (fun _ => 0)
  case atStart => rfl
  case round =>
    subst hrel
    go_wp2
    go_end0
    exact ⟨rfl, (H.out.set 44 _).congr (fun i _ => bkF_at v0 v1 A T D U 44 _ rfl i), But.setCell _ _ _ _⟩

set_option maxRecDepth 100000 in
set_option maxHeartbeats 400000 in
theorem grow75_any (w : World) (bk : Nat) (v0 v1 : Value) (A T D U : Int) (h : Bkc w bk v0 v1 A T D U) :
    Calls Tryz.prog 64 #[.pointer (some ⟨bk, 0, none⟩)] w fun e w' => e = .returned (.tuple #[]) ∧ Bkc w' bk v0 v1 A T D U ∧ But w w' bk := by
  have hc : w.cell? ⟨bk, 45, none⟩ = some (.slice none 0 0) := h.cell (i := 45) (by decide)
  have hc2 : w.cell? ⟨bk, 47, none⟩ = some (.int .i64 0) := h.cell (i := 47) (by decide)
  have hf := h.frozen 47
  have hlt := h.lt
  have H := hid h
  clear h
  go_enter Tryz.func64, Tryz.ntmps64
  go_wp2
  go_loop [3] (fun kv => kv = .int .i64 0) (fun _ => 0)
  case atStart => rfl
  case round =>
    subst hrel
    go_wp2
    go_end0
    exact ⟨rfl, (H.out.set 47 _).congr (fun i _ => bkF_at v0 v1 A T D U 47 _ rfl i), But.setCell _ _ _ _⟩

set_option maxRecDepth 100000 in
set_option maxHeartbeats 400000 in
theorem grow76_any (w : World) (bk : Nat) (v0 v1 : Value) (A T D U : Int) (h : Bkc w bk v0 v1 A T D U) :
    Calls Tryz.prog 65 #[.pointer (some ⟨bk, 0, none⟩)] w fun e w' => e = .returned (.tuple #[]) ∧ Bkc w' bk v0 v1 A T D U ∧ But w w' bk := by
  have hc : w.cell? ⟨bk, 48, none⟩ = some (.slice none 0 0) := h.cell (i := 48) (by decide)
  have hc2 : w.cell? ⟨bk, 50, none⟩ = some (.int .i64 0) := h.cell (i := 50) (by decide)
  have hf := h.frozen 50
  have hlt := h.lt
  have H := hid h
  clear h
  go_enter Tryz.func65, Tryz.ntmps65
  go_wp2
  go_loop [3] (fun kv => kv = .int .i64 0) (fun _ => 0)
  case atStart => rfl
  case round =>
    subst hrel
    go_wp2
    go_end0
    exact ⟨rfl, (H.out.set 50 _).congr (fun i _ => bkF_at v0 v1 A T D U 50 _ rfl i), But.setCell _ _ _ _⟩

set_option maxRecDepth 100000 in
set_option maxHeartbeats 400000 in
theorem grow77_any (w : World) (bk : Nat) (v0 v1 : Value) (A T D U : Int) (h : Bkc w bk v0 v1 A T D U) :
    Calls Tryz.prog 66 #[.pointer (some ⟨bk, 0, none⟩)] w fun e w' => e = .returned (.tuple #[]) ∧ Bkc w' bk v0 v1 A T D U ∧ But w w' bk := by
  have hc : w.cell? ⟨bk, 51, none⟩ = some (.slice none 0 0) := h.cell (i := 51) (by decide)
  have hc2 : w.cell? ⟨bk, 53, none⟩ = some (.int .i64 0) := h.cell (i := 53) (by decide)
  have hf := h.frozen 53
  have hlt := h.lt
  have H := hid h
  clear h
  go_enter Tryz.func66, Tryz.ntmps66
  go_wp2
  go_loop [3] (fun kv => kv = .int .i64 0) (fun _ => 0)
  case atStart => rfl
  case round =>
    subst hrel
    go_wp2
    go_end0
    exact ⟨rfl, (H.out.set 53 _).congr (fun i _ => bkF_at v0 v1 A T D U 53 _ rfl i), But.setCell _ _ _ _⟩

set_option maxRecDepth 100000 in
set_option maxHeartbeats 400000 in
theorem grow78_any (w : World) (bk : Nat) (v0 v1 : Value) (A T D U : Int) (h : Bkc w bk v0 v1 A T D U) :
    Calls Tryz.prog 67 #[.pointer (some ⟨bk, 0, none⟩)] w fun e w' => e = .returned (.tuple #[]) ∧ Bkc w' bk v0 v1 A T D U ∧ But w w' bk := by
  have hc : w.cell? ⟨bk, 54, none⟩ = some (.slice none 0 0) := h.cell (i := 54) (by decide)
  have hc2 : w.cell? ⟨bk, 56, none⟩ = some (.int .i64 0) := h.cell (i := 56) (by decide)
  have hf := h.frozen 56
  have hlt := h.lt
  have H := hid h
  clear h
  go_enter Tryz.func67, Tryz.ntmps67
  go_wp2
  go_loop [3] (fun kv => kv = .int .i64 0) (fun _ => 0)
  case atStart => rfl
  case round =>
    subst hrel
    go_wp2
    go_end0
    exact ⟨rfl, (H.out.set 56 _).congr (fun i _ => bkF_at v0 v1 A T D U 56 _ rfl i), But.setCell _ _ _ _⟩

set_option maxRecDepth 100000 in
set_option maxHeartbeats 400000 in
theorem grow79_any (w : World) (bk : Nat) (v0 v1 : Value) (A T D U : Int) (h : Bkc w bk v0 v1 A T D U) :
    Calls Tryz.prog 68 #[.pointer (some ⟨bk, 0, none⟩)] w fun e w' => e = .returned (.tuple #[]) ∧ Bkc w' bk v0 v1 A T D U ∧ But w w' bk := by
  have hc : w.cell? ⟨bk, 57, none⟩ = some (.slice none 0 0) := h.cell (i := 57) (by decide)
  have hc2 : w.cell? ⟨bk, 59, none⟩ = some (.int .i64 0) := h.cell (i := 59) (by decide)
  have hf := h.frozen 59
  have hlt := h.lt
  have H := hid h
  clear h
  go_enter Tryz.func68, Tryz.ntmps68
  go_wp2
  go_loop [3] (fun kv => kv = .int .i64 0) (fun _ => 0)
  case atStart => rfl
  case round =>
    subst hrel
    go_wp2
    go_end0
    exact ⟨rfl, (H.out.set 59 _).congr (fun i _ => bkF_at v0 v1 A T D U 59 _ rfl i), But.setCell _ _ _ _⟩

set_option maxRecDepth 100000 in
set_option maxHeartbeats 400000 in
theorem grow80_any (w : World) (bk : Nat) (v0 v1 : Value) (A T D U : Int) (h : Bkc w bk v0 v1 A T D U) :
    Calls Tryz.prog 69 #[.pointer (some ⟨bk, 0, none⟩)] w fun e w' => e = .returned (.tuple #[]) ∧ Bkc w' bk v0 v1 A T D U ∧ But w w' bk := by
  have hc : w.cell? ⟨bk, 60, none⟩ = some (.slice none 0 0) := h.cell (i := 60) (by decide)
  have hc2 : w.cell? ⟨bk, 62, none⟩ = some (.int .i64 0) := h.cell (i := 62) (by decide)
  have hf := h.frozen 62
  have hlt := h.lt
  have H := hid h
  clear h
  go_enter Tryz.func69, Tryz.ntmps69
  go_wp2
  go_loop [3] (fun kv => kv = .int .i64 0) (fun _ => 0)
  case atStart => rfl
  case round =>
    subst hrel
    go_wp2
    go_end0
    exact ⟨rfl, (H.out.set 62 _).congr (fun i _ => bkF_at v0 v1 A T D U 62 _ rfl i), But.setCell _ _ _ _⟩

set_option maxRecDepth 100000 in
set_option maxHeartbeats 400000 in
theorem grow81_any (w : World) (bk : Nat) (v0 v1 : Value) (A T D U : Int) (h : Bkc w bk v0 v1 A T D U) :
    Calls Tryz.prog 70 #[.pointer (some ⟨bk, 0, none⟩)] w fun e w' => e = .returned (.tuple #[]) ∧ Bkc w' bk v0 v1 A T D U ∧ But w w' bk := by
  have hc : w.cell? ⟨bk, 63, none⟩ = some (.slice none 0 0) := h.cell (i := 63) (by decide)
  have hc2 : w.cell? ⟨bk, 65, none⟩ = some (.int .i64 0) := h.cell (i := 65) (by decide)
  have hf := h.frozen 65
  have hlt := h.lt
  have H := hid h
  clear h
  go_enter Tryz.func70, Tryz.ntmps70
  go_wp2
  go_loop [3] (fun kv => kv = .int .i64 0) (fun _ => 0)
  case atStart => rfl
  case round =>
    subst hrel
    go_wp2
    go_end0
    exact ⟨rfl, (H.out.set 65 _).congr (fun i _ => bkF_at v0 v1 A T D U 65 _ rfl i), But.setCell _ _ _ _⟩

set_option maxRecDepth 100000 in
set_option maxHeartbeats 400000 in
theorem grow82_any (w : World) (bk : Nat) (v0 v1 : Value) (A T D U : Int) (h : Bkc w bk v0 v1 A T D U) :
    Calls Tryz.prog 71 #[.pointer (some ⟨bk, 0, none⟩)] w fun e w' => e = .returned (.tuple #[]) ∧ Bkc w' bk v0 v1 A T D U ∧ But w w' bk := by
  have hc : w.cell? ⟨bk, 66, none⟩ = some (.slice none 0 0) := h.cell (i := 66) (by decide)
  have hc2 : w.cell? ⟨bk, 68, none⟩ = some (.int .i64 0) := h.cell (i := 68) (by decide)
  have hf := h.frozen 68
  have hlt := h.lt
  have H := hid h
  clear h
  go_enter Tryz.func71, Tryz.ntmps71
  go_wp2
  go_loop [3] (fun kv => kv = .int .i64 0) (fun _ => 0)
  case atStart => rfl
  case round =>
    subst hrel
    go_wp2
    go_end0
    exact ⟨rfl, (H.out.set 68 _).congr (fun i _ => bkF_at v0 v1 A T D U 68 _ rfl i), But.setCell _ _ _ _⟩

set_option maxRecDepth 100000 in
set_option maxHeartbeats 400000 in
theorem grow83_any (w : World) (bk : Nat) (v0 v1 : Value) (A T D U : Int) (h : Bkc w bk v0 v1 A T D U) :
    Calls Tryz.prog 72 #[.pointer (some ⟨bk, 0, none⟩)] w fun e w' => e = .returned (.tuple #[]) ∧ Bkc w' bk v0 v1 A T D U ∧ But w w' bk := by
  have hc : w.cell? ⟨bk, 69, none⟩ = some (.slice none 0 0) := h.cell (i := 69) (by decide)
  have hc2 : w.cell? ⟨bk, 71, none⟩ = some (.int .i64 0) := h.cell (i := 71) (by decide)
  have hf := h.frozen 71
  have hlt := h.lt
  have H := hid h
  clear h
  go_enter Tryz.func72, Tryz.ntmps72
  go_wp2
  go_loop [3] (fun kv => kv = .int .i64 0) (fun _ => 0)
  case atStart => rfl
  case round =>
    subst hrel
    go_wp2
    go_end0
    exact ⟨rfl, (H.out.set 71 _).congr (fun i _ => bkF_at v0 v1 A T D U 71 _ rfl i), But.setCell _ _ _ _⟩

end Go.Proofs.YtlgjmhemgfjgnaaGreat
