/- The walks of the book's looks at lists that are empty. -/
import Derived.Test.YtlgjmhemgfjgnaaGreatX36
namespace Go.Proofs.YtlgjmhemgfjgnaaGreat
open Go Go.RowKit
open Go.RowKit (wrap32 wrap64)

set_option maxRecDepth 100000 in
set_option maxHeartbeats 800000 in
theorem look53_any (w : World) (bk : Nat) (v0 v1 : Value) (A T D U : Int) (h : Bkc w bk v0 v1 A T D U) :
    Calls Tryz.prog 42 #[.pointer (some ⟨bk, 0, none⟩)] w fun e w' => e = .returned (.bool true) ∧ w' = w := by
  have hc0 : w.cell? ⟨bk, 0, none⟩ = some (.slice none 0 0) := h.cell (i := 0) (by decide)
  have hc1 : w.cell? ⟨bk, 3, none⟩ = some (.slice none 0 0) := h.cell (i := 3) (by decide)
  have hlt := h.lt
  clear h
  go_enter Tryz.func42, Tryz.ntmps42
  go_wp2
  go_loop [3] (fun iv => iv = .int .i64 0) (fun _ => 0)
  case atStart => rfl
  case round =>
    as_aux_lemma =>
    subst hrel
    go_wp2
    go_loop [5] (fun iv => iv = .int .i64 0) (fun _ => 0)
    case atStart => rfl
    case round =>
      as_aux_lemma =>
      subst hrel
      go_wp2
      go_ret
      exact ⟨rfl, rfl⟩

set_option maxRecDepth 100000 in
set_option maxHeartbeats 800000 in
theorem look54_any (w : World) (bk : Nat) (v0 v1 : Value) (A T D U : Int) (h : Bkc w bk v0 v1 A T D U) :
    Calls Tryz.prog 43 #[.pointer (some ⟨bk, 0, none⟩)] w fun e w' => e = .returned (.bool true) ∧ w' = w := by
  have hc0 : w.cell? ⟨bk, 6, none⟩ = some (.slice none 0 0) := h.cell (i := 6) (by decide)
  have hc1 : w.cell? ⟨bk, 9, none⟩ = some (.slice none 0 0) := h.cell (i := 9) (by decide)
  have hc2 : w.cell? ⟨bk, 12, none⟩ = some (.slice none 0 0) := h.cell (i := 12) (by decide)
  have hc3 : w.cell? ⟨bk, 15, none⟩ = some (.slice none 0 0) := h.cell (i := 15) (by decide)
  have hlt := h.lt
  clear h
  go_enter Tryz.func43, Tryz.ntmps43
  go_wp2
  go_loop [3] (fun iv => iv = .int .i64 0) (fun _ => 0)
  case atStart => rfl
  case round =>
    as_aux_lemma =>
    subst hrel
    go_wp2
    go_loop [5] (fun iv => iv = .int .i64 0) (fun _ => 0)
    case atStart => rfl
    case round =>
      as_aux_lemma =>
      subst hrel
      go_wp2
      go_loop [7] (fun iv => iv = .int .i64 0) (fun _ => 0)
      case atStart => rfl
      case round =>
        as_aux_lemma =>
        subst hrel
        go_wp2
        go_loop [9] (fun iv => iv = .int .i64 0) (fun _ => 0)
        case atStart => rfl
        case round =>
          as_aux_lemma =>
          subst hrel
          go_wp2
          go_ret
          exact ⟨rfl, rfl⟩

set_option maxRecDepth 100000 in
set_option maxHeartbeats 800000 in
theorem look56_any (w : World) (bk : Nat) (v0 v1 : Value) (A T D U : Int) (h : Bkc w bk v0 v1 A T D U) :
    Calls Tryz.prog 44 #[.pointer (some ⟨bk, 0, none⟩)] w fun e w' => e = .returned (.bool true) ∧ w' = w := by
  have hc0 : w.cell? ⟨bk, 18, none⟩ = some (.slice none 0 0) := h.cell (i := 18) (by decide)
  have hc1 : w.cell? ⟨bk, 21, none⟩ = some (.slice none 0 0) := h.cell (i := 21) (by decide)
  have hc2 : w.cell? ⟨bk, 24, none⟩ = some (.slice none 0 0) := h.cell (i := 24) (by decide)
  have hc3 : w.cell? ⟨bk, 27, none⟩ = some (.slice none 0 0) := h.cell (i := 27) (by decide)
  have hlt := h.lt
  clear h
  go_enter Tryz.func44, Tryz.ntmps44
  go_wp2
  go_loop [3] (fun iv => iv = .int .i64 0) (fun _ => 0)
  case atStart => rfl
  case round =>
    as_aux_lemma =>
    subst hrel
    go_wp2
    go_loop [5] (fun iv => iv = .int .i64 0) (fun _ => 0)
    case atStart => rfl
    case round =>
      as_aux_lemma =>
      subst hrel
      go_wp2
      go_loop [7] (fun iv => iv = .int .i64 0) (fun _ => 0)
      case atStart => rfl
      case round =>
        as_aux_lemma =>
        subst hrel
        go_wp2
        go_loop [9] (fun iv => iv = .int .i64 0) (fun _ => 0)
        case atStart => rfl
        case round =>
          as_aux_lemma =>
          subst hrel
          go_wp2
          go_ret
          exact ⟨rfl, rfl⟩

set_option maxRecDepth 100000 in
set_option maxHeartbeats 800000 in
theorem look57_any (w : World) (bk : Nat) (v0 v1 : Value) (A T D U : Int) (h : Bkc w bk v0 v1 A T D U) :
    Calls Tryz.prog 46 #[.pointer (some ⟨bk, 0, none⟩)] w fun e w' => e = .returned (.bool true) ∧ w' = w := by
  have hc0 : w.cell? ⟨bk, 42, none⟩ = some (.slice none 0 0) := h.cell (i := 42) (by decide)
  have hc1 : w.cell? ⟨bk, 45, none⟩ = some (.slice none 0 0) := h.cell (i := 45) (by decide)
  have hc2 : w.cell? ⟨bk, 48, none⟩ = some (.slice none 0 0) := h.cell (i := 48) (by decide)
  have hc3 : w.cell? ⟨bk, 51, none⟩ = some (.slice none 0 0) := h.cell (i := 51) (by decide)
  have hlt := h.lt
  clear h
  go_enter Tryz.func46, Tryz.ntmps46
  go_wp2
  go_loop [3] (fun iv => iv = .int .i64 0) (fun _ => 0)
  case atStart => rfl
  case round =>
    as_aux_lemma =>
    subst hrel
    go_wp2
    go_loop [7] (fun iv => iv = .int .i64 0) (fun _ => 0)
    case atStart => rfl
    case round =>
      as_aux_lemma =>
      subst hrel
      go_wp2
      go_loop [11] (fun iv => iv = .int .i64 0) (fun _ => 0)
      case atStart => rfl
      case round =>
        as_aux_lemma =>
        subst hrel
        go_wp2
        go_loop [15] (fun iv => iv = .int .i64 0) (fun _ => 0)
        case atStart => rfl
        case round =>
          as_aux_lemma =>
          subst hrel
          go_wp2
          go_ret
          exact ⟨rfl, rfl⟩

set_option maxRecDepth 100000 in
set_option maxHeartbeats 800000 in
theorem look58_any (w : World) (bk : Nat) (v0 v1 : Value) (A T D U : Int) (h : Bkc w bk v0 v1 A T D U) :
    Calls Tryz.prog 47 #[.pointer (some ⟨bk, 0, none⟩)] w fun e w' => e = .returned (.bool true) ∧ w' = w := by
  have hc0 : w.cell? ⟨bk, 54, none⟩ = some (.slice none 0 0) := h.cell (i := 54) (by decide)
  have hc1 : w.cell? ⟨bk, 57, none⟩ = some (.slice none 0 0) := h.cell (i := 57) (by decide)
  have hc2 : w.cell? ⟨bk, 60, none⟩ = some (.slice none 0 0) := h.cell (i := 60) (by decide)
  have hc3 : w.cell? ⟨bk, 63, none⟩ = some (.slice none 0 0) := h.cell (i := 63) (by decide)
  have hlt := h.lt
  clear h
  go_enter Tryz.func47, Tryz.ntmps47
  go_wp2
  go_loop [3] (fun iv => iv = .int .i64 0) (fun _ => 0)
  case atStart => rfl
  case round =>
    as_aux_lemma =>
    subst hrel
    go_wp2
    go_loop [7] (fun iv => iv = .int .i64 0) (fun _ => 0)
    case atStart => rfl
    case round =>
      as_aux_lemma =>
      subst hrel
      go_wp2
      go_loop [11] (fun iv => iv = .int .i64 0) (fun _ => 0)
      case atStart => rfl
      case round =>
        as_aux_lemma =>
        subst hrel
        go_wp2
        go_loop [15] (fun iv => iv = .int .i64 0) (fun _ => 0)
        case atStart => rfl
        case round =>
          as_aux_lemma =>
          subst hrel
          go_wp2
          go_ret
          exact ⟨rfl, rfl⟩

set_option maxRecDepth 100000 in
set_option maxHeartbeats 800000 in
theorem look59_any (w : World) (bk : Nat) (v0 v1 : Value) (A T D U : Int) (h : Bkc w bk v0 v1 A T D U) :
    Calls Tryz.prog 48 #[.pointer (some ⟨bk, 0, none⟩)] w fun e w' => e = .returned (.bool true) ∧ w' = w := by
  have hc0 : w.cell? ⟨bk, 66, none⟩ = some (.slice none 0 0) := h.cell (i := 66) (by decide)
  have hc1 : w.cell? ⟨bk, 69, none⟩ = some (.slice none 0 0) := h.cell (i := 69) (by decide)
  have hlt := h.lt
  clear h
  go_enter Tryz.func48, Tryz.ntmps48
  go_wp2
  go_loop [3] (fun iv => iv = .int .i64 0) (fun _ => 0)
  case atStart => rfl
  case round =>
    as_aux_lemma =>
    subst hrel
    go_wp2
    go_loop [7] (fun iv => iv = .int .i64 0) (fun _ => 0)
    case atStart => rfl
    case round =>
      as_aux_lemma =>
      subst hrel
      go_wp2
      go_ret
      exact ⟨rfl, rfl⟩

end Go.Proofs.YtlgjmhemgfjgnaaGreat
