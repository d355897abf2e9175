/- The stage's same. -/
import Derived.Test.YtpbiofnncdneoaaGreatDoorX27
namespace Go.Proofs.YtpbiofnncdneoaaGreatDoor
open Go Go.RowKit Go.MapKept Go.MuLone
open Go.RowKit (wrap32 wrap64)

variable {w u u' : World} {A A' D : Ab} {b lb b0 b1 sb bk lt T n k z : Nat} {off : Bool} {s : ByteArray} {x y : Nat → Option Nat} {zs : Nat → Nat} {os : Nat → Bool} {ps : List Bq.Item}
set_option maxRecDepth 100000 in
set_option maxHeartbeats 8000000 in
theorem same_any (h : Wx w b0 b1 sb x y A A.sr zs os bk lt T ps u) : Calls Tryz.prog 11 #[.pointer (some ⟨sb, 0, none⟩)] u fun e u' => e = .returned (.bool true) ∧ Wx w b0 b1 sb x y A A.sr zs os bk lt T ps u' := by
 have HM := hid h
 have HNd := hid h.nd
 clear h
 go_enter Tryz.func11, Tryz.ntmps11
 go_wp2_with fail
 go_loopw [3] (fun iv wr => ∃ i : Nat, iv = .int .i64 i ∧ i ≤ 2 ∧ Hid (Wx w b0 b1 sb x y A A.sr zs os bk lt T ps wr)) (fun iv _ => 2 - (intOf iv).toNat)
 case atStart => exact ⟨0, rfl, by omega, HM⟩
 case round =>
  obtain ⟨i, rfl, hi, HM⟩ := hrel
  obtain ⟨u5, hu5⟩ : ∃ x : World, x = wr := ⟨_, rfl⟩
  rw [← hu5] at HM ⊢
  clear hu5
  rcases (show i = 0 ∨ i = 1 ∨ i = 2 by omega) with rfl | rfl | rfl
  ·rcases HM.out.log (k := 0) (by decide) with ⟨hx, hy⟩ | ⟨lb, rb, hx, hy, hL, hR⟩
   ·have HX := hid hx
    clear hx hy
    go_upto_region 4 with fail
    refine wp_region_held_drew (S := fun v => v.cell? ⟨sb, 2, none⟩ = some (.pointer none)) (by kernel_rfl) ?_ (fun hHeld => ?_)
    ·exact ((HM.out.keep (gdrew1 _ none)).cell 2).trans (by show some (pv (x 0)) = _; rw [HX.out]; rfl)
    refine wpAnyH_take (i := 0) (oi := { dst := some 8, op := Go.Op.move (Go.Operand.tmp 0), type := 35, pos := "law.go:114", after := #[], guard := none }) (v := (.pointer (some ⟨sb, 0, none⟩))) rfl (by kernel_rfl) (by kernel_rfl) (by kernel_rfl) (fun _ _ _ h => h) (Or.inl ⟨by rfl, by intro u hSu; (try dsimp only at hSu); go_simp⟩) (by assumption) ?_
    (try simp only [Act.put, List.setIfInBounds_toArray, List.set_cons_zero, List.set_cons_succ])
    refine wpAnyH_take (i := 1) (oi := { dst := some 9, op := Go.Op.move (Go.Operand.tmp 3), type := 3, pos := "law.go:114", after := #[], guard := none }) (v := (.int .i64 (0 : Nat))) rfl (by kernel_rfl) (by kernel_rfl) (by kernel_rfl) (fun _ _ _ h => h) (Or.inl ⟨by rfl, by intro u hSu; (try dsimp only at hSu); go_simp⟩) (by assumption) ?_
    (try simp only [Act.put, List.setIfInBounds_toArray, List.set_cons_zero, List.set_cons_succ])
    refine wpAnyH_take (i := 2) (oi := { dst := some 10, op := Go.Op.nilCheck (Go.Operand.tmp 8), type := 0, pos := "law.go:114", after := #[{ on := 0, ground := Go.Ground.data }], guard := none }) (v := (.pointer (some ⟨sb, 0, none⟩))) rfl (by kernel_rfl) (by kernel_rfl) (by kernel_rfl) (fun _ _ _ h => h) (Or.inl ⟨by rfl, by intro u hSu; (try dsimp only at hSu); go_simp⟩) (by assumption) ?_
    (try simp only [Act.put, List.setIfInBounds_toArray, List.set_cons_zero, List.set_cons_succ])
    refine wpAnyH_take (i := 3) (oi := { dst := some 11, op := Go.Op.fieldAddr 72 (Go.Operand.tmp 10) 2, type := 0, pos := "law.go:114", after := #[{ on := 2, ground := Go.Ground.data }], guard := none }) (v := (.pointer (some ⟨sb, 2, none⟩))) rfl (by kernel_rfl) (by kernel_rfl) (by kernel_rfl) (fun _ _ _ h => h) (Or.inl ⟨by rfl, by intro u hSu; (try dsimp only at hSu); go_simp⟩) (by assumption) ?_
    (try simp only [Act.put, List.setIfInBounds_toArray, List.set_cons_zero, List.set_cons_succ])
    refine wpAnyH_take (i := 4) (oi := { dst := some 12, op := Go.Op.indexAddr 68 (Go.Operand.tmp 11) (Go.Operand.tmp 9), type := 0, pos := "law.go:114", after := #[{ on := 3, ground := Go.Ground.data }, { on := 1, ground := Go.Ground.data }], guard := none }) (v := (.pointer (some ⟨sb, 2, none⟩))) rfl (by kernel_rfl) (by kernel_rfl) (by kernel_rfl) (fun _ _ _ h => h) (Or.inl ⟨by rfl, by intro u hSu; (try dsimp only at hSu); go_simp⟩) (by assumption) ?_
    (try simp only [Act.put, List.setIfInBounds_toArray, List.set_cons_zero, List.set_cons_succ])
    refine wpAnyH_take (i := 5) (oi := { dst := some 13, op := Go.Op.load 67 (Go.Operand.tmp 12), type := 67, pos := "law.go:114", after := #[{ on := 4, ground := Go.Ground.data }], guard := none }) (v := (.pointer none)) rfl (by kernel_rfl) (by kernel_rfl) (by kernel_rfl) (fun _ _ _ h => h) (Or.inl ⟨by rfl, by intro u hSu; (try dsimp only at hSu); go_simp⟩) (by assumption) ?_
    (try simp only [Act.put, List.setIfInBounds_toArray, List.set_cons_zero, List.set_cons_succ])
    refine wpAnyH_take (i := 6) (oi := { dst := some 14, op := Go.Op.binOp Go.BinOp.neq 67 (Go.Operand.tmp 13) (Go.Operand.const (Go.Value.pointer none)) 67, type := 4, pos := "law.go:114", after := #[{ on := 5, ground := Go.Ground.data }], guard := none }) (v := (.bool false)) rfl (by kernel_rfl) (by kernel_rfl) (by kernel_rfl) (fun _ _ _ h => h) (Or.inl ⟨by rfl, by intro u hSu; (try dsimp only at hSu); go_simp⟩) (by assumption) ?_
    (try simp only [Act.put, List.setIfInBounds_toArray, List.set_cons_zero, List.set_cons_succ])
    refine wpAnyH_take (i := 7) (oi := { dst := some 15, op := Go.Op.move (Go.Operand.tmp 14), type := 4, pos := "law.go:114", after := #[{ on := 6, ground := Go.Ground.data }], guard := none }) (v := (.bool false)) rfl (by kernel_rfl) (by kernel_rfl) (by kernel_rfl) (fun _ _ _ h => h) (Or.inl ⟨by rfl, by intro u hSu; (try dsimp only at hSu); go_simp⟩) (by assumption) ?_
    (try simp only [Act.put, List.setIfInBounds_toArray, List.set_cons_zero, List.set_cons_succ])
    refine wpAnyH_take (i := 8) (oi := { dst := some 16, op := Go.Op.move (Go.Operand.tmp 0), type := 35, pos := "law.go:114", after := #[{ on := 7, ground := Go.Ground.guard }], guard := some (7, true) }) (v := undef) rfl (by kernel_rfl) (by kernel_rfl) (by kernel_rfl) (fun _ _ _ h => h) (Or.inr ⟨by rfl, rfl⟩) (by assumption) ?_
    (try simp only [Act.put, List.setIfInBounds_toArray, List.set_cons_zero, List.set_cons_succ])
    refine wpAnyH_take (i := 9) (oi := { dst := some 17, op := Go.Op.move (Go.Operand.tmp 3), type := 3, pos := "law.go:114", after := #[{ on := 7, ground := Go.Ground.guard }], guard := some (7, true) }) (v := undef) rfl (by kernel_rfl) (by kernel_rfl) (by kernel_rfl) (fun _ _ _ h => h) (Or.inr ⟨by rfl, rfl⟩) (by assumption) ?_
    (try simp only [Act.put, List.setIfInBounds_toArray, List.set_cons_zero, List.set_cons_succ])
    refine wpAnyH_take (i := 10) (oi := { dst := some 18, op := Go.Op.nilCheck (Go.Operand.tmp 16), type := 0, pos := "law.go:114", after := #[{ on := 8, ground := Go.Ground.data }, { on := 7, ground := Go.Ground.guard }], guard := some (7, true) }) (v := undef) rfl (by kernel_rfl) (by kernel_rfl) (by kernel_rfl) (fun _ _ _ h => h) (Or.inr ⟨by rfl, rfl⟩) (by assumption) ?_
    (try simp only [Act.put, List.setIfInBounds_toArray, List.set_cons_zero, List.set_cons_succ])
    refine wpAnyH_take (i := 11) (oi := { dst := some 19, op := Go.Op.fieldAddr 72 (Go.Operand.tmp 18) 2, type := 0, pos := "law.go:114", after := #[{ on := 10, ground := Go.Ground.data }, { on := 7, ground := Go.Ground.guard }], guard := some (7, true) }) (v := undef) rfl (by kernel_rfl) (by kernel_rfl) (by kernel_rfl) (fun _ _ _ h => h) (Or.inr ⟨by rfl, rfl⟩) (by assumption) ?_
    (try simp only [Act.put, List.setIfInBounds_toArray, List.set_cons_zero, List.set_cons_succ])
    refine wpAnyH_take (i := 12) (oi := { dst := some 20, op := Go.Op.indexAddr 68 (Go.Operand.tmp 19) (Go.Operand.tmp 17), type := 0, pos := "law.go:114", after := #[{ on := 11, ground := Go.Ground.data }, { on := 9, ground := Go.Ground.data }, { on := 7, ground := Go.Ground.guard }], guard := some (7, true) }) (v := undef) rfl (by kernel_rfl) (by kernel_rfl) (by kernel_rfl) (fun _ _ _ h => h) (Or.inr ⟨by rfl, rfl⟩) (by assumption) ?_
    (try simp only [Act.put, List.setIfInBounds_toArray, List.set_cons_zero, List.set_cons_succ])
    refine wpAnyH_take (i := 13) (oi := { dst := some 21, op := Go.Op.load 67 (Go.Operand.tmp 20), type := 67, pos := "law.go:114", after := #[{ on := 12, ground := Go.Ground.data }, { on := 7, ground := Go.Ground.guard }], guard := some (7, true) }) (v := undef) rfl (by kernel_rfl) (by kernel_rfl) (by kernel_rfl) (fun _ _ _ h => h) (Or.inr ⟨by rfl, rfl⟩) (by assumption) ?_
    (try simp only [Act.put, List.setIfInBounds_toArray, List.set_cons_zero, List.set_cons_succ])
    refine wpAnyH_take (i := 14) (oi := { dst := some 22, op := Go.Op.call { callee := Go.Callee.value (Go.Operand.func 19), args := #[Go.Operand.tmp 21], argTypes := #[67] }, type := 3, pos := "law.go:114", after := #[{ on := 13, ground := Go.Ground.data }, { on := 7, ground := Go.Ground.chain }, { on := 7, ground := Go.Ground.guard }], guard := some (7, true) }) (v := undef) rfl (by kernel_rfl) (by kernel_rfl) (by kernel_rfl) (fun _ _ _ h => h) (Or.inr ⟨by rfl, rfl⟩) (by assumption) ?_
    (try simp only [Act.put, List.setIfInBounds_toArray, List.set_cons_zero, List.set_cons_succ])
    refine wpAnyH_take (i := 15) (oi := { dst := some 23, op := Go.Op.move (Go.Operand.tmp 0), type := 35, pos := "law.go:114", after := #[{ on := 7, ground := Go.Ground.guard }], guard := some (7, true) }) (v := undef) rfl (by kernel_rfl) (by kernel_rfl) (by kernel_rfl) (fun _ _ _ h => h) (Or.inr ⟨by rfl, rfl⟩) (by assumption) ?_
    (try simp only [Act.put, List.setIfInBounds_toArray, List.set_cons_zero, List.set_cons_succ])
    refine wpAnyH_take (i := 16) (oi := { dst := some 24, op := Go.Op.move (Go.Operand.tmp 3), type := 3, pos := "law.go:114", after := #[{ on := 7, ground := Go.Ground.guard }], guard := some (7, true) }) (v := undef) rfl (by kernel_rfl) (by kernel_rfl) (by kernel_rfl) (fun _ _ _ h => h) (Or.inr ⟨by rfl, rfl⟩) (by assumption) ?_
    (try simp only [Act.put, List.setIfInBounds_toArray, List.set_cons_zero, List.set_cons_succ])
    refine wpAnyH_take (i := 17) (oi := { dst := some 25, op := Go.Op.nilCheck (Go.Operand.tmp 23), type := 0, pos := "law.go:114", after := #[{ on := 15, ground := Go.Ground.data }, { on := 7, ground := Go.Ground.guard }], guard := some (7, true) }) (v := undef) rfl (by kernel_rfl) (by kernel_rfl) (by kernel_rfl) (fun _ _ _ h => h) (Or.inr ⟨by rfl, rfl⟩) (by assumption) ?_
    (try simp only [Act.put, List.setIfInBounds_toArray, List.set_cons_zero, List.set_cons_succ])
    refine wpAnyH_take (i := 18) (oi := { dst := some 26, op := Go.Op.fieldAddr 72 (Go.Operand.tmp 25) 3, type := 0, pos := "law.go:114", after := #[{ on := 17, ground := Go.Ground.data }, { on := 7, ground := Go.Ground.guard }], guard := some (7, true) }) (v := undef) rfl (by kernel_rfl) (by kernel_rfl) (by kernel_rfl) (fun _ _ _ h => h) (Or.inr ⟨by rfl, rfl⟩) (by assumption) ?_
    (try simp only [Act.put, List.setIfInBounds_toArray, List.set_cons_zero, List.set_cons_succ])
    refine wpAnyH_take (i := 19) (oi := { dst := some 27, op := Go.Op.indexAddr 70 (Go.Operand.tmp 26) (Go.Operand.tmp 24), type := 0, pos := "law.go:114", after := #[{ on := 18, ground := Go.Ground.data }, { on := 16, ground := Go.Ground.data }, { on := 7, ground := Go.Ground.guard }], guard := some (7, true) }) (v := undef) rfl (by kernel_rfl) (by kernel_rfl) (by kernel_rfl) (fun _ _ _ h => h) (Or.inr ⟨by rfl, rfl⟩) (by assumption) ?_
    (try simp only [Act.put, List.setIfInBounds_toArray, List.set_cons_zero, List.set_cons_succ])
    refine wpAnyH_take (i := 20) (oi := { dst := some 28, op := Go.Op.load 69 (Go.Operand.tmp 27), type := 69, pos := "law.go:114", after := #[{ on := 19, ground := Go.Ground.data }, { on := 7, ground := Go.Ground.guard }], guard := some (7, true) }) (v := undef) rfl (by kernel_rfl) (by kernel_rfl) (by kernel_rfl) (fun _ _ _ h => h) (Or.inr ⟨by rfl, rfl⟩) (by assumption) ?_
    (try simp only [Act.put, List.setIfInBounds_toArray, List.set_cons_zero, List.set_cons_succ])
    refine wpAnyH_take (i := 21) (oi := { dst := some 29, op := Go.Op.nilCheck (Go.Operand.tmp 28), type := 0, pos := "law.go:114", after := #[{ on := 20, ground := Go.Ground.data }, { on := 7, ground := Go.Ground.guard }], guard := some (7, true) }) (v := undef) rfl (by kernel_rfl) (by kernel_rfl) (by kernel_rfl) (fun _ _ _ h => h) (Or.inr ⟨by rfl, rfl⟩) (by assumption) ?_
    (try simp only [Act.put, List.setIfInBounds_toArray, List.set_cons_zero, List.set_cons_succ])
    refine wpAnyH_take (i := 22) (oi := { dst := some 30, op := Go.Op.fieldAddr 107 (Go.Operand.tmp 29) 2, type := 0, pos := "law.go:114", after := #[{ on := 21, ground := Go.Ground.data }, { on := 7, ground := Go.Ground.guard }], guard := some (7, true) }) (v := undef) rfl (by kernel_rfl) (by kernel_rfl) (by kernel_rfl) (fun _ _ _ h => h) (Or.inr ⟨by rfl, rfl⟩) (by assumption) ?_
    (try simp only [Act.put, List.setIfInBounds_toArray, List.set_cons_zero, List.set_cons_succ])
    refine wpAnyH_take (i := 23) (oi := { dst := some 31, op := Go.Op.load 3 (Go.Operand.tmp 30), type := 3, pos := "law.go:114", after := #[{ on := 22, ground := Go.Ground.data }, { on := 7, ground := Go.Ground.guard }], guard := some (7, true) }) (v := undef) rfl (by kernel_rfl) (by kernel_rfl) (by kernel_rfl) (fun _ _ _ h => h) (Or.inr ⟨by rfl, rfl⟩) (by assumption) ?_
    (try simp only [Act.put, List.setIfInBounds_toArray, List.set_cons_zero, List.set_cons_succ])
    refine wpAnyH_take (i := 24) (oi := { dst := some 32, op := Go.Op.binOp Go.BinOp.neq 3 (Go.Operand.tmp 22) (Go.Operand.tmp 31) 3, type := 4, pos := "law.go:114", after := #[{ on := 14, ground := Go.Ground.data }, { on := 23, ground := Go.Ground.data }, { on := 7, ground := Go.Ground.guard }], guard := some (7, true) }) (v := undef) rfl (by kernel_rfl) (by kernel_rfl) (by kernel_rfl) (fun _ _ _ h => h) (Or.inr ⟨by rfl, rfl⟩) (by assumption) ?_
    (try simp only [Act.put, List.setIfInBounds_toArray, List.set_cons_zero, List.set_cons_succ])
    refine wpAnyH_take (i := 25) (oi := { dst := some 33, op := Go.Op.move (Go.Operand.tmp 32), type := 4, pos := "law.go:114", after := #[{ on := 24, ground := Go.Ground.data }, { on := 14, ground := Go.Ground.chain }, { on := 7, ground := Go.Ground.guard }], guard := some (7, true) }) (v := undef) rfl (by kernel_rfl) (by kernel_rfl) (by kernel_rfl) (fun _ _ _ h => h) (Or.inr ⟨by rfl, rfl⟩) (by assumption) ?_
    (try simp only [Act.put, List.setIfInBounds_toArray, List.set_cons_zero, List.set_cons_succ])
    refine wpAnyH_take (i := 26) (oi := { dst := some 34, op := Go.Op.move (Go.Operand.tmp 0), type := 35, pos := "law.go:114", after := #[{ on := 25, ground := Go.Ground.guard }], guard := some (25, false) }) (v := undef) rfl (by kernel_rfl) (by kernel_rfl) (by kernel_rfl) (fun _ _ _ h => h) (Or.inr ⟨by rfl, rfl⟩) (by assumption) ?_
    (try simp only [Act.put, List.setIfInBounds_toArray, List.set_cons_zero, List.set_cons_succ])
    refine wpAnyH_take (i := 27) (oi := { dst := some 35, op := Go.Op.move (Go.Operand.tmp 3), type := 3, pos := "law.go:114", after := #[{ on := 25, ground := Go.Ground.guard }], guard := some (25, false) }) (v := undef) rfl (by kernel_rfl) (by kernel_rfl) (by kernel_rfl) (fun _ _ _ h => h) (Or.inr ⟨by rfl, rfl⟩) (by assumption) ?_
    (try simp only [Act.put, List.setIfInBounds_toArray, List.set_cons_zero, List.set_cons_succ])
    refine wpAnyH_take (i := 28) (oi := { dst := some 36, op := Go.Op.nilCheck (Go.Operand.tmp 34), type := 0, pos := "law.go:114", after := #[{ on := 26, ground := Go.Ground.data }, { on := 25, ground := Go.Ground.guard }], guard := some (25, false) }) (v := undef) rfl (by kernel_rfl) (by kernel_rfl) (by kernel_rfl) (fun _ _ _ h => h) (Or.inr ⟨by rfl, rfl⟩) (by assumption) ?_
    (try simp only [Act.put, List.setIfInBounds_toArray, List.set_cons_zero, List.set_cons_succ])
    refine wpAnyH_take (i := 29) (oi := { dst := some 37, op := Go.Op.fieldAddr 72 (Go.Operand.tmp 36) 2, type := 0, pos := "law.go:114", after := #[{ on := 28, ground := Go.Ground.data }, { on := 25, ground := Go.Ground.guard }], guard := some (25, false) }) (v := undef) rfl (by kernel_rfl) (by kernel_rfl) (by kernel_rfl) (fun _ _ _ h => h) (Or.inr ⟨by rfl, rfl⟩) (by assumption) ?_
    (try simp only [Act.put, List.setIfInBounds_toArray, List.set_cons_zero, List.set_cons_succ])
    refine wpAnyH_take (i := 30) (oi := { dst := some 38, op := Go.Op.indexAddr 68 (Go.Operand.tmp 37) (Go.Operand.tmp 35), type := 0, pos := "law.go:114", after := #[{ on := 29, ground := Go.Ground.data }, { on := 27, ground := Go.Ground.data }, { on := 25, ground := Go.Ground.guard }], guard := some (25, false) }) (v := undef) rfl (by kernel_rfl) (by kernel_rfl) (by kernel_rfl) (fun _ _ _ h => h) (Or.inr ⟨by rfl, rfl⟩) (by assumption) ?_
    (try simp only [Act.put, List.setIfInBounds_toArray, List.set_cons_zero, List.set_cons_succ])
    refine wpAnyH_take (i := 31) (oi := { dst := some 39, op := Go.Op.load 67 (Go.Operand.tmp 38), type := 67, pos := "law.go:114", after := #[{ on := 30, ground := Go.Ground.data }, { on := 25, ground := Go.Ground.guard }], guard := some (25, false) }) (v := undef) rfl (by kernel_rfl) (by kernel_rfl) (by kernel_rfl) (fun _ _ _ h => h) (Or.inr ⟨by rfl, rfl⟩) (by assumption) ?_
    (try simp only [Act.put, List.setIfInBounds_toArray, List.set_cons_zero, List.set_cons_succ])
    refine wpAnyH_take (i := 32) (oi := { dst := some 40, op := Go.Op.call { callee := Go.Callee.value (Go.Operand.func 31), args := #[Go.Operand.tmp 39], argTypes := #[67] }, type := 9, pos := "law.go:114", after := #[{ on := 31, ground := Go.Ground.data }, { on := 25, ground := Go.Ground.chain }, { on := 25, ground := Go.Ground.guard }], guard := some (25, false) }) (v := undef) rfl (by kernel_rfl) (by kernel_rfl) (by kernel_rfl) (fun _ _ _ h => h) (Or.inr ⟨by rfl, rfl⟩) (by assumption) ?_
    (try simp only [Act.put, List.setIfInBounds_toArray, List.set_cons_zero, List.set_cons_succ])
    refine wpAnyH_take (i := 33) (oi := { dst := some 41, op := Go.Op.move (Go.Operand.tmp 3), type := 3, pos := "law.go:114", after := #[{ on := 25, ground := Go.Ground.guard }], guard := some (25, false) }) (v := undef) rfl (by kernel_rfl) (by kernel_rfl) (by kernel_rfl) (fun _ _ _ h => h) (Or.inr ⟨by rfl, rfl⟩) (by assumption) ?_
    (try simp only [Act.put, List.setIfInBounds_toArray, List.set_cons_zero, List.set_cons_succ])
    refine wpAnyH_take (i := 34) (oi := { dst := some 42, op := Go.Op.call { callee := Go.Callee.value (Go.Operand.func 20), args := #[Go.Operand.tmp 41], argTypes := #[3] }, type := 9, pos := "law.go:114", after := #[{ on := 33, ground := Go.Ground.data }, { on := 32, ground := Go.Ground.chain }, { on := 25, ground := Go.Ground.guard }], guard := some (25, false) }) (v := undef) rfl (by kernel_rfl) (by kernel_rfl) (by kernel_rfl) (fun _ _ _ h => h) (Or.inr ⟨by rfl, rfl⟩) (by assumption) ?_
    (try simp only [Act.put, List.setIfInBounds_toArray, List.set_cons_zero, List.set_cons_succ])
    refine wpAnyH_take (i := 35) (oi := { dst := some 43, op := Go.Op.binOp Go.BinOp.neq 9 (Go.Operand.tmp 40) (Go.Operand.tmp 42) 9, type := 4, pos := "law.go:114", after := #[{ on := 32, ground := Go.Ground.data }, { on := 34, ground := Go.Ground.data }, { on := 25, ground := Go.Ground.guard }], guard := some (25, false) }) (v := undef) rfl (by kernel_rfl) (by kernel_rfl) (by kernel_rfl) (fun _ _ _ h => h) (Or.inr ⟨by rfl, rfl⟩) (by assumption) ?_
    (try simp only [Act.put, List.setIfInBounds_toArray, List.set_cons_zero, List.set_cons_succ])
    refine wpAnyH_take (i := 36) (oi := { dst := some 44, op := Go.Op.pick (Go.Operand.tmp 33) (Go.Operand.const (Go.Value.bool true)) (Go.Operand.tmp 43), type := 4, pos := "law.go:114", after := #[{ on := 25, ground := Go.Ground.data }, { on := 35, ground := Go.Ground.data }, { on := 7, ground := Go.Ground.guard }], guard := some (7, true) }) (v := undef) rfl (by kernel_rfl) (by kernel_rfl) (by kernel_rfl) (fun _ _ _ h => h) (Or.inr ⟨by rfl, rfl⟩) (by assumption) ?_
    (try simp only [Act.put, List.setIfInBounds_toArray, List.set_cons_zero, List.set_cons_succ])
    refine wpAnyH_take (i := 37) (oi := { dst := some 45, op := Go.Op.pick (Go.Operand.tmp 15) (Go.Operand.tmp 44) (Go.Operand.const (Go.Value.bool false)), type := 4, pos := "law.go:114", after := #[{ on := 7, ground := Go.Ground.data }, { on := 36, ground := Go.Ground.data }], guard := none }) (v := (.bool false)) rfl (by kernel_rfl) (by kernel_rfl) (by kernel_rfl) (fun _ _ _ h => h) (Or.inl ⟨by rfl, by intro u hSu; (try dsimp only at hSu); go_simp⟩) (by assumption) ?_
    (try simp only [Act.put, List.setIfInBounds_toArray, List.set_cons_zero, List.set_cons_succ])
    refine wpAnyH_done (by kernel_rfl) ?_ _
    go_wp2_with fail
    go_roundw
    ·exact ⟨1, by go_num, by omega, hid (HM.out.keep (gdrew1 _ none))⟩
    ·simp [intOf]
   ·obtain ⟨zz, hzz⟩ : ∃ q, zs 0 = q := ⟨_, rfl⟩
    rw [hzz] at hL hR
    have HX := hid hx
    have HYy := hid hy
    have HLg := hid hL
    have HRg := hid hR
    have HSz : Hid (∀ u, u5.grownBy u none → Calls Tryz.prog 19 #[.pointer (some ⟨lb, 0, none⟩)] u fun e w' => e = .returned (.int .i64 (zz : Nat)) ∧ w' = u) := hid (fun u hu => lsize_any (Blk.keep HLg.out hu))
    have HNn : Hid (∀ u, u5.grownBy u none → Calls Tryz.prog 31 #[.pointer (some ⟨lb, 0, none⟩)] u fun e w' => e = .returned (.string (nm 0)) ∧ u.grownBy w' none) := hid (fun u hu => lname_any (Blk.keep HLg.out hu) (nm_size 0))
    have HNm : Hid (∀ u, Calls Tryz.prog 20 #[.int .i64 0] u fun e u' => e = .returned (.string (nm 0)) ∧ u' = u) := hid (fun u => names_any u 0 (by decide))
    obtain ⟨sn, hsn⟩ : ∃ q, nm 0 = q := ⟨_, rfl⟩
    rw [hsn] at HNn HNm
    have HGw := hid (grefl u5 none)
    have hc : u5.cell? ⟨sb, 2, none⟩ = some (.pointer (some ⟨lb, 0, none⟩)) ∧ u5.cell? ⟨sb, 4, none⟩ = some (.pointer (some ⟨rb, 0, none⟩)) ∧ u5.cell? ⟨rb, 2, none⟩ = some (.int .i64 (zz : Nat)) := ⟨(HM.out.cell 2).trans (by show some (pv (x 0)) = _; rw [hx]; rfl), (HM.out.cell 4).trans (by show some (pv (y 0)) = _; rw [hy]; rfl), hR.cell 2⟩
    have HKc : Hid (∀ u, u5.grownBy u none → u.cell? ⟨sb, 2, none⟩ = some (.pointer (some ⟨lb, 0, none⟩)) ∧ u.cell? ⟨sb, 4, none⟩ = some (.pointer (some ⟨rb, 0, none⟩)) ∧ u.cell? ⟨rb, 2, none⟩ = some (.int .i64 (zz : Nat))) := hid (fun u hu => ⟨((HM.out.keep hu).cell 2).trans (by show some (pv (x 0)) = _; rw [HX.out]; rfl), ((HM.out.keep hu).cell 4).trans (by show some (pv (y 0)) = _; rw [HYy.out]; rfl), Blk.cell (Blk.keep HRg.out hu) 2⟩)
    clear hx hy hL hR hzz hsn
    go_upto_region 4 with fail
    go_region_held3 (fun v => v.cell? ⟨sb, 2, none⟩ = some (.pointer (some ⟨lb, 0, none⟩)) ∧ v.cell? ⟨sb, 4, none⟩ = some (.pointer (some ⟨rb, 0, none⟩)) ∧ v.cell? ⟨rb, 2, none⟩ = some (.int .i64 (zz : Nat))) (first | assumption | exact HKc.out _ HGw.out | exact HKc.out _ (gtrans HGw.out (gdrew1 _ _))) (first
     | (go_at_call 19; (with_reducible refine (HSz.out _ (by first | exact HGw.out | exact gtrans HGw.out (gdrew1 _ _))).mono ?_); rintro e v1 ⟨rfl, hw1⟩; subst hw1)
     | (go_at_call 20; (with_reducible refine (HNm.out _).mono ?_); rintro e v2 ⟨rfl, hw1⟩; subst hw1)
     | (go_at_call 31; (with_reducible refine (HNn.out _ (by first | exact HGw.out | exact gtrans HGw.out (gdrew1 _ _))).mono ?_); rintro e v3 ⟨rfl, hg⟩; replace HGw := hid (by first | exact gtrans HGw.out hg | exact gtrans (gtrans HGw.out (gdrew1 _ _)) hg); clear hg))
    go_wp2_with fail
    go_roundw
    ·exact ⟨1, by go_num, by omega, hid (HM.out.keep HGw.out)⟩
    ·simp [intOf]
  ·rcases HM.out.log (k := 1) (by decide) with ⟨hx, hy⟩ | ⟨lb, rb, hx, hy, hL, hR⟩
   ·have HX := hid hx
    clear hx hy
    go_upto_region 4 with fail
    refine wp_region_held_drew (S := fun v => v.cell? ⟨sb, 3, none⟩ = some (.pointer none)) (by kernel_rfl) ?_ (fun hHeld => ?_)
    ·exact ((HM.out.keep (gdrew1 _ none)).cell 3).trans (by show some (pv (x 1)) = _; rw [HX.out]; rfl)
    refine wpAnyH_take (i := 0) (oi := { dst := some 8, op := Go.Op.move (Go.Operand.tmp 0), type := 35, pos := "law.go:114", after := #[], guard := none }) (v := (.pointer (some ⟨sb, 0, none⟩))) rfl (by kernel_rfl) (by kernel_rfl) (by kernel_rfl) (fun _ _ _ h => h) (Or.inl ⟨by rfl, by intro u hSu; (try dsimp only at hSu); go_simp⟩) (by assumption) ?_
    (try simp only [Act.put, List.setIfInBounds_toArray, List.set_cons_zero, List.set_cons_succ])
    refine wpAnyH_take (i := 1) (oi := { dst := some 9, op := Go.Op.move (Go.Operand.tmp 3), type := 3, pos := "law.go:114", after := #[], guard := none }) (v := (.int .i64 (1 : Nat))) rfl (by kernel_rfl) (by kernel_rfl) (by kernel_rfl) (fun _ _ _ h => h) (Or.inl ⟨by rfl, by intro u hSu; (try dsimp only at hSu); go_simp⟩) (by assumption) ?_
    (try simp only [Act.put, List.setIfInBounds_toArray, List.set_cons_zero, List.set_cons_succ])
    refine wpAnyH_take (i := 2) (oi := { dst := some 10, op := Go.Op.nilCheck (Go.Operand.tmp 8), type := 0, pos := "law.go:114", after := #[{ on := 0, ground := Go.Ground.data }], guard := none }) (v := (.pointer (some ⟨sb, 0, none⟩))) rfl (by kernel_rfl) (by kernel_rfl) (by kernel_rfl) (fun _ _ _ h => h) (Or.inl ⟨by rfl, by intro u hSu; (try dsimp only at hSu); go_simp⟩) (by assumption) ?_
    (try simp only [Act.put, List.setIfInBounds_toArray, List.set_cons_zero, List.set_cons_succ])
    refine wpAnyH_take (i := 3) (oi := { dst := some 11, op := Go.Op.fieldAddr 72 (Go.Operand.tmp 10) 2, type := 0, pos := "law.go:114", after := #[{ on := 2, ground := Go.Ground.data }], guard := none }) (v := (.pointer (some ⟨sb, 2, none⟩))) rfl (by kernel_rfl) (by kernel_rfl) (by kernel_rfl) (fun _ _ _ h => h) (Or.inl ⟨by rfl, by intro u hSu; (try dsimp only at hSu); go_simp⟩) (by assumption) ?_
    (try simp only [Act.put, List.setIfInBounds_toArray, List.set_cons_zero, List.set_cons_succ])
    refine wpAnyH_take (i := 4) (oi := { dst := some 12, op := Go.Op.indexAddr 68 (Go.Operand.tmp 11) (Go.Operand.tmp 9), type := 0, pos := "law.go:114", after := #[{ on := 3, ground := Go.Ground.data }, { on := 1, ground := Go.Ground.data }], guard := none }) (v := (.pointer (some ⟨sb, 3, none⟩))) rfl (by kernel_rfl) (by kernel_rfl) (by kernel_rfl) (fun _ _ _ h => h) (Or.inl ⟨by rfl, by intro u hSu; (try dsimp only at hSu); go_simp⟩) (by assumption) ?_
    (try simp only [Act.put, List.setIfInBounds_toArray, List.set_cons_zero, List.set_cons_succ])
    refine wpAnyH_take (i := 5) (oi := { dst := some 13, op := Go.Op.load 67 (Go.Operand.tmp 12), type := 67, pos := "law.go:114", after := #[{ on := 4, ground := Go.Ground.data }], guard := none }) (v := (.pointer none)) rfl (by kernel_rfl) (by kernel_rfl) (by kernel_rfl) (fun _ _ _ h => h) (Or.inl ⟨by rfl, by intro u hSu; (try dsimp only at hSu); go_simp⟩) (by assumption) ?_
    (try simp only [Act.put, List.setIfInBounds_toArray, List.set_cons_zero, List.set_cons_succ])
    refine wpAnyH_take (i := 6) (oi := { dst := some 14, op := Go.Op.binOp Go.BinOp.neq 67 (Go.Operand.tmp 13) (Go.Operand.const (Go.Value.pointer none)) 67, type := 4, pos := "law.go:114", after := #[{ on := 5, ground := Go.Ground.data }], guard := none }) (v := (.bool false)) rfl (by kernel_rfl) (by kernel_rfl) (by kernel_rfl) (fun _ _ _ h => h) (Or.inl ⟨by rfl, by intro u hSu; (try dsimp only at hSu); go_simp⟩) (by assumption) ?_
    (try simp only [Act.put, List.setIfInBounds_toArray, List.set_cons_zero, List.set_cons_succ])
    refine wpAnyH_take (i := 7) (oi := { dst := some 15, op := Go.Op.move (Go.Operand.tmp 14), type := 4, pos := "law.go:114", after := #[{ on := 6, ground := Go.Ground.data }], guard := none }) (v := (.bool false)) rfl (by kernel_rfl) (by kernel_rfl) (by kernel_rfl) (fun _ _ _ h => h) (Or.inl ⟨by rfl, by intro u hSu; (try dsimp only at hSu); go_simp⟩) (by assumption) ?_
    (try simp only [Act.put, List.setIfInBounds_toArray, List.set_cons_zero, List.set_cons_succ])
    refine wpAnyH_take (i := 8) (oi := { dst := some 16, op := Go.Op.move (Go.Operand.tmp 0), type := 35, pos := "law.go:114", after := #[{ on := 7, ground := Go.Ground.guard }], guard := some (7, true) }) (v := undef) rfl (by kernel_rfl) (by kernel_rfl) (by kernel_rfl) (fun _ _ _ h => h) (Or.inr ⟨by rfl, rfl⟩) (by assumption) ?_
    (try simp only [Act.put, List.setIfInBounds_toArray, List.set_cons_zero, List.set_cons_succ])
    refine wpAnyH_take (i := 9) (oi := { dst := some 17, op := Go.Op.move (Go.Operand.tmp 3), type := 3, pos := "law.go:114", after := #[{ on := 7, ground := Go.Ground.guard }], guard := some (7, true) }) (v := undef) rfl (by kernel_rfl) (by kernel_rfl) (by kernel_rfl) (fun _ _ _ h => h) (Or.inr ⟨by rfl, rfl⟩) (by assumption) ?_
    (try simp only [Act.put, List.setIfInBounds_toArray, List.set_cons_zero, List.set_cons_succ])
    refine wpAnyH_take (i := 10) (oi := { dst := some 18, op := Go.Op.nilCheck (Go.Operand.tmp 16), type := 0, pos := "law.go:114", after := #[{ on := 8, ground := Go.Ground.data }, { on := 7, ground := Go.Ground.guard }], guard := some (7, true) }) (v := undef) rfl (by kernel_rfl) (by kernel_rfl) (by kernel_rfl) (fun _ _ _ h => h) (Or.inr ⟨by rfl, rfl⟩) (by assumption) ?_
    (try simp only [Act.put, List.setIfInBounds_toArray, List.set_cons_zero, List.set_cons_succ])
    refine wpAnyH_take (i := 11) (oi := { dst := some 19, op := Go.Op.fieldAddr 72 (Go.Operand.tmp 18) 2, type := 0, pos := "law.go:114", after := #[{ on := 10, ground := Go.Ground.data }, { on := 7, ground := Go.Ground.guard }], guard := some (7, true) }) (v := undef) rfl (by kernel_rfl) (by kernel_rfl) (by kernel_rfl) (fun _ _ _ h => h) (Or.inr ⟨by rfl, rfl⟩) (by assumption) ?_
    (try simp only [Act.put, List.setIfInBounds_toArray, List.set_cons_zero, List.set_cons_succ])
    refine wpAnyH_take (i := 12) (oi := { dst := some 20, op := Go.Op.indexAddr 68 (Go.Operand.tmp 19) (Go.Operand.tmp 17), type := 0, pos := "law.go:114", after := #[{ on := 11, ground := Go.Ground.data }, { on := 9, ground := Go.Ground.data }, { on := 7, ground := Go.Ground.guard }], guard := some (7, true) }) (v := undef) rfl (by kernel_rfl) (by kernel_rfl) (by kernel_rfl) (fun _ _ _ h => h) (Or.inr ⟨by rfl, rfl⟩) (by assumption) ?_
    (try simp only [Act.put, List.setIfInBounds_toArray, List.set_cons_zero, List.set_cons_succ])
    refine wpAnyH_take (i := 13) (oi := { dst := some 21, op := Go.Op.load 67 (Go.Operand.tmp 20), type := 67, pos := "law.go:114", after := #[{ on := 12, ground := Go.Ground.data }, { on := 7, ground := Go.Ground.guard }], guard := some (7, true) }) (v := undef) rfl (by kernel_rfl) (by kernel_rfl) (by kernel_rfl) (fun _ _ _ h => h) (Or.inr ⟨by rfl, rfl⟩) (by assumption) ?_
    (try simp only [Act.put, List.setIfInBounds_toArray, List.set_cons_zero, List.set_cons_succ])
    refine wpAnyH_take (i := 14) (oi := { dst := some 22, op := Go.Op.call { callee := Go.Callee.value (Go.Operand.func 19), args := #[Go.Operand.tmp 21], argTypes := #[67] }, type := 3, pos := "law.go:114", after := #[{ on := 13, ground := Go.Ground.data }, { on := 7, ground := Go.Ground.chain }, { on := 7, ground := Go.Ground.guard }], guard := some (7, true) }) (v := undef) rfl (by kernel_rfl) (by kernel_rfl) (by kernel_rfl) (fun _ _ _ h => h) (Or.inr ⟨by rfl, rfl⟩) (by assumption) ?_
    (try simp only [Act.put, List.setIfInBounds_toArray, List.set_cons_zero, List.set_cons_succ])
    refine wpAnyH_take (i := 15) (oi := { dst := some 23, op := Go.Op.move (Go.Operand.tmp 0), type := 35, pos := "law.go:114", after := #[{ on := 7, ground := Go.Ground.guard }], guard := some (7, true) }) (v := undef) rfl (by kernel_rfl) (by kernel_rfl) (by kernel_rfl) (fun _ _ _ h => h) (Or.inr ⟨by rfl, rfl⟩) (by assumption) ?_
    (try simp only [Act.put, List.setIfInBounds_toArray, List.set_cons_zero, List.set_cons_succ])
    refine wpAnyH_take (i := 16) (oi := { dst := some 24, op := Go.Op.move (Go.Operand.tmp 3), type := 3, pos := "law.go:114", after := #[{ on := 7, ground := Go.Ground.guard }], guard := some (7, true) }) (v := undef) rfl (by kernel_rfl) (by kernel_rfl) (by kernel_rfl) (fun _ _ _ h => h) (Or.inr ⟨by rfl, rfl⟩) (by assumption) ?_
    (try simp only [Act.put, List.setIfInBounds_toArray, List.set_cons_zero, List.set_cons_succ])
    refine wpAnyH_take (i := 17) (oi := { dst := some 25, op := Go.Op.nilCheck (Go.Operand.tmp 23), type := 0, pos := "law.go:114", after := #[{ on := 15, ground := Go.Ground.data }, { on := 7, ground := Go.Ground.guard }], guard := some (7, true) }) (v := undef) rfl (by kernel_rfl) (by kernel_rfl) (by kernel_rfl) (fun _ _ _ h => h) (Or.inr ⟨by rfl, rfl⟩) (by assumption) ?_
    (try simp only [Act.put, List.setIfInBounds_toArray, List.set_cons_zero, List.set_cons_succ])
    refine wpAnyH_take (i := 18) (oi := { dst := some 26, op := Go.Op.fieldAddr 72 (Go.Operand.tmp 25) 3, type := 0, pos := "law.go:114", after := #[{ on := 17, ground := Go.Ground.data }, { on := 7, ground := Go.Ground.guard }], guard := some (7, true) }) (v := undef) rfl (by kernel_rfl) (by kernel_rfl) (by kernel_rfl) (fun _ _ _ h => h) (Or.inr ⟨by rfl, rfl⟩) (by assumption) ?_
    (try simp only [Act.put, List.setIfInBounds_toArray, List.set_cons_zero, List.set_cons_succ])
    refine wpAnyH_take (i := 19) (oi := { dst := some 27, op := Go.Op.indexAddr 70 (Go.Operand.tmp 26) (Go.Operand.tmp 24), type := 0, pos := "law.go:114", after := #[{ on := 18, ground := Go.Ground.data }, { on := 16, ground := Go.Ground.data }, { on := 7, ground := Go.Ground.guard }], guard := some (7, true) }) (v := undef) rfl (by kernel_rfl) (by kernel_rfl) (by kernel_rfl) (fun _ _ _ h => h) (Or.inr ⟨by rfl, rfl⟩) (by assumption) ?_
    (try simp only [Act.put, List.setIfInBounds_toArray, List.set_cons_zero, List.set_cons_succ])
    refine wpAnyH_take (i := 20) (oi := { dst := some 28, op := Go.Op.load 69 (Go.Operand.tmp 27), type := 69, pos := "law.go:114", after := #[{ on := 19, ground := Go.Ground.data }, { on := 7, ground := Go.Ground.guard }], guard := some (7, true) }) (v := undef) rfl (by kernel_rfl) (by kernel_rfl) (by kernel_rfl) (fun _ _ _ h => h) (Or.inr ⟨by rfl, rfl⟩) (by assumption) ?_
    (try simp only [Act.put, List.setIfInBounds_toArray, List.set_cons_zero, List.set_cons_succ])
    refine wpAnyH_take (i := 21) (oi := { dst := some 29, op := Go.Op.nilCheck (Go.Operand.tmp 28), type := 0, pos := "law.go:114", after := #[{ on := 20, ground := Go.Ground.data }, { on := 7, ground := Go.Ground.guard }], guard := some (7, true) }) (v := undef) rfl (by kernel_rfl) (by kernel_rfl) (by kernel_rfl) (fun _ _ _ h => h) (Or.inr ⟨by rfl, rfl⟩) (by assumption) ?_
    (try simp only [Act.put, List.setIfInBounds_toArray, List.set_cons_zero, List.set_cons_succ])
    refine wpAnyH_take (i := 22) (oi := { dst := some 30, op := Go.Op.fieldAddr 107 (Go.Operand.tmp 29) 2, type := 0, pos := "law.go:114", after := #[{ on := 21, ground := Go.Ground.data }, { on := 7, ground := Go.Ground.guard }], guard := some (7, true) }) (v := undef) rfl (by kernel_rfl) (by kernel_rfl) (by kernel_rfl) (fun _ _ _ h => h) (Or.inr ⟨by rfl, rfl⟩) (by assumption) ?_
    (try simp only [Act.put, List.setIfInBounds_toArray, List.set_cons_zero, List.set_cons_succ])
    refine wpAnyH_take (i := 23) (oi := { dst := some 31, op := Go.Op.load 3 (Go.Operand.tmp 30), type := 3, pos := "law.go:114", after := #[{ on := 22, ground := Go.Ground.data }, { on := 7, ground := Go.Ground.guard }], guard := some (7, true) }) (v := undef) rfl (by kernel_rfl) (by kernel_rfl) (by kernel_rfl) (fun _ _ _ h => h) (Or.inr ⟨by rfl, rfl⟩) (by assumption) ?_
    (try simp only [Act.put, List.setIfInBounds_toArray, List.set_cons_zero, List.set_cons_succ])
    refine wpAnyH_take (i := 24) (oi := { dst := some 32, op := Go.Op.binOp Go.BinOp.neq 3 (Go.Operand.tmp 22) (Go.Operand.tmp 31) 3, type := 4, pos := "law.go:114", after := #[{ on := 14, ground := Go.Ground.data }, { on := 23, ground := Go.Ground.data }, { on := 7, ground := Go.Ground.guard }], guard := some (7, true) }) (v := undef) rfl (by kernel_rfl) (by kernel_rfl) (by kernel_rfl) (fun _ _ _ h => h) (Or.inr ⟨by rfl, rfl⟩) (by assumption) ?_
    (try simp only [Act.put, List.setIfInBounds_toArray, List.set_cons_zero, List.set_cons_succ])
    refine wpAnyH_take (i := 25) (oi := { dst := some 33, op := Go.Op.move (Go.Operand.tmp 32), type := 4, pos := "law.go:114", after := #[{ on := 24, ground := Go.Ground.data }, { on := 14, ground := Go.Ground.chain }, { on := 7, ground := Go.Ground.guard }], guard := some (7, true) }) (v := undef) rfl (by kernel_rfl) (by kernel_rfl) (by kernel_rfl) (fun _ _ _ h => h) (Or.inr ⟨by rfl, rfl⟩) (by assumption) ?_
    (try simp only [Act.put, List.setIfInBounds_toArray, List.set_cons_zero, List.set_cons_succ])
    refine wpAnyH_take (i := 26) (oi := { dst := some 34, op := Go.Op.move (Go.Operand.tmp 0), type := 35, pos := "law.go:114", after := #[{ on := 25, ground := Go.Ground.guard }], guard := some (25, false) }) (v := undef) rfl (by kernel_rfl) (by kernel_rfl) (by kernel_rfl) (fun _ _ _ h => h) (Or.inr ⟨by rfl, rfl⟩) (by assumption) ?_
    (try simp only [Act.put, List.setIfInBounds_toArray, List.set_cons_zero, List.set_cons_succ])
    refine wpAnyH_take (i := 27) (oi := { dst := some 35, op := Go.Op.move (Go.Operand.tmp 3), type := 3, pos := "law.go:114", after := #[{ on := 25, ground := Go.Ground.guard }], guard := some (25, false) }) (v := undef) rfl (by kernel_rfl) (by kernel_rfl) (by kernel_rfl) (fun _ _ _ h => h) (Or.inr ⟨by rfl, rfl⟩) (by assumption) ?_
    (try simp only [Act.put, List.setIfInBounds_toArray, List.set_cons_zero, List.set_cons_succ])
    refine wpAnyH_take (i := 28) (oi := { dst := some 36, op := Go.Op.nilCheck (Go.Operand.tmp 34), type := 0, pos := "law.go:114", after := #[{ on := 26, ground := Go.Ground.data }, { on := 25, ground := Go.Ground.guard }], guard := some (25, false) }) (v := undef) rfl (by kernel_rfl) (by kernel_rfl) (by kernel_rfl) (fun _ _ _ h => h) (Or.inr ⟨by rfl, rfl⟩) (by assumption) ?_
    (try simp only [Act.put, List.setIfInBounds_toArray, List.set_cons_zero, List.set_cons_succ])
    refine wpAnyH_take (i := 29) (oi := { dst := some 37, op := Go.Op.fieldAddr 72 (Go.Operand.tmp 36) 2, type := 0, pos := "law.go:114", after := #[{ on := 28, ground := Go.Ground.data }, { on := 25, ground := Go.Ground.guard }], guard := some (25, false) }) (v := undef) rfl (by kernel_rfl) (by kernel_rfl) (by kernel_rfl) (fun _ _ _ h => h) (Or.inr ⟨by rfl, rfl⟩) (by assumption) ?_
    (try simp only [Act.put, List.setIfInBounds_toArray, List.set_cons_zero, List.set_cons_succ])
    refine wpAnyH_take (i := 30) (oi := { dst := some 38, op := Go.Op.indexAddr 68 (Go.Operand.tmp 37) (Go.Operand.tmp 35), type := 0, pos := "law.go:114", after := #[{ on := 29, ground := Go.Ground.data }, { on := 27, ground := Go.Ground.data }, { on := 25, ground := Go.Ground.guard }], guard := some (25, false) }) (v := undef) rfl (by kernel_rfl) (by kernel_rfl) (by kernel_rfl) (fun _ _ _ h => h) (Or.inr ⟨by rfl, rfl⟩) (by assumption) ?_
    (try simp only [Act.put, List.setIfInBounds_toArray, List.set_cons_zero, List.set_cons_succ])
    refine wpAnyH_take (i := 31) (oi := { dst := some 39, op := Go.Op.load 67 (Go.Operand.tmp 38), type := 67, pos := "law.go:114", after := #[{ on := 30, ground := Go.Ground.data }, { on := 25, ground := Go.Ground.guard }], guard := some (25, false) }) (v := undef) rfl (by kernel_rfl) (by kernel_rfl) (by kernel_rfl) (fun _ _ _ h => h) (Or.inr ⟨by rfl, rfl⟩) (by assumption) ?_
    (try simp only [Act.put, List.setIfInBounds_toArray, List.set_cons_zero, List.set_cons_succ])
    refine wpAnyH_take (i := 32) (oi := { dst := some 40, op := Go.Op.call { callee := Go.Callee.value (Go.Operand.func 31), args := #[Go.Operand.tmp 39], argTypes := #[67] }, type := 9, pos := "law.go:114", after := #[{ on := 31, ground := Go.Ground.data }, { on := 25, ground := Go.Ground.chain }, { on := 25, ground := Go.Ground.guard }], guard := some (25, false) }) (v := undef) rfl (by kernel_rfl) (by kernel_rfl) (by kernel_rfl) (fun _ _ _ h => h) (Or.inr ⟨by rfl, rfl⟩) (by assumption) ?_
    (try simp only [Act.put, List.setIfInBounds_toArray, List.set_cons_zero, List.set_cons_succ])
    refine wpAnyH_take (i := 33) (oi := { dst := some 41, op := Go.Op.move (Go.Operand.tmp 3), type := 3, pos := "law.go:114", after := #[{ on := 25, ground := Go.Ground.guard }], guard := some (25, false) }) (v := undef) rfl (by kernel_rfl) (by kernel_rfl) (by kernel_rfl) (fun _ _ _ h => h) (Or.inr ⟨by rfl, rfl⟩) (by assumption) ?_
    (try simp only [Act.put, List.setIfInBounds_toArray, List.set_cons_zero, List.set_cons_succ])
    refine wpAnyH_take (i := 34) (oi := { dst := some 42, op := Go.Op.call { callee := Go.Callee.value (Go.Operand.func 20), args := #[Go.Operand.tmp 41], argTypes := #[3] }, type := 9, pos := "law.go:114", after := #[{ on := 33, ground := Go.Ground.data }, { on := 32, ground := Go.Ground.chain }, { on := 25, ground := Go.Ground.guard }], guard := some (25, false) }) (v := undef) rfl (by kernel_rfl) (by kernel_rfl) (by kernel_rfl) (fun _ _ _ h => h) (Or.inr ⟨by rfl, rfl⟩) (by assumption) ?_
    (try simp only [Act.put, List.setIfInBounds_toArray, List.set_cons_zero, List.set_cons_succ])
    refine wpAnyH_take (i := 35) (oi := { dst := some 43, op := Go.Op.binOp Go.BinOp.neq 9 (Go.Operand.tmp 40) (Go.Operand.tmp 42) 9, type := 4, pos := "law.go:114", after := #[{ on := 32, ground := Go.Ground.data }, { on := 34, ground := Go.Ground.data }, { on := 25, ground := Go.Ground.guard }], guard := some (25, false) }) (v := undef) rfl (by kernel_rfl) (by kernel_rfl) (by kernel_rfl) (fun _ _ _ h => h) (Or.inr ⟨by rfl, rfl⟩) (by assumption) ?_
    (try simp only [Act.put, List.setIfInBounds_toArray, List.set_cons_zero, List.set_cons_succ])
    refine wpAnyH_take (i := 36) (oi := { dst := some 44, op := Go.Op.pick (Go.Operand.tmp 33) (Go.Operand.const (Go.Value.bool true)) (Go.Operand.tmp 43), type := 4, pos := "law.go:114", after := #[{ on := 25, ground := Go.Ground.data }, { on := 35, ground := Go.Ground.data }, { on := 7, ground := Go.Ground.guard }], guard := some (7, true) }) (v := undef) rfl (by kernel_rfl) (by kernel_rfl) (by kernel_rfl) (fun _ _ _ h => h) (Or.inr ⟨by rfl, rfl⟩) (by assumption) ?_
    (try simp only [Act.put, List.setIfInBounds_toArray, List.set_cons_zero, List.set_cons_succ])
    refine wpAnyH_take (i := 37) (oi := { dst := some 45, op := Go.Op.pick (Go.Operand.tmp 15) (Go.Operand.tmp 44) (Go.Operand.const (Go.Value.bool false)), type := 4, pos := "law.go:114", after := #[{ on := 7, ground := Go.Ground.data }, { on := 36, ground := Go.Ground.data }], guard := none }) (v := (.bool false)) rfl (by kernel_rfl) (by kernel_rfl) (by kernel_rfl) (fun _ _ _ h => h) (Or.inl ⟨by rfl, by intro u hSu; (try dsimp only at hSu); go_simp⟩) (by assumption) ?_
    (try simp only [Act.put, List.setIfInBounds_toArray, List.set_cons_zero, List.set_cons_succ])
    refine wpAnyH_done (by kernel_rfl) ?_ _
    go_wp2_with fail
    go_roundw
    ·exact ⟨2, by go_num, by omega, hid (HM.out.keep (gdrew1 _ none))⟩
    ·simp [intOf]
   ·obtain ⟨zz, hzz⟩ : ∃ q, zs 1 = q := ⟨_, rfl⟩
    rw [hzz] at hL hR
    have HX := hid hx
    have HYy := hid hy
    have HLg := hid hL
    have HRg := hid hR
    have HSz : Hid (∀ u, u5.grownBy u none → Calls Tryz.prog 19 #[.pointer (some ⟨lb, 0, none⟩)] u fun e w' => e = .returned (.int .i64 (zz : Nat)) ∧ w' = u) := hid (fun u hu => lsize_any (Blk.keep HLg.out hu))
    have HNn : Hid (∀ u, u5.grownBy u none → Calls Tryz.prog 31 #[.pointer (some ⟨lb, 0, none⟩)] u fun e w' => e = .returned (.string (nm 1)) ∧ u.grownBy w' none) := hid (fun u hu => lname_any (Blk.keep HLg.out hu) (nm_size 1))
    have HNm : Hid (∀ u, Calls Tryz.prog 20 #[.int .i64 1] u fun e u' => e = .returned (.string (nm 1)) ∧ u' = u) := hid (fun u => names_any u 1 (by decide))
    obtain ⟨sn, hsn⟩ : ∃ q, nm 1 = q := ⟨_, rfl⟩
    rw [hsn] at HNn HNm
    have HGw := hid (grefl u5 none)
    have hc : u5.cell? ⟨sb, 3, none⟩ = some (.pointer (some ⟨lb, 0, none⟩)) ∧ u5.cell? ⟨sb, 5, none⟩ = some (.pointer (some ⟨rb, 0, none⟩)) ∧ u5.cell? ⟨rb, 2, none⟩ = some (.int .i64 (zz : Nat)) := ⟨(HM.out.cell 3).trans (by show some (pv (x 1)) = _; rw [hx]; rfl), (HM.out.cell 5).trans (by show some (pv (y 1)) = _; rw [hy]; rfl), hR.cell 2⟩
    have HKc : Hid (∀ u, u5.grownBy u none → u.cell? ⟨sb, 3, none⟩ = some (.pointer (some ⟨lb, 0, none⟩)) ∧ u.cell? ⟨sb, 5, none⟩ = some (.pointer (some ⟨rb, 0, none⟩)) ∧ u.cell? ⟨rb, 2, none⟩ = some (.int .i64 (zz : Nat))) := hid (fun u hu => ⟨((HM.out.keep hu).cell 3).trans (by show some (pv (x 1)) = _; rw [HX.out]; rfl), ((HM.out.keep hu).cell 5).trans (by show some (pv (y 1)) = _; rw [HYy.out]; rfl), Blk.cell (Blk.keep HRg.out hu) 2⟩)
    clear hx hy hL hR hzz hsn
    go_upto_region 4 with fail
    go_region_held3 (fun v => v.cell? ⟨sb, 3, none⟩ = some (.pointer (some ⟨lb, 0, none⟩)) ∧ v.cell? ⟨sb, 5, none⟩ = some (.pointer (some ⟨rb, 0, none⟩)) ∧ v.cell? ⟨rb, 2, none⟩ = some (.int .i64 (zz : Nat))) (first | assumption | exact HKc.out _ HGw.out | exact HKc.out _ (gtrans HGw.out (gdrew1 _ _))) (first
     | (go_at_call 19; (with_reducible refine (HSz.out _ (by first | exact HGw.out | exact gtrans HGw.out (gdrew1 _ _))).mono ?_); rintro e v1 ⟨rfl, hw1⟩; subst hw1)
     | (go_at_call 20; (with_reducible refine (HNm.out _).mono ?_); rintro e v2 ⟨rfl, hw1⟩; subst hw1)
     | (go_at_call 31; (with_reducible refine (HNn.out _ (by first | exact HGw.out | exact gtrans HGw.out (gdrew1 _ _))).mono ?_); rintro e v3 ⟨rfl, hg⟩; replace HGw := hid (by first | exact gtrans HGw.out hg | exact gtrans (gtrans HGw.out (gdrew1 _ _)) hg); clear hg))
    go_wp2_with fail
    go_roundw
    ·exact ⟨2, by go_num, by omega, hid (HM.out.keep HGw.out)⟩
    ·simp [intOf]
  ·have HGw := hid (grefl u5 none)
   obtain ⟨L, hL⟩ : ∃ q, srtC A.C = q := ⟨_, rfl⟩
   have HFs : Hid (∀ u, u5.grownBy u none → Calls Tryz.prog 33 #[.pointer (some ⟨b0, 0, none⟩)] u fun e w' => (∃ a g c, e = .returned (.slice a L.length c) ∧ ArF w' (fun _ => True) a g 0 L) ∧ u.grownBy w' none) := hid (fun u hu => by rw [← hL]; exact (HM.out.keep hu).fs)
   have HRs : Hid (∀ u, u5.grownBy u none → Calls Tryz.prog 34 #[.pointer (some ⟨b1, 0, none⟩)] u fun e w' => (∃ a g c, e = .returned (.slice a L.length c) ∧ ArF w' (fun _ => True) a g 0 L) ∧ u.grownBy w' none) := hid (fun u hu => by rw [← hL]; exact (HM.out.keep hu).rfs)
   have HEq : Hid (∀ u a a' g g' c c', ArF u (fun _ => True) a g 0 L → ArF u (fun _ => True) a' g' 0 L → Calls Tryz.prog 32 #[.slice a L.length c, .slice a' L.length c'] u fun e w' => e = .returned (.bool true) ∧ u.grownBy w' none) := hid (fun u a a' g g' c c' q1 q2 => eqFiles_same u _ _ a a' g 0 c g' 0 c' L q1 q2 (by rw [← hL]; exact HNd.out.1) (by rw [← hL]; exact HNd.out.2))
   have HWs : Hid (∀ u, u5.grownBy u none → Calls Tryz.prog 35 #[.pointer (some ⟨b0, 0, none⟩)] u fun e w' => e = .returned (.int .i64 A.wr) ∧ u.grownBy w' none) := hid (fun u hu => (HM.out.keep hu).ws)
   have HOf : Hid (∀ u, u5.grownBy u none → Calls Tryz.prog 36 #[.pointer (some ⟨b0, 0, none⟩)] u fun e w' => e = .returned (.bool A.off) ∧ u.grownBy w' none) := hid (fun u hu => (HM.out.keep hu).of)
   have HKc : Hid (∀ u, u5.grownBy u none → u.cell? ⟨sb, 0, none⟩ = some (.pointer (some ⟨b0, 0, none⟩)) ∧ u.cell? ⟨sb, 1, none⟩ = some (.pointer (some ⟨b1, 0, none⟩)) ∧ u.cell? ⟨b1, 4, none⟩ = some (.bool A.off) ∧ u.cell? ⟨b1, 5, none⟩ = some (.int .i64 A.wr)) := hid (fun u hu => ⟨(HM.out.keep hu).cell 0, (HM.out.keep hu).cell 1, (HM.out.keep hu).rcells.1, (HM.out.keep hu).rcells.2⟩)
   have hc := HKc.out _ HGw.out
   clear hL
   obtain ⟨Ln, hLn⟩ : ∃ q, L.length = q := ⟨_, rfl⟩
   rw [hLn] at HFs HRs HEq
   clear hLn
   obtain ⟨aw, haw⟩ : ∃ q, A.wr = q := ⟨_, rfl⟩
   obtain ⟨ao, hao⟩ : ∃ q, A.off = q := ⟨_, rfl⟩
   rw [haw] at HWs
   rw [hao] at HOf
   rw [haw, hao] at HKc hc
   clear haw hao
   have hself : (ao == ao) = true := by cases ao <;> rfl
   go_upto_region 6 with fail
   go_region_held3 (fun v => v.cell? ⟨sb, 0, none⟩ = some (.pointer (some ⟨b0, 0, none⟩)) ∧ v.cell? ⟨sb, 1, none⟩ = some (.pointer (some ⟨b1, 0, none⟩)) ∧ v.cell? ⟨b1, 4, none⟩ = some (.bool ao) ∧ v.cell? ⟨b1, 5, none⟩ = some (.int .i64 aw)) (first | assumption | exact HKc.out _ HGw.out | exact HKc.out _ (gtrans HGw.out (gdrew1 _ _))) (first
    | (go_at_call 33; (with_reducible refine (HFs.out _ (by first | exact HGw.out | exact gtrans HGw.out (gdrew1 _ _))).mono ?_); rintro e v1 ⟨⟨fa1, fg1, fc1, rfl, hA⟩, hg⟩; have HF1 := hid hA; (try replace HF2 := hid (by first | exact HF2.out.keep hg | exact (HF2.out.keep (gdrew1 _ _)).keep hg)); replace HGw := hid (by first | exact gtrans HGw.out hg | exact gtrans (gtrans HGw.out (gdrew1 _ _)) hg); clear hg hA)
    | (go_at_call 34; (with_reducible refine (HRs.out _ (by first | exact HGw.out | exact gtrans HGw.out (gdrew1 _ _))).mono ?_); rintro e v1 ⟨⟨fa2, fg2, fc2, rfl, hA⟩, hg⟩; have HF2 := hid hA; (try replace HF1 := hid (by first | exact HF1.out.keep hg | exact (HF1.out.keep (gdrew1 _ _)).keep hg)); replace HGw := hid (by first | exact gtrans HGw.out hg | exact gtrans (gtrans HGw.out (gdrew1 _ _)) hg); clear hg hA)
    | (go_at_call 32; (with_reducible refine (HEq.out _ _ _ _ _ _ _ (by first | exact HF1.out | exact HF1.out.keep (gdrew1 _ _)) (by first | exact HF2.out | exact HF2.out.keep (gdrew1 _ _))).mono ?_); rintro e v3 ⟨rfl, hg⟩; replace HGw := hid (by first | exact gtrans HGw.out hg | exact gtrans (gtrans HGw.out (gdrew1 _ _)) hg); clear hg)
    | (go_at_call 35; (with_reducible refine (HWs.out _ (by first | exact HGw.out | exact gtrans HGw.out (gdrew1 _ _))).mono ?_); rintro e v4 ⟨rfl, hg⟩; replace HGw := hid (by first | exact gtrans HGw.out hg | exact gtrans (gtrans HGw.out (gdrew1 _ _)) hg); clear hg)
    | (go_at_call 36; (with_reducible refine (HOf.out _ (by first | exact HGw.out | exact gtrans HGw.out (gdrew1 _ _))).mono ?_); rintro e v5 ⟨rfl, hg⟩; replace HGw := hid (by first | exact gtrans HGw.out hg | exact gtrans (gtrans HGw.out (gdrew1 _ _)) hg); clear hg))
   all_goals go_wp2_with fail
   all_goals go_ret
   all_goals exact ⟨rfl, HM.out.keep HGw.out⟩
end Go.Proofs.YtpbiofnncdneoaaGreatDoor
