/- The walk of gets at an ID. -/
import Derived.Test.YtfalgjdhdgkbfaaDoorPutA
import Derived.Deep.RegionHeld3
import Derived.Stop.BytesEq
namespace Go.Proofs.YtfalgjdhdgkbfaaDoor
open Go Go.RowKit
open Go.RowKit (wrap32 wrap64)

theorem eql_id (D : List UInt8) (h : D.length = 16) (w : World) : (binOp .eql 31 (.agg (Lib.byteCells D).toArray) (.agg (Lib.byteCells D).toArray)).run Tryd.prog w = .ok (.bool true) w := by
  have h1 := run_eql_bytes (P := Tryd.prog) w 31 5 16 Tryd.underlying31 Tryd.underlying5 (fun u => by rfl) D D h h
  rw [show (D == D) = true by simp] at h1
  exact h1

set_option maxRecDepth 100000 in
set_option maxHeartbeats 8000000 in
theorem gets_id (w : World) (b : Nat) (F : Nat → Prop) (r : List UInt8) (on : Int) (N : Nat) (wd ii : Int) (fl : Bool) (ba : Option Addr) (LB bc : Nat) (D : List UInt8)
    (hD : D.length = 16) (h : Rr w b F (D ++ r) 0) :
    Calls Tryd.prog 13 #[.pointer (some ⟨b, 0, none⟩), .agg (#[.int .i64 6, .int .i64 on, .int .u64 N, .int .i64 wd, .int .i64 ii, .bool fl, .slice ba LB bc] ++ (Lib.byteCells D).toArray)] w fun e w' => e = .returned (.bool true) ∧ Rr w' b F r 0 ∧ w.grownBy w' (some b) := by
  obtain ⟨cs, hcs⟩ : ∃ x, Lib.byteCells D = x := ⟨_, rfl⟩
  have HC : Hid (∀ u, Rr u b F (D ++ r) 0 → Calls Tryd.prog 31 #[.pointer (some ⟨b, 0, none⟩)] u fun e w' => e = .returned (.agg cs.toArray) ∧ Rr w' b F r 0 ∧ u.grownBy w' (some b)) := hid (fun u hu => by
    have h2 := rid_any u b F _ 0 hu
    obtain ⟨e1, e2, e3⟩ := id_back D r hD
    rw [e1, e2, e3, hcs] at h2
    exact h2)
  have HQ : ∀ u, (binOp .eql 31 (.agg cs.toArray) (.agg cs.toArray)).run Tryd.prog u = .ok (.bool true) u := fun u => by rw [← hcs]; exact eql_id D hD u
  have hcl : cs.length = 16 := by rw [← hcs]; simp [Lib.byteCells, hD]
  rw [hcs]
  have hun := Tryd.underlying31
  have hin : (Tryd.prog.info? 31).map (·.size) = some cs.length := by rw [hcl]; rfl
  obtain ⟨C, hC⟩ : ∃ x : Array Value, #[.int .i64 6, .int .i64 on, .int .u64 N, .int .i64 wd, .int .i64 ii, .bool fl, .slice ba LB bc] ++ cs.toArray = x := ⟨_, rfl⟩
  have hCe : (C.extract 7 (7 + 16)).toList = cs := by
    rw [← hC]; simp [← hcl]
  have hC0 : C[0]? = some (.int .i64 6) := by rw [← hC]; simp
  rw [hC]
  obtain ⟨W0, hW0⟩ : ∃ x, w.alloc (.cells C 33) = x := ⟨_, rfl⟩
  have hP := heap_new w C 33
  rw [hW0] at hP
  have hg0 : w.grownBy W0 none := by rw [← hW0]; exact galloc _ _ _
  have hlt := h.lt
  have HP : Hid (∀ u, W0.grownBy u (some b) → u.rangeAt w.heap.size 7 cs) := hid (fun u hu => by
    have h1 := heap_at hu (by simp; omega) hP
    have h2 := World.rangeAt_of_block h1 7 16
    rw [hCe] at h2; exact h2)
  have x0 : W0.cell? ⟨w.heap.size, 0, none⟩ = some (.int .i64 6) := by rw [cell_of_row W0 w.heap.size 0 C 33 _ hP]; exact hC0
  have xr : W0.rangeAt w.heap.size 7 cs := HP.out W0 (World.grownBy.refl _ _)
  have HW0 := hid (h.keep hg0)
  have HG0 := hid (gsome hg0 (some b))
  clear hP h hC hCe hC0 hcs hcl
  go_enter Tryd.func13, Tryd.ntmps13
  go_wp2_with fail
  go_region_held (fun u => u.rangeAt w.heap.size 7 cs) (first | assumption | exact xr | go_keep_ranges) (first
    | (go_at_call 31; refine (HC.out _ (HW0.out.keep (gdrew1 _ _))).mono ?_; rintro e w1 ⟨rfl, hR1, hg1⟩; have HR1 := hid hR1; have HG1 := hid (gtrans (gdrew1 _ _) hg1); have hS2 := HP.out w1 HG1.out; clear hR1 hg1))
  all_goals
    go_wp2_with fail
    go_ret
    exact ⟨by simp, HR1.out, gtrans HG0.out HG1.out⟩
end Go.Proofs.YtfalgjdhdgkbfaaDoor
