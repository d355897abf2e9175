/- Clone, Grow, Concat, with. -/
import Derived.Test.YtlgjmhemgfjgnaaVF
import Derived.Laws.OwnMore
import Derived.Lib.AppendZeros
namespace Go.Proofs.Ytlgjmhemgfjgnaa
open Go Go.RowKit
open Go.RowKit (wrap32 wrap64)

set_option maxRecDepth 100000 in
set_option maxHeartbeats 800000 in
theorem clone_any (w : World) (v : Value) (F : Nat → Prop) (l : List Ky) (hv : RdK w F v l) (hl : l.length ≤ 1000000) :
    Calls Try.prog 23 #[v] w fun e w' => ∃ v', e = .returned v' ∧ OutK w.heap.size w' v' l ∧ w.grownBy w' none := by
  have HV := hid hv
  obtain ⟨ho, a, b, off, c, hve, hc, hn, ha, hcell⟩ := hv
  subst hve
  cases a with
  | none =>
    have hc0 := hn rfl
    subst hc0
    have hl0 : l = [] := List.eq_nil_of_length_eq_zero (by omega)
    subst hl0
    clear hn ha hcell hc ho HV
    show Calls Try.prog 23 #[.slice none 0 0] w _
    have kn : ∀ u, (binOp .eql 23 (.slice none 0 0) (.slice none 0 0)).run Try.prog u = .ok (.bool true) u := fun u => by kernel_rfl
    go_enter Try.func23, Try.ntmps23
    go_wp2_with fail
    go_ret
    exact ⟨_, rfl, OutK.nil _ _, grefl _ _⟩
  | some q =>
    obtain ⟨n, HN⟩ : ∃ n, Hid (l.length = n) := ⟨_, hid rfl⟩
    rw [HN.out] at HV hl ⊢
    obtain ⟨W1, hW1⟩ : ∃ x, w.alloc (.cells #[] 48) = x := ⟨_, rfl⟩
    have HG1 : Hid (w.grownBy W1 none) := hid (by rw [← hW1]; exact galloc _ _ _)
    have HO1 : Hid (OutK w.heap.size W1 (.slice (some ⟨w.heap.size, 0, none⟩) 0 0) []) := hid ⟨(fun k hk => by simp at hk), by rw [← hW1]; exact World.ownsRow_lit w #[] 0 (Nat.le_refl _) (by decide) rfl⟩
    have kn : ∀ u, (binOp .eql 23 (.slice (some q) n c) (.slice none 0 0)).run Try.prog u = .ok (.bool false) u := fun u => by kernel_rfl
    clear ho hc hn ha hcell
    go_enter Try.func23, Try.ntmps23
    go_wp2_with (at_builtin; refine wpList_append_keys rfl _ _ rfl w.heap.size F [] l HO1.out (HV.out.keep HG1.out) (by show 0 + l.length ≤ _; rw [HN.out]; omega) HG1.out.size ?_; intro v4 w4 hO4 hg4; have HO4 := hid hO4; have HG4 : Hid (W1.grownBy w4 (some w.heap.size)) := hid hg4; clear hO4 hg4)
    go_ret
    exact ⟨_, rfl, HO4.out, HG1.out.andThen HG4.out (fun j hj => .inl (by injection hj with hj; omega))⟩

theorem zeroCells_size (zs : Array Value) (n : Nat) : (Builtin.zeroCells zs n).size = n * zs.size := by simp [Builtin.zeroCells]
set_option maxRecDepth 100000 in
set_option maxHeartbeats 1600000 in
/-- Grow of no slice. -/
theorem grow_any (w : World) (n : Nat) (hn : n ≤ 1099511627776) :
    Calls Try.prog 37 #[.slice none 0 0, .int .i64 n] w fun e w' => ∃ v', e = .returned v' ∧ OutK w.heap.size w' v' [] ∧ w.grownBy w' none := by
  by_cases h0 : n = 0
  · subst h0
    show Calls Try.prog 37 #[.slice none 0 0, .int .i64 0] w _
    go_enter Try.func37, Try.ntmps37
    go_wp2_with fail
    go_ret
    exact ⟨_, rfl, OutK.nil _ _, grefl _ _⟩
  · obtain ⟨inf, hi, hz0, hz1, hz2⟩ := info_parts Try.info48
    obtain ⟨G, hG⟩ : ∃ G, grownCap w n 0 48 = G := ⟨_, rfl⟩
    have hGn : n ≤ G := by rw [← hG]; exact grownCap_ge w n 0 48
    have hGm : G ≤ maxLen := by rw [← hG]; exact grownCap_le_maxLen w n 0 48 (by unfold maxLen; omega)
    obtain ⟨W1, hW1⟩ : ∃ x, w.drew.alloc (.cells (Builtin.zeroCells zky.cells.toArray n ++ Builtin.zeroCells zky.cells.toArray (G - n)) 48) = x := ⟨_, rfl⟩
    have hr : ∀ ty, (Builtin.append_ #[23, 3] ty #[.slice none 0 0, .int .i64 n]).run Try.prog w = .ok (.slice (some ⟨w.heap.size, 0, none⟩) n G) W1 := fun ty => by
      have := Lib.run_append_nil_zeros (P := Try.prog) w 23 3 ty 48 inf (.agg zky.cells.toArray) .i64 .i64 Try.underlying23 Try.underlying3 hi hz0 n (by omega) (by omega) (by omega) (by rw [hz2]; omega)
      rw [this, hG, ← hW1]
      rfl
    have HG1 : Hid (w.grownBy W1 none) := hid (by rw [← hW1]; exact gtrans (gdrew w 1 none) (galloc _ _ _))
    have HO1 : Hid (OutK w.heap.size W1 (.slice (some ⟨w.heap.size, 0, none⟩) 0 G) []) := hid ⟨(fun k hk => by simp at hk), by
      rw [← hW1]
      refine World.ownsRow_made (base := w.heap.size) w.drew _ G (Nat.le_refl _) hGm ?_
      rw [Array.size_append, zeroCells_size, zeroCells_size, ← Nat.add_mul]
      rw [show n + (G - n) = G by omega]
      rfl⟩
    have HR := hid hr
    have h1 : ¬ ((n : Int) < 0) := by omega
    have h4 : (0 : Int) < (n : Int) := by omega
    have hG0 : (0 : Int) ≤ (G : Int) := by omega
    clear hr hi hz0 hz1 hz2 hW1 hG hGn hGm h0
    go_enter Try.func37, Try.ntmps37
    go_wp2_with (at_builtin; refine Lib.wpList_append_run _ rfl _ _ _ _ rfl _ _ rfl rfl _ _ (HR.out _) ?_)
    go_ret
    exact ⟨_, rfl, HO1.out, HG1.out⟩
end Go.Proofs.Ytlgjmhemgfjgnaa
