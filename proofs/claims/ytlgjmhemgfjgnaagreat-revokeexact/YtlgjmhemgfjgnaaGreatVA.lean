/- The three tests of an entry's number or time: span's two, Prune's one. -/
import Derived.Test.YtlgjmhemgfjgnaaGreatRvP
namespace Go.Proofs.YtlgjmhemgfjgnaaGreat
open Go Go.RowKit
open Go.RowKit (wrap32 wrap64)

theorem cell_lt {w : World} {b o : Nat} {v : Value} (h : w.cell? ⟨b, o, none⟩ = some v) : b < w.heap.size := by
  rcases Nat.lt_or_ge b w.heap.size with h1 | h1
  · exact h1
  · simp [World.cell?, Array.getElem?_eq_none h1] at h
set_option maxRecDepth 100000 in
set_option maxHeartbeats 800000 in
/-- span's first test. -/
theorem lt_g (w : World) (k : Ky) (p g : Nat) (hp : w.cell? ⟨p, 0, none⟩ = some (.int .u64 g)) :
    Calls Tryz.prog 76 #[.agg k.cells.toArray, .pointer (some ⟨p, 0, none⟩)] w fun e w' => e = .returned (.bool (decide (k.g < g))) ∧ w.grownBy w' none := by
  have hpl : p < w.heap.size := cell_lt hp
  have HP := hid hp
  have hc0 := fun (u : World) (B : Nat) (h : Blk u B k.cells 85) => (by rw [h.cell]; exact Ky.c1 _ : u.cell? ⟨B, 1, none⟩ = some (.int .u64 k.g))
  obtain ⟨K, HK⟩ : ∃ K, Hid (k.cells = K) := ⟨_, hid rfl⟩
  obtain ⟨x, HX⟩ : ∃ x, Hid (k.g = x) := ⟨_, hid rfl⟩
  rw [HK.out, HX.out] at hc0
  rw [HK.out, HX.out]
  have HC0 := hid hc0
  have e0 : decide ((x : Int) < (g : Int)) = decide (x < g) := by rw [Bool.eq_iff_iff]; simp
  have HE0 := hid e0
  clear hc0 e0 hp
  go_enter Tryz.func76, Tryz.ntmps76
  go_wp2_with (with_reducible refine wpList_box_row (by with_unfolding_all rfl) 85 _ (by with_unfolding_all rfl) K (by with_unfolding_all rfl) ?_; intro w1 B1 s1 g1; have HB1 := hid B1; have HG1 := hid g1; have HS1 := hid s1; clear B1 g1 s1; have y0 := HC0.out _ _ HB1.out; have y1 := (cell_at HG1.out hpl (by simp)).trans HP.out)
  go_ret
  exact ⟨by first | rfl | (rw [← HE0.out]), HG1.out⟩
set_option maxRecDepth 100000 in
set_option maxHeartbeats 800000 in
/-- span's second test. -/
theorem eq_g (w : World) (k : Ky) (p g : Nat) (hp : w.cell? ⟨p, 0, none⟩ = some (.int .u64 g)) :
    Calls Tryz.prog 77 #[.agg k.cells.toArray, .pointer (some ⟨p, 0, none⟩)] w fun e w' => e = .returned (.bool (k.g == g)) ∧ w.grownBy w' none := by
  have hpl : p < w.heap.size := cell_lt hp
  have HP := hid hp
  have hc0 := fun (u : World) (B : Nat) (h : Blk u B k.cells 85) => (by rw [h.cell]; exact Ky.c1 _ : u.cell? ⟨B, 1, none⟩ = some (.int .u64 k.g))
  obtain ⟨K, HK⟩ : ∃ K, Hid (k.cells = K) := ⟨_, hid rfl⟩
  obtain ⟨x, HX⟩ : ∃ x, Hid (k.g = x) := ⟨_, hid rfl⟩
  rw [HK.out, HX.out] at hc0
  rw [HK.out, HX.out]
  have HC0 := hid hc0
  have e0 : ((x : Int) == (g : Int)) = (x == g) := by rw [Bool.eq_iff_iff]; simp only [beq_iff_eq]; omega
  have HE0 := hid e0
  clear hc0 e0 hp
  go_enter Tryz.func77, Tryz.ntmps77
  go_wp2_with (with_reducible refine wpList_box_row (by with_unfolding_all rfl) 85 _ (by with_unfolding_all rfl) K (by with_unfolding_all rfl) ?_; intro w1 B1 s1 g1; have HB1 := hid B1; have HG1 := hid g1; have HS1 := hid s1; clear B1 g1 s1; have y0 := HC0.out _ _ HB1.out; have y1 := (cell_at HG1.out hpl (by simp)).trans HP.out)
  go_ret
  exact ⟨by rw [← HE0.out]; rfl, HG1.out⟩
set_option maxRecDepth 100000 in
set_option maxHeartbeats 800000 in
/-- Prune's test. -/
theorem le_ex (w : World) (k : Ky) (p : Nat) (now : Int) (hk : k.id.length = 16) (hp : w.cell? ⟨p, 0, none⟩ = some (.int .i64 now)) :
    Calls Tryz.prog 41 #[.agg k.cells.toArray, .pointer (some ⟨p, 0, none⟩)] w fun e w' => e = .returned (.bool (decide (k.ex ≤ now))) ∧ w.grownBy w' none := by
  have hpl : p < w.heap.size := cell_lt hp
  have HP := hid hp
  have hc0 := fun (u : World) (B : Nat) (h : Blk u B k.cells 85) => (by rw [h.cell]; exact Ky.c18 hk : u.cell? ⟨B, 18, none⟩ = some (.int .i64 k.ex))
  obtain ⟨K, HK⟩ : ∃ K, Hid (k.cells = K) := ⟨_, hid rfl⟩
  obtain ⟨x, HX⟩ : ∃ x, Hid (k.ex = x) := ⟨_, hid rfl⟩
  rw [HK.out, HX.out] at hc0
  rw [HK.out, HX.out]
  have HC0 := hid hc0
  clear hc0 hp
  go_enter Tryz.func41, Tryz.ntmps41
  go_wp2_with (with_reducible refine wpList_box_row (by with_unfolding_all rfl) 85 _ (by with_unfolding_all rfl) K (by with_unfolding_all rfl) ?_; intro w1 B1 s1 g1; have HB1 := hid B1; have HG1 := hid g1; have HS1 := hid s1; clear B1 g1 s1; have y0 := HC0.out _ _ HB1.out; have y1 := (cell_at HG1.out hpl (by simp)).trans HP.out)
  go_ret
  exact ⟨rfl, HG1.out⟩
end Go.Proofs.YtlgjmhemgfjgnaaGreat
