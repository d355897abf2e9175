/- Find. -/
import Derived.Test.YtmpcpakdocaieaaRingE
namespace Go.Proofs.Ytmpcpakdocaieaa
open Go Go.RowKit
open Go.RowKit (wrap32 wrap64)

theorem cell_lt {w : World} {b o : Nat} {v : Value} (h : w.cell? ⟨b, o, none⟩ = some v) : b < w.heap.size := by
  rcases Nat.lt_or_ge b w.heap.size with h1 | h1
  · exact h1
  · simp [World.cell?, Array.getElem?_eq_none h1] at h
set_option maxRecDepth 100000 in
set_option maxHeartbeats 800000 in
theorem is_kid (w : World) (k : Ky) (p : Nat) (kid : Nat) (hp : w.cell? ⟨p, 0, none⟩ = some (.int .u64 kid)) :
    Calls Try.prog 49 #[.agg k.cells.toArray, .pointer (some ⟨p, 0, none⟩)] w fun e w' => e = .returned (.bool (k.kid == kid)) ∧ w.grownBy w' none := by
  have hpl : p < w.heap.size := cell_lt hp
  have HP := hid hp
  have hc0 := fun (u : World) (B : Nat) (h : Blk u B k.cells 107) => (by rw [h.cell]; exact Ky.c0 _ : u.cell? ⟨B, 0, none⟩ = some (.int .u64 k.kid))
  obtain ⟨K, HK⟩ : ∃ K, Hid (k.cells = K) := ⟨_, hid rfl⟩
  obtain ⟨x, HX⟩ : ∃ x, Hid (k.kid = x) := ⟨_, hid rfl⟩
  rw [HK.out, HX.out] at hc0
  rw [HK.out, HX.out]
  have HC0 := hid hc0
  have e0 : ((x : Int) == (kid : Int)) = (x == kid) := by rw [Bool.eq_iff_iff]; simp only [beq_iff_eq]; omega
  have HE0 := hid e0
  clear hc0 e0 hp
  go_enter Try.func49, Try.ntmps49
  go_wp2_with (with_reducible refine wpList_box_row (by with_unfolding_all rfl) 107 _ (by with_unfolding_all rfl) K (by with_unfolding_all rfl) ?_; intro w1 B1 s1 g1; have HB1 := hid B1; have HG1 := hid g1; have HS1 := hid s1; clear B1 g1 s1; have y0 := HC0.out _ _ HB1.out; have y1 := (cell_at HG1.out hpl (by simp)).trans HP.out)
  go_ret
  exact ⟨by rw [← HE0.out]; rfl, HG1.out⟩

/-- The first key of that kid. -/
def findK (l : List Ky) (kid : Nat) : Option Ky := l.find? (fun k => k.kid == kid)
set_option maxRecDepth 100000 in
set_option maxHeartbeats 800000 in
theorem index_any (w : World) (v : Value) (F : Nat → Prop) (l : List Ky) (p kid m : Nat) (hv : RdK w F v l) (hl : l.length ≤ 1099511627776) (hp : w.cell? ⟨p, 0, none⟩ = some (.int .u64 kid))
    (hm : m ≤ l.length) (hj : ∀ j (h : j < l.length), j < m → ¬ l[j].kid = kid) (hi : ∀ h : m < l.length, l[m].kid = kid) :
    Calls Try.prog 84 #[v, .func (.func 49) #[] #[.pointer (some ⟨p, 0, none⟩)]] w fun e w' => e = .returned (.int .i64 (if m < l.length then (m : Int) else -1)) ∧ w.grownBy w' none := by
  have hpl : p < w.heap.size := cell_lt hp
  have HP := hid hp
  obtain ⟨ho, a, b, off, c, rfl, hc, Ha, Hc⟩ := hv.open
  obtain ⟨n, HN⟩ : ∃ n, Hid (l.length = n) := ⟨_, hid rfl⟩
  have HO := hid ho
  have HJ := hid hj
  have HI := hid hi
  rw [HN.out] at hm hl ⊢
  have HF : Hid (∀ (u : World) (k : Ky), w.grownBy u none → Calls Try.prog 49 #[.agg k.cells.toArray, .pointer (some ⟨p, 0, none⟩)] u fun e w' => e = .returned (.bool (k.kid == kid)) ∧ u.grownBy w' none) := fun u k hu => is_kid u k p kid ((cell_at hu hpl (by simp)).trans HP.out)
  clear hv hc ho hj hi hp
  go_enter Try.func84, Try.ntmps84
  go_wp2_with fail
  go_loopw [8] (fun iv wr => ∃ i : Nat, iv = .int .i64 i ∧ i ≤ m ∧ Hid (w.grownBy wr none)) (fun iv _ => n - (intOf iv).toNat)
  case atStart => exact ⟨0, rfl, Nat.zero_le _, hid (grefl _ _)⟩
  case round =>
    obtain ⟨i, rfl, him, HG⟩ := hrel
    by_cases hlt : i < n
    · have hil : i < l.length := by rw [HN.out]; exact hlt
      have hlt' : (i : Int) < (n : Int) := by omega
      obtain ⟨rfl, -⟩ := Ha.out (by omega)
      obtain ⟨hr, hb⟩ := Hc.out wr HG.out i hil
      have hko := HO.out _ (List.getElem_mem hil)
      have HKL : Hid (l[i].cells.length = 34) := hid (Ky.cells_length hko.2.1)
      have HFi : Hid (∀ u, w.grownBy u none → Calls Try.prog 49 #[.agg l[i].cells.toArray, .pointer (some ⟨p, 0, none⟩)] u fun e w' => e = .returned (.bool (l[i].kid == kid)) ∧ u.grownBy w' none) := fun u hu => HF.out u _ hu
      obtain ⟨g, HGv⟩ : ∃ g, Hid ((l[i].kid == kid) = g) := ⟨_, hid rfl⟩
      have HGd : Hid (g = decide (i = m)) := hid (by
        rw [← HGv.out]
        by_cases h : i = m
        · subst h; rw [decide_eq_true rfl]; simpa using HI.out hil
        · rw [decide_eq_false h]; simpa using HJ.out i hil (by omega))
      obtain ⟨K, HK⟩ : ∃ K, Hid (l[i].cells = K) := ⟨_, hid rfl⟩
      rw [HGv.out, HK.out] at HFi
      rw [HK.out] at HKL hr
      have HRr := hid hr
      clear hr hko HK HGv hil HF
      cases g with
      | true =>
        have hm' : i = m := by have := HGd.out; simpa using this
        subst hm'
        go_wp2_with (first
          | (with_reducible refine wpList_load_part (by with_unfolding_all rfl) 107 _ (by with_unfolding_all rfl) b (off + i * 34) K _ (by with_unfolding_all rfl) HRr.out Try.underlying107 (by with_unfolding_all rfl) (by rw [HKL.out]; exact Try.size107) ?_)
          | (go_at_call 49; with_reducible refine (HFi.out _ HG.out).mono ?_; rintro e w2 ⟨rfl, hg2⟩; have HG2 := hid hg2; clear hg2))
        go_ret
        exact ⟨ret_int (by first | rfl | rw [if_pos hlt]), gtrans HG.out HG2.out⟩
      | false =>
        have hm' : i ≠ m := by have := HGd.out; simpa using this
        go_wp2_with (first
          | (with_reducible refine wpList_load_part (by with_unfolding_all rfl) 107 _ (by with_unfolding_all rfl) b (off + i * 34) K _ (by with_unfolding_all rfl) HRr.out Try.underlying107 (by with_unfolding_all rfl) (by rw [HKL.out]; exact Try.size107) ?_)
          | (go_at_call 49; with_reducible refine (HFi.out _ HG.out).mono ?_; rintro e w2 ⟨rfl, hg2⟩; have HG2 := hid hg2; clear hg2))
        go_roundw
        case rel => exact ⟨i + 1, by go_num, by omega, hid (gtrans HG.out HG2.out)⟩
        case measure => simp [intOf]; omega
    · have hge : ¬ (i : Int) < (n : Int) := by omega
      have hmn : ¬ m < n := by omega
      go_wp2_with fail
      go_ret
      exact ⟨ret_int (by first | rfl | rw [if_neg hmn]), HG.out⟩
end Go.Proofs.Ytmpcpakdocaieaa
