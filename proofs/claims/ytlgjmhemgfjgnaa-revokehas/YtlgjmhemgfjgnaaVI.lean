/- with, IndexFunc, DeleteFunc. -/
import Derived.Test.YtlgjmhemgfjgnaaVH
namespace Go.Proofs.Ytlgjmhemgfjgnaa
open Go Go.RowKit
open Go.RowKit (wrap32 wrap64)

set_option maxRecDepth 100000 in
set_option maxHeartbeats 800000 in
theorem with_any (w : World) (F : Nat → Prop) (v1 v3 : Value) (l1 l3 : List Ky) (r : Ky) (hr : r.ok) (h1 : RdK w F v1 l1) (h3 : RdK w F v3 l3) (hl : l1.length + (1 + l3.length) ≤ 1099511627776) :
    Calls Try.prog 25 #[v1, .agg r.cells.toArray, v3] w fun e w' => ∃ v', e = .returned v' ∧ OutK w.heap.size w' v' (l1 ++ (r :: l3)) ∧ w.grownBy w' none := by
  have HV1 := hid h1
  have HV3 := hid h3
  obtain ⟨ho1, a1, b1, off1, c1, rfl, hc1, Ha1, Hc1⟩ := h1.open
  obtain ⟨ho3, a3, b3, off3, c3, rfl, hc3, Ha3, Hc3⟩ := h3.open
  obtain ⟨F2, HF2⟩ : ∃ F2 : Nat → Prop, Hid (∀ x, F2 x ↔ (F x ∨ w.heap.size ≤ x)) := ⟨fun x => F x ∨ w.heap.size ≤ x, hid (fun x => Iff.rfl)⟩
  have HCc : Hid (∀ (u : World) (B L : Nat), u.cell? ⟨B, 0, none⟩ = some (.slice a1 l1.length c1) → u.cell? ⟨B, 1, none⟩ = some (.slice (some ⟨L, 0, none⟩) 1 1) → u.cell? ⟨B, 2, none⟩ = some (.slice a3 l3.length c3) → Blk u L r.cells 48 → w.heap.size ≤ L → w.grownBy u none →
      Calls Try.prog 34 #[.slice (some ⟨B, 0, none⟩) 3 3] u fun e w' => ∃ v', e = .returned v' ∧ OutK w.heap.size w' v' (l1 ++ (r :: l3)) ∧ u.grownBy w' none) := hid (fun u B L hb0 hb1 hb2 hL hwL hu => by
    have := concat_any u F2 B (fun k => if k = 0 then a1 else if k = 1 then some ⟨L, 0, none⟩ else a3) (fun k => if k = 0 then c1 else if k = 1 then 1 else c3) (fun k => if k = 0 then l1 else if k = 1 then [r] else l3)
      (fun k hk => by
        match k, hk with
        | 0, _ => exact hb0
        | 1, _ => exact hb1
        | 2, _ => exact hb2)
      (fun k hk => by
        match k, hk with
        | 0, _ => exact (HV1.out.keep hu).mono (fun x _ hx => (HF2.out x).2 (.inl hx))
        | 1, _ => exact one_rd hr hL F2 ((HF2.out L).2 (.inr hwL))
        | 2, _ => exact (HV3.out.keep hu).mono (fun x _ hx => (HF2.out x).2 (.inl hx)))
      (by show 0 + l1.length + 1 + l3.length ≤ _; omega)
    refine this.mono ?_
    rintro e w' ⟨v', he, ho, hg⟩
    refine ⟨v', he, ?_, hg⟩
    have e1 : cat (fun k => if k = 0 then l1 else if k = 1 then [r] else l3) 3 = l1 ++ (r :: l3) := by
      show (([] ++ l1) ++ [r]) ++ l3 = _
      simp
    rw [e1] at ho
    exact ho.below hu.size)
  have HRi := hid hr.2.1
  obtain ⟨K, HKe⟩ : ∃ K, Hid (r.cells = K) := ⟨_, hid rfl⟩
  obtain ⟨n1, HN1⟩ : ∃ n, Hid (l1.length = n) := ⟨_, hid rfl⟩
  obtain ⟨n3, HN3⟩ : ∃ n, Hid (l3.length = n) := ⟨_, hid rfl⟩
  rw [HN1.out, HN3.out] at HCc ⊢
  have HKL : Hid (r.cells.length = 19) := hid (Ky.cells_length HRi.out)
  have HKs : Hid ((Try.prog.info? 48).map (·.size) = some r.cells.length) := hid (by rw [HKL.out]; exact Try.size48)
  clear h1 h3 ho1 ho3 hc1 hc3 Ha1 Ha3 Hc1 Hc3 hl HV1 HV3 HF2 HKe HN1 HN3 hr
  go_enter Try.func25, Try.ntmps25
  go_upto_region 1 with ((with_reducible refine wpList_box_row (by with_unfolding_all rfl) 48 _ (by with_unfolding_all rfl) r.cells (by with_unfolding_all rfl) ?_); intro w1 B1 s1 g1; have HB1 := hid B1; have HG1 := hid g1; clear B1 g1 s1)
  go_wp2_with (first
    | (with_reducible refine wpList_load_part (by with_unfolding_all rfl) 48 _ (by with_unfolding_all rfl) w.heap.size 0 r.cells _ (by with_unfolding_all rfl) HB1.out.whole Try.underlying48 (by with_unfolding_all rfl) HKs.out ?_)
    | ((with_reducible refine wpList_slice1 (by with_unfolding_all rfl) _ (by with_unfolding_all rfl) r HRi.out (by with_unfolding_all rfl) ?_); intro w2 B2 s2 g2; have HB2 := hid B2; have HG2 := hid (gtrans HG1.out g2); have HS2 := hid HG1.out.size; obtain ⟨W3, hW3⟩ : ∃ x, w2.alloc (.cells #[.slice a1 n1 c1, .slice (some ⟨w1.heap.size, 0, none⟩) 1 1, .slice a3 n3 c3] 23) = x := ⟨_, rfl⟩; have HB3 : Hid (Blk W3 w2.heap.size [.slice a1 n1 c1, .slice (some ⟨w1.heap.size, 0, none⟩) 1 1, .slice a3 n3 c3] 23) := hid (by rw [← hW3]; exact Blk.new w2 _ 23); have HG3 : Hid (w2.grownBy W3 none) := hid (by rw [← hW3]; exact galloc _ _ _); clear B2 g2 s2)
    | (go_at_call 34; (with_reducible refine (HCc.out _ _ _ (HB3.out.cell 0) (HB3.out.cell 1) (HB3.out.cell 2) (HB2.out.keep HG3.out) HS2.out (gtrans HG2.out HG3.out)).mono ?_); rintro e w4 ⟨v4, rfl, ho4, hg4⟩; have HO4 := hid ho4; have HG4 := hid (gtrans (gtrans HG2.out HG3.out) hg4); clear ho4 hg4))
  go_ret
  exact ⟨_, rfl, HO4.out, HG4.out⟩
end Go.Proofs.Ytlgjmhemgfjgnaa
