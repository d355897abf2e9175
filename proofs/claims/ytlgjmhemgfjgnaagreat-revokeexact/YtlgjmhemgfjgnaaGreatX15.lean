/- Clone, Grow, Concat, with. -/
import Derived.Test.YtlgjmhemgfjgnaaGreatVF
import Derived.Laws.OwnMore
import Derived.Lib.AppendZeros
namespace Go.Proofs.YtlgjmhemgfjgnaaGreat
open Go Go.RowKit
open Go.RowKit (wrap32 wrap64)

set_option maxRecDepth 100000 in
set_option maxHeartbeats 800000 in
theorem clone_any (w : World) (v : Value) (F : Nat → Prop) (l : List Ky) (hv : RdK w F v l) (hl : l.length ≤ 1000000) :
    Calls Tryz.prog 38 #[v] w fun e w' => ∃ v', e = .returned v' ∧ OutK w.heap.size w' v' l ∧ w.grownBy w' none := by
  have HV := hid hv
  obtain ⟨ho, a, b, off, c, hve, hc, hn, ha, hcell⟩ := hv
  subst hve
  cases a with
  | none =>
    have hc0 := hn rfl
    subst hc0
    have hl0 : l = [] := List.eq_nil_of_length_eq_zero (by omega)
    subst hl0
    clear hn ha hcell hc ho HV
    show Calls Tryz.prog 38 #[.slice none 0 0] w _
    have kn : ∀ u, (binOp .eql 57 (.slice none 0 0) (.slice none 0 0)).run Tryz.prog u = .ok (.bool true) u := fun u => by kernel_rfl
    go_enter Tryz.func38, Tryz.ntmps38
    go_wp2_with fail
    go_ret
    exact ⟨_, rfl, OutK.nil _ _, grefl _ _⟩
  | some q =>
    obtain ⟨n, HN⟩ : ∃ n, Hid (l.length = n) := ⟨_, hid rfl⟩
    rw [HN.out] at HV hl ⊢
    obtain ⟨W1, hW1⟩ : ∃ x, w.alloc (.cells #[] 85) = x := ⟨_, rfl⟩
    have HG1 : Hid (w.grownBy W1 none) := hid (by rw [← hW1]; exact galloc _ _ _)
    have HO1 : Hid (OutK w.heap.size W1 (.slice (some ⟨w.heap.size, 0, none⟩) 0 0) []) := hid ⟨(fun k hk => by simp at hk), by rw [← hW1]; exact World.ownsRow_lit w #[] 0 (Nat.le_refl _) (by decide) rfl⟩
    have kn : ∀ u, (binOp .eql 57 (.slice (some q) n c) (.slice none 0 0)).run Tryz.prog u = .ok (.bool false) u := fun u => by kernel_rfl
    clear ho hc hn ha hcell
    go_enter Tryz.func38, Tryz.ntmps38
    go_wp2_with (at_builtin; refine wpList_append_keys rfl _ _ rfl w.heap.size F [] l HO1.out (HV.out.keep HG1.out) (by show 0 + l.length ≤ _; rw [HN.out]; omega) HG1.out.size ?_; intro v4 w4 hO4 hg4; have HO4 := hid hO4; have HG4 : Hid (W1.grownBy w4 (some w.heap.size)) := hid hg4; clear hO4 hg4)
    go_ret
    exact ⟨_, rfl, HO4.out, HG1.out.andThen HG4.out (fun j hj => .inl (by injection hj with hj; omega))⟩

set_option maxRecDepth 100000 in
theorem zeroCells_size (zs : Array Value) (n : Nat) : (Builtin.zeroCells zs n).size = n * zs.size := by simp [Builtin.zeroCells]
set_option maxRecDepth 100000 in
set_option maxHeartbeats 1600000 in
set_option maxRecDepth 100000 in
/-- Grow of no slice. -/
theorem grow_any (w : World) (n : Nat) (hn : n ≤ 1099511627776) :
    Calls Tryz.prog 105 #[.slice none 0 0, .int .i64 n] w fun e w' => ∃ v', e = .returned v' ∧ OutK w.heap.size w' v' [] ∧ w.grownBy w' none := by
  by_cases h0 : n = 0
  · subst h0
    show Calls Tryz.prog 105 #[.slice none 0 0, .int .i64 0] w _
    go_enter Tryz.func105, Tryz.ntmps105
    go_wp2_with fail
    go_ret
    exact ⟨_, rfl, OutK.nil _ _, grefl _ _⟩
  · obtain ⟨inf, hi, hz0, hz1, hz2⟩ := info_parts Tryz.info85
    obtain ⟨G, hG⟩ : ∃ G, grownCap w n 0 85 = G := ⟨_, rfl⟩
    have hGn : n ≤ G := by rw [← hG]; exact grownCap_ge w n 0 85
    have hGm : G ≤ maxLen := by rw [← hG]; exact grownCap_le_maxLen w n 0 85 (by unfold maxLen; omega)
    obtain ⟨W1, hW1⟩ : ∃ x, w.drew.alloc (.cells (Builtin.zeroCells zky.cells.toArray n ++ Builtin.zeroCells zky.cells.toArray (G - n)) 85) = x := ⟨_, rfl⟩
    have hr : ∀ ty, (Builtin.append_ #[57, 3] ty #[.slice none 0 0, .int .i64 n]).run Tryz.prog w = .ok (.slice (some ⟨w.heap.size, 0, none⟩) n G) W1 := fun ty => by
      have := Lib.run_append_nil_zeros (P := Tryz.prog) w 57 3 ty 85 inf (.agg zky.cells.toArray) .i64 .i64 Tryz.underlying57 Tryz.underlying3 hi hz0 n (by omega) (by omega) (by omega) (by rw [hz2]; omega)
      rw [this, hG, ← hW1]
      rfl
    have HG1 : Hid (w.grownBy W1 none) := hid (by rw [← hW1]; exact gtrans (gdrew w 1 none) (galloc _ _ _))
    have HO1 : Hid (OutK w.heap.size W1 (.slice (some ⟨w.heap.size, 0, none⟩) 0 G) []) := hid ⟨(fun k hk => by simp at hk), by
      rw [← hW1]
      refine World.ownsRow_made (base := w.heap.size) w.drew _ G (Nat.le_refl _) hGm ?_
      rw [Array.size_append, zeroCells_size, zeroCells_size, ← Nat.add_mul]
      rw [show n + (G - n) = G by omega]
      rfl⟩
    have HR := hid hr
    have h1 : ¬ ((n : Int) < 0) := by omega
    have h4 : (0 : Int) < (n : Int) := by omega
    have hG0 : (0 : Int) ≤ (G : Int) := by omega
    clear hr hi hz0 hz1 hz2 hW1 hG hGn hGm h0
    go_enter Tryz.func105, Tryz.ntmps105
    go_wp2_with (at_builtin; refine Lib.wpList_append_run _ rfl _ _ _ _ rfl _ _ rfl rfl _ _ (HR.out _) ?_)
    go_ret
    exact ⟨_, rfl, HO1.out, HG1.out⟩
end Go.Proofs.YtlgjmhemgfjgnaaGreat

namespace Go.Proofs.YtlgjmhemgfjgnaaGreat
open Go Go.RowKit
open Go.RowKit (wrap32 wrap64)

/-- the rows one behind the other: how many, which. -/
def tot (ls : Nat → List Ky) : Nat → Nat
  | 0 => 0
  | j + 1 => tot ls j + (ls j).length
def cat (ls : Nat → List Ky) : Nat → List Ky
  | 0 => []
  | j + 1 => cat ls j ++ ls j
set_option maxRecDepth 100000 in
theorem cat_len (ls : Nat → List Ky) : ∀ j, (cat ls j).length = tot ls j
  | 0 => rfl
  | j + 1 => by unfold cat tot; rw [List.length_append, cat_len ls j]
set_option maxRecDepth 100000 in
theorem tot_mono (ls : Nat → List Ky) {i : Nat} : ∀ {j}, i ≤ j → tot ls i ≤ tot ls j
  | 0, h => by rw [Nat.le_zero.1 h]; exact Nat.le_refl _
  | j + 1, h => by
    rcases Nat.lt_or_ge i (j + 1) with h1 | h1
    · have := tot_mono ls (i := i) (j := j) (by omega)
      exact Nat.le_trans this (Nat.le_add_right _ _)
    · rw [show i = j + 1 by omega]; exact Nat.le_refl _
set_option maxRecDepth 100000 in
theorem idx62 (b n c i : Nat) (h : i < n) (u : World) : (Instr.indexAt 35 (.slice (some ⟨b, 0, none⟩) n c) (.int .i64 (i : Nat))).run Tryz.prog u = .ok (.pointer (some ⟨b, i, none⟩)) u := by
  have h0 : ¬ ((i : Int) < 0) := by omega
  have h1 : (i : Int) < (n : Int) := by omega
  have hs : (sizeOf (Tryz.prog.elem 35)).run Tryz.prog u = .ok 1 u := by kernel_rfl
  go_simp
set_option maxRecDepth 100000 in
set_option maxHeartbeats 1600000 in
theorem concat_any (w : World) (F : Nat → Prop) (B : Nat) (va : Nat → Option Addr) (vc : Nat → Nat) (ls : Nat → List Ky)
    (hb : ∀ k, k < 3 → w.cell? ⟨B, k, none⟩ = some (.slice (va k) (ls k).length (vc k))) (hv : ∀ k, k < 3 → RdK w F (.slice (va k) (ls k).length (vc k)) (ls k)) (hl : tot ls 3 ≤ 1099511627776) :
    Calls Tryz.prog 79 #[.slice (some ⟨B, 0, none⟩) 3 3] w fun e w' => ∃ v', e = .returned v' ∧ OutK w.heap.size w' v' (cat ls 3) ∧ w.grownBy w' none := by
  have hBl : B < w.heap.size := cell_lt (hb 0 (by decide))
  have HBc : Hid (∀ u, w.grownBy u none → ∀ k, k < 3 → u.cell? ⟨B, k, none⟩ = some (.slice (va k) (ls k).length (vc k))) := hid (fun u hu k hk => (cell_at hu hBl (by simp)).trans (hb k hk))
  have HV : Hid (∀ u row, w.grownBy u row → (∀ k, row = some k → w.heap.size ≤ k) → ∀ k, k < 3 → RdK u (fun x => F x ∧ x < w.heap.size) (.slice (va k) (ls k).length (vc k)) (ls k)) := hid (fun u row hu hr k hk => by
    have h1 : RdK w (fun x => F x ∧ x < w.heap.size) (.slice (va k) (ls k).length (vc k)) (ls k) := (hv k hk).mono (fun x hx hf => ⟨hf, hx⟩)
    exact h1.on hu (fun x hx hf => by have := hr x hx; omega))
  obtain ⟨T, HT⟩ : ∃ T, Hid (tot ls 3 = T) := ⟨_, hid rfl⟩
  have HTm : Hid (∀ j, j ≤ 3 → tot ls j ≤ T) := hid (fun j hj => by rw [← HT.out]; exact tot_mono ls hj)
  have HGr : Hid (∀ u, w.grownBy u none → Calls Tryz.prog 105 #[.slice none 0 0, .int .i64 T] u fun e w' => ∃ v', e = .returned v' ∧ OutK u.heap.size w' v' [] ∧ u.grownBy w' none) := hid (fun u _ => grow_any u T (by rw [← HT.out]; exact hl))
  have hT : (T : Int) ≤ 1099511627776 := by rw [← HT.out]; omega
  clear hb hv hBl hl
  go_enter Tryz.func79, Tryz.ntmps79
  go_wp2_with fail
  go_loopw [3, 11] (fun sv iv wr => ∃ i : Nat, iv = .int .i64 i ∧ i ≤ 3 ∧ sv = .int .i64 (tot ls i) ∧ Hid (w.grownBy wr none)) (fun _ iv _ => 3 - (intOf iv).toNat)
  case atStart => exact ⟨0, rfl, by decide, rfl, hid (grefl _ _)⟩
  case round =>
    obtain ⟨i, rfl, hi, rfl, HG⟩ := hrel
    by_cases hlt : i < 3
    · as_aux_lemma =>
      have hlt' : (i : Int) < 3 := by omega
      have y0 := HBc.out wr HG.out i hlt
      have HS : Hid (tot ls (i + 1) = tot ls i + (ls i).length) := hid rfl
      have hm := HTm.out (i + 1) (by omega)
      rw [HS.out] at hm
      obtain ⟨t, HTt⟩ : ∃ t, Hid (tot ls i = t) := ⟨_, hid rfl⟩
      obtain ⟨m, HM⟩ : ∃ m, Hid ((ls i).length = m) := ⟨_, hid rfl⟩
      rw [HTt.out, HM.out] at hm HS
      rw [HM.out] at y0
      rw [HTt.out]
      have h1 : ¬ ((t : Int) + (m : Int) < 0) := by omega
      have h2 : wrap64 ((t : Int) + (m : Int)) = (t : Int) + (m : Int) := by unfold wrap64; omega
      have h3 : IntKind.i64.wrap ((t : Int) + (m : Int)) = (t : Int) + (m : Int) := by rw [IntKind.wrap_i64]; omega
      have HIx := hid (fun u => idx62 B 3 3 i hlt u)
      clear hm hlt
      go_wp2_with fail
      go_roundw
      case rel => exact ⟨i + 1, by go_num, by omega, by rw [HS.out]; go_num, HG⟩
      case measure => simp [intOf]; omega
    · have hge : ¬ (i : Int) < 3 := by omega
      obtain rfl : i = 3 := by omega
      rw [HT.out]
      clear hi hlt hge
      go_wp2_with (go_at_call 105; (with_reducible refine (HGr.out _ HG.out).mono ?_); rintro e w2 ⟨v2, rfl, ho2, hg2⟩; have HG2 := hid (gtrans HG.out hg2); have HO2 := hid (ho2.below HG.out.size); clear ho2 hg2)
      go_loopw [6, 27] (fun sv iv wx => ∃ i : Nat, iv = .int .i64 i ∧ i ≤ 3 ∧ Hid (OutK w.heap.size wx sv (cat ls i)) ∧ Hid (w.grownBy wx none)) (fun _ iv _ => 3 - (intOf iv).toNat)
      case atStart => exact ⟨0, rfl, by decide, HO2, HG2⟩
      case round =>
        obtain ⟨i, rfl, hi, HO, HGx⟩ := hrel
        by_cases hlt : i < 3
        · as_aux_lemma =>
          have hlt' : (i : Int) < 3 := by omega
          have y0 := HBc.out _ HGx.out i hlt
          have HVi := hid (HV.out _ _ HGx.out (fun k hk => by cases hk) i hlt)
          have HS : Hid (cat ls (i + 1) = cat ls i ++ ls i) := hid rfl
          have HLe : Hid ((cat ls i).length + (ls i).length ≤ 1099511627776) := hid (by
            have := HTm.out (i + 1) (by omega)
            rw [cat_len]
            unfold tot at this
            omega)
          obtain ⟨C, HCe⟩ : ∃ C, Hid (cat ls i = C) := ⟨_, hid rfl⟩
          rw [HCe.out] at HO HS HLe
          obtain ⟨m, HM⟩ : ∃ m, Hid ((ls i).length = m) := ⟨_, hid rfl⟩
          rw [HM.out] at y0 HVi
          have HIx := hid (fun u => idx62 B 3 3 i hlt u)
          clear HCe hlt
          go_wp2_with (at_builtin; refine wpList_append_keys rfl _ _ rfl w.heap.size _ C (ls i) HO.out HVi.out HLe.out HGx.out.size ?_; intro v4 w4 hO4 hg4; have HO4 := hid hO4; have HG4 := hid (HGx.out.andThen hg4 (fun j hj => .inl (HO.out.block j hj))); clear hO4 hg4)
          go_roundw
          case rel => exact ⟨i + 1, by go_num, by omega, by rw [HS.out]; exact HO4, HG4⟩
          case measure => simp [intOf]; omega
        · have hge : ¬ (i : Int) < 3 := by omega
          obtain rfl : i = 3 := by omega
          go_wp2_with fail
          go_ret
          exact ⟨_, rfl, HO.out, HGx.out⟩
end Go.Proofs.YtlgjmhemgfjgnaaGreat

namespace Go.Proofs.YtlgjmhemgfjgnaaGreat
open Go Go.RowKit
open Go.RowKit (wrap32 wrap64)

set_option maxRecDepth 100000 in
set_option maxHeartbeats 800000 in
theorem with_any (w : World) (F : Nat → Prop) (v1 v3 : Value) (l1 l3 : List Ky) (r : Ky) (hr : r.ok) (h1 : RdK w F v1 l1) (h3 : RdK w F v3 l3) (hl : l1.length + (1 + l3.length) ≤ 1099511627776) :
    Calls Tryz.prog 39 #[v1, .agg r.cells.toArray, v3] w fun e w' => ∃ v', e = .returned v' ∧ OutK w.heap.size w' v' (l1 ++ (r :: l3)) ∧ w.grownBy w' none := by
  have HV1 := hid h1
  have HV3 := hid h3
  obtain ⟨ho1, a1, b1, off1, c1, rfl, hc1, Ha1, Hc1⟩ := h1.open
  obtain ⟨ho3, a3, b3, off3, c3, rfl, hc3, Ha3, Hc3⟩ := h3.open
  obtain ⟨F2, HF2⟩ : ∃ F2 : Nat → Prop, Hid (∀ x, F2 x ↔ (F x ∨ w.heap.size ≤ x)) := ⟨fun x => F x ∨ w.heap.size ≤ x, hid (fun x => Iff.rfl)⟩
  have HCc : Hid (∀ (u : World) (B L : Nat), u.cell? ⟨B, 0, none⟩ = some (.slice a1 l1.length c1) → u.cell? ⟨B, 1, none⟩ = some (.slice (some ⟨L, 0, none⟩) 1 1) → u.cell? ⟨B, 2, none⟩ = some (.slice a3 l3.length c3) → Blk u L r.cells 85 → w.heap.size ≤ L → w.grownBy u none →
      Calls Tryz.prog 79 #[.slice (some ⟨B, 0, none⟩) 3 3] u fun e w' => ∃ v', e = .returned v' ∧ OutK w.heap.size w' v' (l1 ++ (r :: l3)) ∧ u.grownBy w' none) := hid (fun u B L hb0 hb1 hb2 hL hwL hu => by
    have := concat_any u F2 B (fun k => if k = 0 then a1 else if k = 1 then some ⟨L, 0, none⟩ else a3) (fun k => if k = 0 then c1 else if k = 1 then 1 else c3) (fun k => if k = 0 then l1 else if k = 1 then [r] else l3)
      (fun k hk => by
        match k, hk with
        | 0, _ => exact hb0
        | 1, _ => exact hb1
        | 2, _ => exact hb2)
      (fun k hk => by
        match k, hk with
        | 0, _ => exact (HV1.out.keep hu).mono (fun x _ hx => (HF2.out x).2 (.inl hx))
        | 1, _ => exact one_rd hr hL F2 ((HF2.out L).2 (.inr hwL))
        | 2, _ => exact (HV3.out.keep hu).mono (fun x _ hx => (HF2.out x).2 (.inl hx)))
      (by show 0 + l1.length + 1 + l3.length ≤ _; omega)
    refine this.mono ?_
    rintro e w' ⟨v', he, ho, hg⟩
    refine ⟨v', he, ?_, hg⟩
    have e1 : cat (fun k => if k = 0 then l1 else if k = 1 then [r] else l3) 3 = l1 ++ (r :: l3) := by
      show (([] ++ l1) ++ [r]) ++ l3 = _
      simp
    rw [e1] at ho
    exact ho.below hu.size)
  have HRi := hid hr.2.1
  obtain ⟨K, HKe⟩ : ∃ K, Hid (r.cells = K) := ⟨_, hid rfl⟩
  obtain ⟨n1, HN1⟩ : ∃ n, Hid (l1.length = n) := ⟨_, hid rfl⟩
  obtain ⟨n3, HN3⟩ : ∃ n, Hid (l3.length = n) := ⟨_, hid rfl⟩
  rw [HN1.out, HN3.out] at HCc ⊢
  have HKL : Hid (r.cells.length = 19) := hid (Ky.cells_length HRi.out)
  have HKs : Hid ((Tryz.prog.info? 85).map (·.size) = some r.cells.length) := hid (by rw [HKL.out]; exact Tryz.size85)
  clear h1 h3 ho1 ho3 hc1 hc3 Ha1 Ha3 Hc1 Hc3 hl HV1 HV3 HF2 HKe HN1 HN3 hr
  go_enter Tryz.func39, Tryz.ntmps39
  go_upto_region 1 with ((with_reducible refine wpList_box_row (by with_unfolding_all rfl) 85 _ (by with_unfolding_all rfl) r.cells (by with_unfolding_all rfl) ?_); intro w1 B1 s1 g1; have HB1 := hid B1; have HG1 := hid g1; clear B1 g1 s1)
  go_wp2_with (first
    | (with_reducible refine wpList_load_part (by with_unfolding_all rfl) 85 _ (by with_unfolding_all rfl) w.heap.size 0 r.cells _ (by with_unfolding_all rfl) HB1.out.whole Tryz.underlying85 (by with_unfolding_all rfl) HKs.out ?_)
    | ((with_reducible refine wpList_slice1 (by with_unfolding_all rfl) _ (by with_unfolding_all rfl) r HRi.out (by with_unfolding_all rfl) ?_); intro w2 B2 s2 g2; have HB2 := hid B2; have HG2 := hid (gtrans HG1.out g2); have HS2 := hid HG1.out.size; obtain ⟨W3, hW3⟩ : ∃ x, w2.alloc (.cells #[.slice a1 n1 c1, .slice (some ⟨w1.heap.size, 0, none⟩) 1 1, .slice a3 n3 c3] 57) = x := ⟨_, rfl⟩; have HB3 : Hid (Blk W3 w2.heap.size [.slice a1 n1 c1, .slice (some ⟨w1.heap.size, 0, none⟩) 1 1, .slice a3 n3 c3] 57) := hid (by rw [← hW3]; exact Blk.new w2 _ 57); have HG3 : Hid (w2.grownBy W3 none) := hid (by rw [← hW3]; exact galloc _ _ _); clear B2 g2 s2)
    | (go_at_call 79; (with_reducible refine (HCc.out _ _ _ (HB3.out.cell 0) (HB3.out.cell 1) (HB3.out.cell 2) (HB2.out.keep HG3.out) HS2.out (gtrans HG2.out HG3.out)).mono ?_); rintro e w4 ⟨v4, rfl, ho4, hg4⟩; have HO4 := hid ho4; have HG4 := hid (gtrans (gtrans HG2.out HG3.out) hg4); clear ho4 hg4))
  go_ret
  exact ⟨_, rfl, HO4.out, HG4.out⟩
end Go.Proofs.YtlgjmhemgfjgnaaGreat
