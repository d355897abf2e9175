/- Concat, with. -/
import Derived.Test.YtlgjmhemgfjgnaaVG
namespace Go.Proofs.Ytlgjmhemgfjgnaa
open Go Go.RowKit
open Go.RowKit (wrap32 wrap64)

/-- the rows one behind the other: how many, which. -/
def tot (ls : Nat → List Ky) : Nat → Nat
  | 0 => 0
  | j + 1 => tot ls j + (ls j).length
def cat (ls : Nat → List Ky) : Nat → List Ky
  | 0 => []
  | j + 1 => cat ls j ++ ls j
theorem cat_len (ls : Nat → List Ky) : ∀ j, (cat ls j).length = tot ls j
  | 0 => rfl
  | j + 1 => by unfold cat tot; rw [List.length_append, cat_len ls j]
theorem tot_mono (ls : Nat → List Ky) {i : Nat} : ∀ {j}, i ≤ j → tot ls i ≤ tot ls j
  | 0, h => by rw [Nat.le_zero.1 h]; exact Nat.le_refl _
  | j + 1, h => by
    rcases Nat.lt_or_ge i (j + 1) with h1 | h1
    · have := tot_mono ls (i := i) (j := j) (by omega)
      exact Nat.le_trans this (Nat.le_add_right _ _)
    · rw [show i = j + 1 by omega]; exact Nat.le_refl _
theorem idx62 (b n c i : Nat) (h : i < n) (u : World) : (Instr.indexAt 62 (.slice (some ⟨b, 0, none⟩) n c) (.int .i64 (i : Nat))).run Try.prog u = .ok (.pointer (some ⟨b, i, none⟩)) u := by
  have h0 : ¬ ((i : Int) < 0) := by omega
  have h1 : (i : Int) < (n : Int) := by omega
  have hs : (sizeOf (Try.prog.elem 62)).run Try.prog u = .ok 1 u := by kernel_rfl
  go_simp
set_option maxRecDepth 100000 in
set_option maxHeartbeats 1600000 in
theorem concat_any (w : World) (F : Nat → Prop) (B : Nat) (va : Nat → Option Addr) (vc : Nat → Nat) (ls : Nat → List Ky)
    (hb : ∀ k, k < 3 → w.cell? ⟨B, k, none⟩ = some (.slice (va k) (ls k).length (vc k))) (hv : ∀ k, k < 3 → RdK w F (.slice (va k) (ls k).length (vc k)) (ls k)) (hl : tot ls 3 ≤ 1099511627776) :
    Calls Try.prog 34 #[.slice (some ⟨B, 0, none⟩) 3 3] w fun e w' => ∃ v', e = .returned v' ∧ OutK w.heap.size w' v' (cat ls 3) ∧ w.grownBy w' none := by
  have hBl : B < w.heap.size := cell_lt (hb 0 (by decide))
  have HBc : Hid (∀ u, w.grownBy u none → ∀ k, k < 3 → u.cell? ⟨B, k, none⟩ = some (.slice (va k) (ls k).length (vc k))) := hid (fun u hu k hk => (cell_at hu hBl (by simp)).trans (hb k hk))
  have HV : Hid (∀ u row, w.grownBy u row → (∀ k, row = some k → w.heap.size ≤ k) → ∀ k, k < 3 → RdK u (fun x => F x ∧ x < w.heap.size) (.slice (va k) (ls k).length (vc k)) (ls k)) := hid (fun u row hu hr k hk => by
    have h1 : RdK w (fun x => F x ∧ x < w.heap.size) (.slice (va k) (ls k).length (vc k)) (ls k) := (hv k hk).mono (fun x hx hf => ⟨hf, hx⟩)
    exact h1.on hu (fun x hx hf => by have := hr x hx; omega))
  obtain ⟨T, HT⟩ : ∃ T, Hid (tot ls 3 = T) := ⟨_, hid rfl⟩
  have HTm : Hid (∀ j, j ≤ 3 → tot ls j ≤ T) := hid (fun j hj => by rw [← HT.out]; exact tot_mono ls hj)
  have HGr : Hid (∀ u, w.grownBy u none → Calls Try.prog 37 #[.slice none 0 0, .int .i64 T] u fun e w' => ∃ v', e = .returned v' ∧ OutK u.heap.size w' v' [] ∧ u.grownBy w' none) := hid (fun u _ => grow_any u T (by rw [← HT.out]; exact hl))
  have hT : (T : Int) ≤ 1099511627776 := by rw [← HT.out]; omega
  clear hb hv hBl hl
  go_enter Try.func34, Try.ntmps34
  go_wp2_with fail
  go_loopw [3, 11] (fun sv iv wr => ∃ i : Nat, iv = .int .i64 i ∧ i ≤ 3 ∧ sv = .int .i64 (tot ls i) ∧ Hid (w.grownBy wr none)) (fun _ iv _ => 3 - (intOf iv).toNat)
  case atStart => exact ⟨0, rfl, by decide, rfl, hid (grefl _ _)⟩
  case round =>
    obtain ⟨i, rfl, hi, rfl, HG⟩ := hrel
    by_cases hlt : i < 3
    · as_aux_lemma =>
      have hlt' : (i : Int) < 3 := by omega
      have y0 := HBc.out wr HG.out i hlt
      have HS : Hid (tot ls (i + 1) = tot ls i + (ls i).length) := hid rfl
      have hm := HTm.out (i + 1) (by omega)
      rw [HS.out] at hm
      obtain ⟨t, HTt⟩ : ∃ t, Hid (tot ls i = t) := ⟨_, hid rfl⟩
      obtain ⟨m, HM⟩ : ∃ m, Hid ((ls i).length = m) := ⟨_, hid rfl⟩
      rw [HTt.out, HM.out] at hm HS
      rw [HM.out] at y0
      rw [HTt.out]
      have h1 : ¬ ((t : Int) + (m : Int) < 0) := by omega
      have h2 : wrap64 ((t : Int) + (m : Int)) = (t : Int) + (m : Int) := by unfold wrap64; omega
      have h3 : IntKind.i64.wrap ((t : Int) + (m : Int)) = (t : Int) + (m : Int) := by rw [IntKind.wrap_i64]; omega
      have HIx := hid (fun u => idx62 B 3 3 i hlt u)
      clear hm hlt
      go_wp2_with fail
      go_roundw
      case rel => exact ⟨i + 1, by go_num, by omega, by rw [HS.out]; go_num, HG⟩
      case measure => simp [intOf]; omega
    · have hge : ¬ (i : Int) < 3 := by omega
      obtain rfl : i = 3 := by omega
      rw [HT.out]
      clear hi hlt hge
      go_wp2_with (go_at_call 37; (with_reducible refine (HGr.out _ HG.out).mono ?_); rintro e w2 ⟨v2, rfl, ho2, hg2⟩; have HG2 := hid (gtrans HG.out hg2); have HO2 := hid (ho2.below HG.out.size); clear ho2 hg2)
      go_loopw [6, 27] (fun sv iv wx => ∃ i : Nat, iv = .int .i64 i ∧ i ≤ 3 ∧ Hid (OutK w.heap.size wx sv (cat ls i)) ∧ Hid (w.grownBy wx none)) (fun _ iv _ => 3 - (intOf iv).toNat)
      case atStart => exact ⟨0, rfl, by decide, HO2, HG2⟩
      case round =>
        obtain ⟨i, rfl, hi, HO, HGx⟩ := hrel
        by_cases hlt : i < 3
        · as_aux_lemma =>
          have hlt' : (i : Int) < 3 := by omega
          have y0 := HBc.out _ HGx.out i hlt
          have HVi := hid (HV.out _ _ HGx.out (fun k hk => by cases hk) i hlt)
          have HS : Hid (cat ls (i + 1) = cat ls i ++ ls i) := hid rfl
          have HLe : Hid ((cat ls i).length + (ls i).length ≤ 1099511627776) := hid (by
            have := HTm.out (i + 1) (by omega)
            rw [cat_len]
            unfold tot at this
            omega)
          obtain ⟨C, HCe⟩ : ∃ C, Hid (cat ls i = C) := ⟨_, hid rfl⟩
          rw [HCe.out] at HO HS HLe
          obtain ⟨m, HM⟩ : ∃ m, Hid ((ls i).length = m) := ⟨_, hid rfl⟩
          rw [HM.out] at y0 HVi
          have HIx := hid (fun u => idx62 B 3 3 i hlt u)
          clear HCe hlt
          go_wp2_with (at_builtin; refine wpList_append_keys rfl _ _ rfl w.heap.size _ C (ls i) HO.out HVi.out HLe.out HGx.out.size ?_; intro v4 w4 hO4 hg4; have HO4 := hid hO4; have HG4 := hid (HGx.out.andThen hg4 (fun j hj => .inl (HO.out.block j hj))); clear hO4 hg4)
          go_roundw
          case rel => exact ⟨i + 1, by go_num, by omega, by rw [HS.out]; exact HO4, HG4⟩
          case measure => simp [intOf]; omega
        · have hge : ¬ (i : Int) < 3 := by omega
          obtain rfl : i = 3 := by omega
          go_wp2_with fail
          go_ret
          exact ⟨_, rfl, HO.out, HGx.out⟩
end Go.Proofs.Ytlgjmhemgfjgnaa
