/- What is lent and may be written: Lend, Into, Other. -/
import Derived.Test.YtmiojplbcjhggaaDoorSameA
namespace Go.Proofs.YtmiojplbcjhggaaDoor
open Go Go.RowKit
open Go.RowKit (wrap32 wrap64)

theorem Out.at {B g n c : Nat} {w : World} {l : List UInt8} (h : Out B w (.slice (some ⟨g, 0, none⟩) n c) l) : Out g w (.slice (some ⟨g, 0, none⟩) n c) l := by
  refine ⟨h.1, ?_⟩
  rcases h.2 with ⟨e, _⟩ | ⟨g', cap, cur, e, hb, r⟩
  · cases e
  · have hg : g = g' := by
      injection e with e1
      injection e1 with e1
      injection e1
    exact .inr ⟨g', cap, cur, e, by omega, r⟩
/-- What is lent, the row itself. -/
def LentW (B : Nat) (w : World) (v : Value) (l : List UInt8) : Prop :=
  ∃ (b c : Nat), v = .slice (some ⟨b, 0, none⟩) l.length c ∧ B ≤ b ∧ Out b w (.slice (some ⟨b, 0, none⟩) (l.length + 70) c) (l ++ mkL 70)
theorem LentW.keep {B : Nat} {w w' : World} {v : Value} {l : List UInt8} (h : LentW B w v l) (hg : w.grownBy w' none) : LentW B w' v l := by
  obtain ⟨b, c, rfl, hB, hO⟩ := h
  exact ⟨b, c, rfl, hB, hO.keep hg⟩
theorem LentW.lent {B : Nat} {w : World} {v : Value} {l : List UInt8} (h : LentW B w v l) : Lent B w v l := by
  obtain ⟨b, c, rfl, hB, hO⟩ := h
  obtain ⟨g, c', e, hc, _, hgs, hcell⟩ := hO.form (by rw [lm_length]; omega)
  injection e with e1 e2 e3
  injection e1 with e1
  injection e1 with e1
  subst e1 e3
  rw [lm_length] at hc
  exact ⟨b, c, rfl, hB, hgs, hc, fun i hi => hcell i (by rw [lm_length]; exact hi)⟩

set_option maxRecDepth 100000 in
set_option maxHeartbeats 1600000 in
theorem lendW_any (w : World) (b : Value) (F : Nat → Prop) (l : List UInt8) (hb : Rd w F b l) (hl : l.length ≤ 140737488351232) :
    Calls Tryd.prog 10 #[b] w fun e w' => ∃ v, e = .returned v ∧ LentW w.heap.size w' v l ∧ w.grownBy w' none := by
  obtain ⟨inf, hi, hz0, hz1, hz2⟩ := info_parts Tryd.info5
  have HR := hid hb
  obtain ⟨ab, bb, offb, cbb, hbv, _⟩ := hb
  subst hbv
  obtain ⟨m, HM⟩ : ∃ m : Nat, Hid (l.length = m) := ⟨_, hid rfl⟩
  rw [HM.out] at hl HR ⊢
  go_enter Tryd.func10, Tryd.ntmps10
  go_wp2_with (at_make; refine wpList_make_own _ rfl _ _ 23 rfl w.heap.size 5 inf (.int .u8 0) 1 Tryd.underlying23 hi hz0 hz1 _ _ _ (m + 70) rfl rfl (by omega) (by rw [hz2]; omega) (by unfold maxLen; omega) (Nat.le_refl _) ?_)
  intro w1 hown1 hg1
  have HG1 := hid hg1
  have HO1 : Hid (Out w.heap.size w1 _ []) := hid hown1
  have HR1 := hid (HR.out.keep hg1)
  have hs1 := hg1.size
  clear hg1 HR hown1
  go_wp2_with (at_builtin; refine wpList_append_rdW rfl _ _ rfl w.heap.size F [] l HO1.out HR1.out (by simp; have := HM.out; omega) hs1 ?_; intro v2 w2 hO2 hg2 _)
  have HO : Hid (Out w.heap.size w2 v2 (l ++ mkL 0)) := hid (by simpa [mkL] using hO2)
  have HG : Hid (w.grownBy w2 none) := hid (HG1.out.andThen hg2 (fun j hj => .inl (HO1.out.block j hj)))
  clear hO2 hg2 HR1 HG1 HO1 hs1
  go_wp2_with fail
  go_loopw [3, 4] (fun tv iv wr => ∃ i : Nat, iv = .int .i64 i ∧ i ≤ 70 ∧ Hid (Out w.heap.size wr tv (l ++ mkL i)) ∧ Hid (w.grownBy wr none)) (fun _ iv _ => 70 - (intOf iv).toNat)
  case atStart => exact ⟨0, rfl, by omega, HO, HG⟩
  case round =>
    clear HO HG
    obtain ⟨i, rfl, hi70, HO, HG⟩ := hrel
    have HL20 := hid hl
    clear hl
    by_cases hlt : i < 70
    · have hlt' : (i : Int) < 70 := by omega
      have hat := fun w => markAt_any i w hlt
      obtain ⟨u, HU⟩ : ∃ u : UInt8, Hid (mkA i = u) := ⟨_, hid rfl⟩
      rw [HU.out] at hat
      have HAT := hid hat
      have hsz := HG.out.size
      clear hat
      go_wp2_with (first | (go_at_call 33; refine (HAT.out _).mono ?_; rintro e w' ⟨rfl, hw⟩; have hw' := hw.symm; clear hw; subst hw') | (at_builtin; refine wpList_append_byteW rfl _ _ rfl w.heap.size wr.heap.size _ u (HO.out.keep (galloc wr _ none)) rfl (litL wr _) (by rw [lm_length]; have := HM.out; have := HL20.out; omega) (by simp; omega) ?_; intro v3 w3 hO3 hg3))
      go_roundw
      case rel => exact ⟨i + 1, by go_num, by omega, hid (by rw [mkL_succ, ← List.append_assoc, HU.out]; exact hO3), hid ((gtrans HG.out (galloc wr _ none)).andThen hg3 (fun j hj => .inl (HO.out.block j hj)))⟩
      case measure => simp [intOf]; omega
    · have hge : (70 : Int) ≤ i := by omega
      have he : i = 70 := by omega
      subst he
      obtain ⟨g, cap, hv, hc, hB, hgs, hcell⟩ := HO.out.form (by rw [lm_length]; omega)
      rw [lm_length, HM.out] at hv hc
      have HOv := HO
      rw [hv] at HOv
      rw [hv]
      have hcm : (m : Int) ≤ (cap : Int) := by omega
      have HF := hid hcell
      have HC := hid hc
      clear hcell hc
      go_wp2_with fail
      go_ret
      exact ⟨.slice (some ⟨g, 0, none⟩) m cap, rfl, ⟨g, cap, by rw [HM.out], hB, by rw [HM.out]; exact HOv.out.at⟩, HG.out⟩

theorem set_step (l l' : List UInt8) (i : Nat) (hi : i < l.length) (hl : l'.length = l.length) (x : UInt8) (hx : l'.getD i 0 = x) : (l'.take i ++ l.drop i).set i x = l'.take (i + 1) ++ l.drop (i + 1) := by
  have hi' : i < l'.length := by omega
  rw [List.getD_eq_getElem?_getD, List.getElem?_eq_getElem hi'] at hx
  have hx' : l'[i] = x := hx
  rw [List.drop_eq_getElem_cons hi, List.take_succ_eq_append_getElem hi', List.append_assoc, hx']
  rw [List.set_append_right _ _ (by rw [List.length_take]; omega)]
  have e : i - (List.take i l').length = 0 := by rw [List.length_take]; omega
  rw [e]
  rfl
set_option maxRecDepth 100000 in
set_option maxHeartbeats 1600000 in
theorem into_any (w : World) (B b c : Nat) (u : Value) (F : Nat → Prop) (l l' : List UInt8) (hB : B ≤ b) (hv : Out b w (.slice (some ⟨b, 0, none⟩) (l.length + 70) c) (l ++ mkL 70)) (hu : Rd w F u l') (hF : ¬ F b) (hl' : l'.length = l.length) (hl : l.length ≤ 140737488351232) :
    Calls Tryd.prog 14 #[.slice (some ⟨b, 0, none⟩) l.length c, u] w fun e w' => e = .returned (.tuple #[]) ∧ LentW B w' (.slice (some ⟨b, 0, none⟩) l'.length c) l' ∧ w.grownBy w' (some b) := by
  have HV := hid hv
  have HF := hid hF
  have HB := hid hB
  have HL' := hid hl'
  obtain ⟨ua, ub, uo, uc, hue, _, _, ha, hcell⟩ := hu
  subst hue
  obtain ⟨m, HM⟩ : ∃ m, Hid (l.length = m) := ⟨_, hid rfl⟩
  have HM' : Hid (l'.length = m) := hid (by rw [hl', HM.out])
  have HA := hid ha
  have HC := hid hcell
  rw [HM'.out] at hl' ⊢
  rw [HM.out] at hl HV ⊢
  clear hv hF hB ha hcell hl'
  go_enter Tryd.func14, Tryd.ntmps14
  go_wp2_with fail
  go_loopw [4] (fun iv wr => ∃ i : Nat, iv = .int .i64 i ∧ i ≤ m ∧ Hid (Out b wr (.slice (some ⟨b, 0, none⟩) (m + 70) c) ((l'.take i ++ l.drop i) ++ mkL 70)) ∧ Hid (w.grownBy wr (some b))) (fun iv _ => m - (intOf iv).toNat)
  case atStart => exact ⟨0, rfl, Nat.zero_le _, hid (by simpa using HV.out), hid (grefl _ _)⟩
  case round =>
    obtain ⟨i, rfl, hi, HO, HG⟩ := hrel
    by_cases hlt : i < m
    · have i1 : (i : Int) < (m : Int) := by omega
      obtain ⟨rfl, hub, hFu⟩ := HA.out (by rw [HM'.out]; omega)
      have hne : b ≠ ub := fun e => HF.out (by rw [e]; exact hFu)
      obtain ⟨x, HX⟩ : ∃ x, Hid (l'.getD i 0 = x) := ⟨_, hid rfl⟩
      have q : wr.cell? ⟨ub, uo + i, none⟩ = some (.int .u8 x.toNat) := by
        rw [cell_at HG.out hub (by simp; exact hne), HC.out i (by rw [HM'.out]; exact hlt), ← HX.out, List.getD_eq_getElem?_getD, List.getElem?_eq_getElem (by rw [HM'.out]; exact hlt)]
        rfl
      have hub2 : ub < wr.heap.size := Nat.lt_of_lt_of_le hub HG.out.size
      have hfr := HO.out.free i
      obtain ⟨g, c', e, _, _, hgs, hcl⟩ := HO.out.form (by rw [List.length_append, mkL_length]; omega)
      injection e with e1 e2 e3
      injection e1 with e1
      injection e1 with e1
      subst e1
      obtain ⟨y, hy⟩ : ∃ y, wr.cell? ⟨b, i, none⟩ = some (.int .u8 y) := ⟨_, hcl i (by rw [List.length_append, mkL_length, List.length_append, List.length_take, List.length_drop, HM'.out, HM.out]; omega)⟩
      have HS := hid (HO.out.set i x)
      have HSt := hid (set_step l l' i (by rw [HM.out]; exact hlt) HL'.out x HX.out)
      clear hcl e2 e3 hne
      go_wp2_with fail
      go_roundw
      case rel => exact ⟨i + 1, by go_num, by omega, hid (by
        have h := HS.out
        rw [List.set_append_left _ _ (by rw [List.length_append, List.length_take, List.length_drop, HM'.out, HM.out]; omega), HSt.out] at h
        exact h), hid (gtrans HG.out (gset _ _ _))⟩
      case measure => simp [intOf]; omega
    · obtain rfl : i = m := by omega
      go_wp2_with fail
      go_end0
      refine ⟨rfl, ⟨b, c, by rw [HM'.out], HB.out, ?_⟩, HG.out⟩
      have h := HO.out
      rw [List.take_of_length_le (by rw [HM'.out]; exact Nat.le_refl _), List.drop_of_length_le (by rw [HM.out]; exact Nat.le_refl _), List.append_nil] at h
      rw [HM'.out]
      exact h
end Go.Proofs.YtmiojplbcjhggaaDoor
