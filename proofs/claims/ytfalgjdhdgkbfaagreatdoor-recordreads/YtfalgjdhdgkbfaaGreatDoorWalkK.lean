/- The walks of the Reader's rows; From, Left, End. -/
import Derived.Test.YtfalgjdhdgkbfaaGreatDoorWalkJ
namespace Go.Proofs.YtfalgjdhdgkbfaaGreatDoor
open Go Go.RowKit
open Go.RowKit (wrap32 wrap64)

set_option maxRecDepth 100000 in
set_option maxHeartbeats 1000000 in
theorem from_any (w : World) (F : Nat → Prop) (v : Value) (l : List UInt8) (hv : Rd w F v l) (hl : l.length ≤ 17592186044416) :
    Calls Tryz.prog 12 #[v] w fun r w' => ∃ b, r = .returned (.pointer (some ⟨b, 0, none⟩)) ∧ w.heap.size ≤ b ∧ Rr w' b (fun g => w.heap.size ≤ g ∧ g ≠ b) l 0 ∧ w.grownBy w' none := by
  have HC := hid (clone_any l F v w hl hv)
  clear hv
  go_enter Tryz.func12, Tryz.ntmps12
  go_wp2_with (go_at_call 50; refine (HC.out).mono ?_; rintro e w1 ⟨v1, rfl, hO1, hg1⟩; have HO1 := hid hO1; have HG1 := hid hg1; obtain ⟨a1, b1, o1, c1, rfl, -⟩ := hO1.rd; clear hO1 hg1)
  go_ret
  refine ⟨_, rfl, HG1.out.size, ⟨_, heap_new _ _ _, ?_, (fun h => h.2 rfl), by omega⟩, gtrans HG1.out (galloc _ _ _)⟩
  exact (HO1.out.rd.mono (G := fun g => w.heap.size ≤ g ∧ g ≠ w1.heap.size) (fun k hk h => ⟨h, by omega⟩)).keep (galloc _ _ _)

set_option maxHeartbeats 400000 in
theorem left_any (w : World) (b : Nat) (F : Nat → Prop) (l : List UInt8) (bad : Nat) (h : Rr w b F l bad) :
    Calls Tryz.prog 17 #[.pointer (some ⟨b, 0, none⟩)] w fun r w' => r = .returned (.int .i64 (l.length : Int)) ∧ w' = w := by
  obtain ⟨v, hh, hv, hF, hl⟩ := h
  obtain ⟨c0, c1, fz⟩ := cells2 hh
  obtain ⟨a, b', off, c, rfl, -⟩ := hv
  go_enter Tryz.func17, Tryz.ntmps17
  go_wp2_with fail
  go_ret
  exact ⟨rfl, rfl⟩
def endE (l : List UInt8) (bad : Nat) : Nat := if bad = 0 ∧ 0 < l.length then 33 else bad
set_option maxRecDepth 100000 in
set_option maxHeartbeats 400000 in
theorem end_any (w : World) (b : Nat) (F : Nat → Prop) (l : List UInt8) (bad : Nat) (h : Rr w b F l bad) :
    Calls Tryz.prog 20 #[.pointer (some ⟨b, 0, none⟩)] w fun r w' => r = .returned (.int .i64 (endE l bad : Int)) ∧ w' = w := by
  obtain ⟨v, hh, hv, hF, hl⟩ := h
  obtain ⟨c0, c1, fz⟩ := cells2 hh
  obtain ⟨a, b', off, c, rfl, -⟩ := hv
  by_cases hb : bad = 0
  · subst hb
    by_cases h0 : 0 < l.length
    · rw [show endE l 0 = 33 from if_pos ⟨rfl, h0⟩]
      have hi : decide ((0 : Int) < (l.length : Int)) = true := decide_eq_true (by omega)
      generalize l.length = n at *
      clear hh
      go_enter Tryz.func20, Tryz.ntmps20
      go_wp2_with fail
      go_ret
      exact ⟨rfl, rfl⟩
    · rw [show endE l 0 = 0 from if_neg (fun h => h0 h.2)]
      have hi : decide ((0 : Int) < (l.length : Int)) = false := decide_eq_false (by omega)
      generalize l.length = n at *
      clear hh
      go_enter Tryz.func20, Tryz.ntmps20
      go_wp2_with fail
      go_ret
      exact ⟨rfl, rfl⟩
  · rw [show endE l bad = bad from if_neg (fun h => hb h.1)]
    have hd : ((bad : Int) == 0) = false := by simpa using hb
    have hd2 : (bad == 0) = false := by simpa using hb
    clear hb
    go_enter Tryz.func20, Tryz.ntmps20
    go_wp2_with fail
    go_ret
    exact ⟨rfl, rfl⟩

/-- A row's field: how many bytes, the refusal ahead of its taking, its bytes. -/
def rowN (l : List UInt8) (bad : Nat) : Nat := 4 + numL (rt l bad 4)
def rowB (l : List UInt8) (bad : Nat) : Nat := if 1048576 < numL (rt l bad 4) then ref (rb l bad 4) 31 else rb l bad 4
def rowT (l : List UInt8) (bad : Nat) : List UInt8 := (rt l (rowB l bad) (rowN l bad)).drop 4
def rowL (l : List UInt8) (bad : Nat) : List UInt8 := rl l (rowB l bad) (rowN l bad)
def rowE (l : List UInt8) (bad : Nat) : Nat := rb l (rowB l bad) (rowN l bad)

set_option maxRecDepth 100000 in
set_option maxHeartbeats 2000000 in
theorem row_any (w : World) (b : Nat) (F : Nat → Prop) (l : List UInt8) (bad : Nat) (h : Rr w b F l bad) :
    Calls Tryz.prog 110 #[.pointer (some ⟨b, 0, none⟩)] w fun r w' => ∃ v, r = .returned v ∧ Rd w' F v (rowT l bad) ∧ Rr w' b F (rowL l bad) (rowE l bad) ∧ w.grownBy w' (some b) := by
  have HFr : Hid (Calls Tryz.prog 116 #[.pointer (some ⟨b, 0, none⟩), .int .i64 4] w fun r w' => ∃ v, r = .returned v ∧ Rd w' F v (rt l bad 4) ∧ Rr w' b F l (rb l bad 4) ∧ w.grownBy w' (some b)) := front_any w b F l bad 4 h (by decide) (by decide)
  have hr4 := (rt_length l bad 4).1
  have HN : Hid (∀ u v, Rd u F v (rt l bad 4) → Calls Tryz.prog 108 #[v] u fun e w' => e = .returned (.int .u64 (numL (rt l bad 4))) ∧ w' = u) := fun u v hv => number_any _ F v u (by omega) hv
  have hlt : numL (rt l bad 4) < 4294967296 := by
    have := numL_lt _ (rt l bad 4) rfl
    have h2 : (256 : Nat) ^ (rt l bad 4).length ≤ 256 ^ 4 := Nat.pow_le_pow_right (by decide) hr4
    have h3 : (256 : Nat) ^ 4 = 4294967296 := by decide
    omega
  have HFz : Hid (∀ u, Rr u b F l (rb l bad 4) → Calls Tryz.prog 107 #[.pointer (some ⟨b, 0, none⟩), .int .i64 31] u fun r w' => r = .returned (.tuple #[]) ∧ Rr w' b F l (ref (rb l bad 4) 31) ∧ u.grownBy w' (some b)) := fun u hu => rrefuse_any u b F l _ 31 hu
  have HT : Hid (∀ u, Rr u b F l (rowB l bad) → Calls Tryz.prog 109 #[.pointer (some ⟨b, 0, none⟩), .int .i64 ((rowN l bad : Nat) : Int)] u fun r w' => ∃ v, r = .returned v ∧ Rd w' F v (rt l (rowB l bad) (rowN l bad)) ∧ Rr w' b F (rowL l bad) (rowE l bad) ∧ u.grownBy w' (some b)) := fun u hu => take_any u b F l _ (rowN l bad) hu (by unfold rowN; omega) (by unfold rowN; omega)
  have HLEN : Hid ((rt l (rowB l bad) (rowN l bad)) = [] ∨ (rt l (rowB l bad) (rowN l bad)).length = rowN l bad) := hid (by
    by_cases hz : rb l (rowB l bad) (rowN l bad) = 0
    · right
      have := (rb_zero hz).2
      unfold rt
      rw [if_pos hz, List.length_take]
      omega
    · left
      unfold rt
      rw [if_neg hz])
  have HRT : Hid (rowT l bad = (rt l (rowB l bad) (rowN l bad)).drop 4) := rfl
  have hNN : rowN l bad = 4 + numL (rt l bad 4) := rfl
  have HB : Hid (rowB l bad = if 1048576 < numL (rt l bad 4) then ref (rb l bad 4) 31 else rb l bad 4) := rfl
  generalize rowB l bad = RB at HT HLEN HRT HB
  generalize rowN l bad = RN at *
  generalize rowT l bad = RT at HRT ⊢
  generalize rowL l bad = RL at HT ⊢
  generalize rowE l bad = RE at HT ⊢
  generalize numL (rt l bad 4) = N at HN hlt HB hNN
  generalize rt l RB RN = fl at HT HLEN HRT
  have HTN : Hid (∀ u, Rr u b F l RB → Calls Tryz.prog 109 #[.pointer (some ⟨b, 0, none⟩), .int .i64 (4 + (N : Int))] u fun r w' => ∃ v, r = .returned v ∧ Rd w' F v fl ∧ Rr w' b F RL RE ∧ u.grownBy w' (some b)) := fun u hu => by
    have := HT.out u hu
    rw [hNN, show ((4 + N : Nat) : Int) = 4 + (N : Int) by omega] at this
    exact this
  clear h HT hr4
  -- behind the taking
  have HEND : Hid (∀ (u : World) (v : Value), Rd u F v fl → (fl = [] → ∃ a c, v = .slice a 0 c) ∧ (fl ≠ [] → ∃ (b' off c : Nat), v = .slice (some ⟨b', off, none⟩) (4 + N) c ∧ 4 + N ≤ c ∧ ∀ p n m, n = N → m = N → (0 < N → p = some (⟨b', off + 4, none⟩ : Addr)) → p ≠ none → Rd u F (.slice p n m) RT)) := hid (fun u v hv => by
    refine ⟨fun e => ?_, fun e => ?_⟩
    · rw [e] at hv
      obtain ⟨a, b', off, c, e', -⟩ := hv
      exact ⟨a, c, e'⟩
    · have hfl : fl.length = 4 + N := by
        rcases HLEN.out with h | h
        · exact absurd h e
        · omega
      obtain ⟨a, b', off, c, rfl, hc, hn, ha, hcell⟩ := hv
      obtain ⟨rfl, hb', hFb⟩ := ha (by omega)
      refine ⟨b', off, c, by rw [hfl], by omega, fun p n m en em hp hp2 => ?_⟩
      subst en
      subst em
      have := Rd.rest ha hcell (c := fl.length) (Nat.le_refl _) 4 (by omega) p (fun h => hp (by omega)) (fun h => absurd h hp2)
      rw [show fl.length - 4 = m by omega, ← HRT.out] at this
      exact this)
  have HR0 : Hid (fl = [] → RT = []) := hid (fun e => by rw [HRT.out, e]; rfl)
  by_cases hbig : 1048576 < N
  · have hd : decide ((1048580 : Int) < 4 + (N : Int)) = true := decide_eq_true (by omega)
    have e2 := HB.out
    rw [if_pos hbig] at e2
    rw [← e2] at HFz
    by_cases hfl : fl = []
    · have HFL := hid hfl
      clear hfl e2
      go_enter Tryz.func110, Tryz.ntmps110
      go_wp2_with (first
        | (go_at_call 116; refine (HFr.out).mono ?_; rintro e w1 ⟨v1, rfl, hv1, hR1, hg1⟩; have HV1 := hid hv1; have HR1 := hid hR1; have HG1 := hid hg1; clear hv1 hR1 hg1)
        | (go_at_call 108; refine (HN.out _ _ HV1.out).mono ?_; rintro e w' ⟨rfl, hw⟩; have hw' := hw.symm; clear hw; subst hw')
        | (go_at_call 107; refine (HFz.out _ HR1.out).mono ?_; rintro e w2 ⟨rfl, hR2, hg2⟩; have HR2 := hid hR2; have HG2 := hid (gtrans HG1.out hg2); clear hR2 hg2)
        | (go_at_call 109; refine (HTN.out _ HR2.out).mono ?_; rintro e w3 ⟨v3, rfl, hv3, hR3, hg3⟩; have HR3 := hid hR3; have HG3 := hid (gtrans HG2.out hg3); obtain ⟨a3, c3, rfl⟩ := (HEND.out _ _ hv3).1 HFL.out; clear hv3 hR3 hg3))
      go_ret
      exact ⟨_, rfl, by rw [HR0.out HFL.out]; exact Rd.nil _ _, HR3.out, HG3.out⟩
    · have HFL := hid hfl
      clear hfl e2
      have k1 : ¬ (4 + (N : Int) == 0) = true := by simp; omega
      have k2 : ((4 + N : Nat) : Int) = 4 + (N : Int) := by omega
      have k3 : ¬ N = 0 := by omega
      go_enter Tryz.func110, Tryz.ntmps110
      go_wp2_with (first
        | (go_at_call 116; refine (HFr.out).mono ?_; rintro e w1 ⟨v1, rfl, hv1, hR1, hg1⟩; have HV1 := hid hv1; have HR1 := hid hR1; have HG1 := hid hg1; clear hv1 hR1 hg1)
        | (go_at_call 108; refine (HN.out _ _ HV1.out).mono ?_; rintro e w' ⟨rfl, hw⟩; have hw' := hw.symm; clear hw; subst hw')
        | (go_at_call 107; refine (HFz.out _ HR1.out).mono ?_; rintro e w2 ⟨rfl, hR2, hg2⟩; have HR2 := hid hR2; have HG2 := hid (gtrans HG1.out hg2); clear hR2 hg2)
        | (go_at_call 109; refine (HTN.out _ HR2.out).mono ?_; rintro e w3 ⟨v3, rfl, hv3, hR3, hg3⟩; have HR3 := hid hR3; have HG3 := hid (gtrans HG2.out hg3); obtain ⟨b3, o3, c3, rfl, hc3, hq3⟩ := (HEND.out _ _ hv3).2 HFL.out; have HQ3 := hid hq3; clear hv3 hR3 hg3 hq3))
      go_ret
      exact ⟨_, rfl, HQ3.out _ _ _ (by omega) (by omega) (fun _ => rfl) (by simp), HR3.out, HG3.out⟩
  · have hd : decide ((1048580 : Int) < 4 + (N : Int)) = false := decide_eq_false (by omega)
    have e2 := HB.out
    rw [if_neg hbig] at e2
    rw [← e2] at HFr HFz
    by_cases hfl : fl = []
    · have HFL := hid hfl
      clear hfl e2
      go_enter Tryz.func110, Tryz.ntmps110
      go_wp2_with (first
        | (go_at_call 116; refine (HFr.out).mono ?_; rintro e w1 ⟨v1, rfl, hv1, hR1, hg1⟩; have HV1 := hid hv1; have HR1 := hid hR1; have HG1 := hid hg1; clear hv1 hR1 hg1)
        | (go_at_call 108; refine (HN.out _ _ HV1.out).mono ?_; rintro e w' ⟨rfl, hw⟩; have hw' := hw.symm; clear hw; subst hw')
        | (go_at_call 109; refine (HTN.out _ HR1.out).mono ?_; rintro e w3 ⟨v3, rfl, hv3, hR3, hg3⟩; have HR3 := hid hR3; have HG3 := hid (gtrans HG1.out hg3); obtain ⟨a3, c3, rfl⟩ := (HEND.out _ _ hv3).1 HFL.out; clear hv3 hR3 hg3))
      go_ret
      exact ⟨_, rfl, by rw [HR0.out HFL.out]; exact Rd.nil _ _, HR3.out, HG3.out⟩
    · have HFL := hid hfl
      clear hfl e2
      go_enter Tryz.func110, Tryz.ntmps110
      go_wp2_with (first
        | (go_at_call 116; refine (HFr.out).mono ?_; rintro e w1 ⟨v1, rfl, hv1, hR1, hg1⟩; have HV1 := hid hv1; have HR1 := hid hR1; have HG1 := hid hg1; clear hv1 hR1 hg1)
        | (go_at_call 108; refine (HN.out _ _ HV1.out).mono ?_; rintro e w' ⟨rfl, hw⟩; have hw' := hw.symm; clear hw; subst hw')
        | (go_at_call 109; refine (HTN.out _ HR1.out).mono ?_; rintro e w3 ⟨v3, rfl, hv3, hR3, hg3⟩; have HR3 := hid hR3; have HG3 := hid (gtrans HG1.out hg3); obtain ⟨b3, o3, c3, rfl, hc3, hq3⟩ := (HEND.out _ _ hv3).2 HFL.out; have HQ3 := hid hq3; clear hv3 hR3 hg3 hq3))
      all_goals
        go_ret
        first
          | exact ⟨_, rfl, HQ3.out (some ⟨b3, o3 + 4, none⟩) _ _ (by omega) (by omega) (fun _ => rfl) (by simp), HR3.out, HG3.out⟩
          | exact ⟨_, rfl, HQ3.out (some ⟨b3, o3, none⟩) _ _ (by omega) (by omega) (fun h => by omega) (by simp), HR3.out, HG3.out⟩
end Go.Proofs.YtfalgjdhdgkbfaaGreatDoor
