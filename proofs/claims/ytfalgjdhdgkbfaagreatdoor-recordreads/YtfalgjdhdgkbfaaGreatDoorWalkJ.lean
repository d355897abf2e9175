/- The walks of the Reader's fields. -/
import Derived.Test.YtfalgjdhdgkbfaaGreatDoorWalkI
import Derived.Test.YtfalgjdhdgkbfaaGreatDoorWalkG
namespace Go.Proofs.YtfalgjdhdgkbfaaGreatDoor
open Go Go.RowKit
open Go.RowKit (wrap32 wrap64)

theorem gsomeT {a b c : World} {k : Nat} (h : a.grownBy b (some k)) (h2 : b.grownBy c none) : a.grownBy c (some k) := gtrans h (gsome h2 _)

set_option maxRecDepth 100000 in
set_option maxHeartbeats 1000000 in
theorem rnum_ok (w : World) (b : Nat) (F : Nat → Prop) (l : List UInt8) (bad n : Nat) (h : Rr w b F l bad) (h1 : 1 ≤ n) (h8 : n ≤ 8) :
    Calls Tryz.prog 45 #[.pointer (some ⟨b, 0, none⟩), .int .i64 n] w fun r w' => r = .returned (.int .u64 (numL (rt l bad n))) ∧ Rr w' b F (rl l bad n) (rb l bad n) ∧ w.grownBy w' (some b) := by
  have HI : Hid (∀ u, Calls Tryz.prog 66 #[.int .i64 n] u fun e w' => e = .returned (.bool true) ∧ w' = u) := fun u => by
    have := isWidth_any n u
    rw [isW_nat n h1 h8] at this
    exact this
  have HT := hid (take_any w b F l bad n h h1 (by omega))
  have HN : Hid (∀ u v, Rd u F v (rt l bad n) → Calls Tryz.prog 108 #[v] u fun e w' => e = .returned (.int .u64 (numL (rt l bad n))) ∧ w' = u) := fun u v hv => number_any _ F v u (by have := (rt_length l bad n).1; omega) hv
  clear h
  generalize numL (rt l bad n) = N at HN ⊢
  go_enter Tryz.func45, Tryz.ntmps45
  go_wp2_with (first
    | (go_at_call 66; refine (HI.out _).mono ?_; rintro e w' ⟨rfl, hw⟩; have hw' := hw.symm; clear hw; subst hw')
    | (go_at_call 109; refine (HT.out).mono ?_; rintro e w1 ⟨v1, rfl, hv1, hR1, hg1⟩; have HV1 := hid hv1; have HR1 := hid hR1; have HG1 := hid hg1; clear hv1 hR1 hg1)
    | (go_at_call 108; refine (HN.out _ _ HV1.out).mono ?_; rintro e w' ⟨rfl, hw⟩; have hw' := hw.symm; clear hw; subst hw'))
  go_ret
  exact ⟨rfl, HR1.out, HG1.out⟩
set_option maxRecDepth 100000 in
set_option maxHeartbeats 1000000 in
theorem rnum_no (w : World) (b : Nat) (F : Nat → Prop) (l : List UInt8) (bad : Nat) (x : Int) (h : Rr w b F l bad) (hx : ¬ (1 ≤ x ∧ x ≤ 8)) :
    Calls Tryz.prog 45 #[.pointer (some ⟨b, 0, none⟩), .int .i64 x] w fun r w' => r = .returned (.int .u64 0) ∧ Rr w' b F l (ref bad 34) ∧ w.grownBy w' (some b) := by
  have HI : Hid (∀ u, Calls Tryz.prog 66 #[.int .i64 x] u fun e w' => e = .returned (.bool false) ∧ w' = u) := fun u => by
    have := isWidth_any x u
    rw [show isW x = false from decide_eq_false (by omega)] at this
    exact this
  have HF : Hid (Calls Tryz.prog 107 #[.pointer (some ⟨b, 0, none⟩), .int .i64 34] w fun r w' => r = .returned (.tuple #[]) ∧ Rr w' b F l (ref bad 34) ∧ w.grownBy w' (some b)) := rrefuse_any w b F l bad 34 h
  have HT : Hid (∀ u, Rr u b F l (ref bad 34) → Calls Tryz.prog 109 #[.pointer (some ⟨b, 0, none⟩), .int .i64 x] u fun r w' => r = .returned (.slice none 0 0) ∧ Rr w' b F l (ref bad 34) ∧ u.grownBy w' (some b)) := fun u hu => take_bad u b F l _ x hu (by unfold ref; split <;> omega)
  have HN : Hid (∀ u, Calls Tryz.prog 108 #[.slice none 0 0] u fun e w' => e = .returned (.int .u64 0) ∧ w' = u) := fun u => number_any [] F _ u (by simp) (Rd.nil _ _)
  clear h
  generalize ref bad 34 = R at HF HT ⊢
  go_enter Tryz.func45, Tryz.ntmps45
  go_wp2_with (first
    | (go_at_call 66; refine (HI.out _).mono ?_; rintro e w' ⟨rfl, hw⟩; have hw' := hw.symm; clear hw; subst hw')
    | (go_at_call 107; refine (HF.out).mono ?_; rintro e w1 ⟨rfl, hR1, hg1⟩; have HR1 := hid hR1; have HG1 := hid hg1; clear hR1 hg1)
    | (go_at_call 109; refine (HT.out _ HR1.out).mono ?_; rintro e w2 ⟨rfl, hR2, hg2⟩; have HR2 := hid hR2; have HG2 := hid (gtrans HG1.out hg2); clear hR2 hg2)
    | (go_at_call 108; refine (HN.out _).mono ?_; rintro e w' ⟨rfl, hw⟩; have hw' := hw.symm; clear hw; subst hw'))
  go_ret
  exact ⟨rfl, HR2.out, HG2.out⟩

/-- The number below 0 or not that eight bytes tell. -/
def u64i (n : Nat) : Int := if n < 9223372036854775808 then n else (n : Int) - 18446744073709551616
set_option maxRecDepth 100000 in
set_option maxHeartbeats 1000000 in
theorem rint_any (w : World) (b : Nat) (F : Nat → Prop) (l : List UInt8) (bad : Nat) (h : Rr w b F l bad) :
    Calls Tryz.prog 53 #[.pointer (some ⟨b, 0, none⟩)] w fun r w' => r = .returned (.int .i64 (u64i (numL (rt l bad 8)))) ∧ Rr w' b F (rl l bad 8) (rb l bad 8) ∧ w.grownBy w' (some b) := by
  have HT : Hid (Calls Tryz.prog 109 #[.pointer (some ⟨b, 0, none⟩), .int .i64 8] w fun r w' => ∃ v, r = .returned v ∧ Rd w' F v (rt l bad 8) ∧ Rr w' b F (rl l bad 8) (rb l bad 8) ∧ w.grownBy w' (some b)) := take_any w b F l bad 8 h (by decide) (by decide)
  have hrl := (rt_length l bad 8).1
  have HN : Hid (∀ u v, Rd u F v (rt l bad 8) → Calls Tryz.prog 108 #[v] u fun e w' => e = .returned (.int .u64 (numL (rt l bad 8))) ∧ w' = u) := fun u v hv => number_any _ F v u hrl hv
  have hlt : numL (rt l bad 8) < 18446744073709551616 := by
    have := numL_lt _ (rt l bad 8) rfl
    have h2 : (256 : Nat) ^ (rt l bad 8).length ≤ 256 ^ 8 := Nat.pow_le_pow_right (by decide) hrl
    have h3 : (256 : Nat) ^ 8 = 18446744073709551616 := by decide
    omega
  clear h hrl
  generalize numL (rt l bad 8) = N at HN hlt ⊢
  have e1 : IntKind.i64.wrap (N : Int) = u64i N := by rw [IntKind.wrap_i64]; unfold u64i; split <;> omega
  generalize u64i N = X at e1 ⊢
  go_enter Tryz.func53, Tryz.ntmps53
  go_wp2_with (first
    | (go_at_call 109; refine (HT.out).mono ?_; rintro e w1 ⟨v1, rfl, hv1, hR1, hg1⟩; have HV1 := hid hv1; have HR1 := hid hR1; have HG1 := hid hg1; clear hv1 hR1 hg1)
    | (go_at_call 108; refine (HN.out _ _ HV1.out).mono ?_; rintro e w' ⟨rfl, hw⟩; have hw' := hw.symm; clear hw; subst hw'))
  go_ret
  exact ⟨rfl, HR1.out, HG1.out⟩

theorem rb_rb (l : List UInt8) (bad n : Nat) : rb l (rb l bad n) n = rb l bad n := by
  unfold rb ref
  split <;> (try split) <;> simp_all
theorem rt_rb (l : List UInt8) (bad n : Nat) : rt l (rb l bad n) n = rt l bad n := by unfold rt; rw [rb_rb]
theorem rl_rb (l : List UInt8) (bad n : Nat) : rl l (rb l bad n) n = rl l bad n := by unfold rl; rw [rb_rb]
/-- The refusal behind a Flag's look. -/
def fb (l : List UInt8) (bad : Nat) : Nat := if 1 < numL (rt l bad 1) then ref (rb l bad 1) 34 else rb l bad 1
set_option maxRecDepth 100000 in
set_option maxHeartbeats 1000000 in
theorem rflag_any (w : World) (b : Nat) (F : Nat → Prop) (l : List UInt8) (bad : Nat) (h : Rr w b F l bad) :
    Calls Tryz.prog 55 #[.pointer (some ⟨b, 0, none⟩)] w fun r w' => r = .returned (.bool (numL (rt l (fb l bad) 1) == 1)) ∧ Rr w' b F (rl l (fb l bad) 1) (rb l (fb l bad) 1) ∧ w.grownBy w' (some b) := by
  have HFr : Hid (Calls Tryz.prog 116 #[.pointer (some ⟨b, 0, none⟩), .int .i64 1] w fun r w' => ∃ v, r = .returned v ∧ Rd w' F v (rt l bad 1) ∧ Rr w' b F l (rb l bad 1) ∧ w.grownBy w' (some b)) := front_any w b F l bad 1 h (by decide) (by decide)
  have HN : Hid (∀ u v bd, Rd u F v (rt l bd 1) → Calls Tryz.prog 108 #[v] u fun e w' => e = .returned (.int .u64 (numL (rt l bd 1))) ∧ w' = u) := fun u v bd hv => number_any _ F v u (by have := (rt_length l bd 1).1; omega) hv
  have HT : Hid (∀ u bd, Rr u b F l bd → Calls Tryz.prog 109 #[.pointer (some ⟨b, 0, none⟩), .int .i64 1] u fun r w' => ∃ v, r = .returned v ∧ Rd w' F v (rt l bd 1) ∧ Rr w' b F (rl l bd 1) (rb l bd 1) ∧ u.grownBy w' (some b)) := fun u bd hu => take_any u b F l bd 1 hu (by decide) (by decide)
  have HFz : Hid (∀ u bd, Rr u b F l bd → Calls Tryz.prog 107 #[.pointer (some ⟨b, 0, none⟩), .int .i64 34] u fun r w' => r = .returned (.tuple #[]) ∧ Rr w' b F l (ref bd 34) ∧ u.grownBy w' (some b)) := fun u bd hu => rrefuse_any u b F l bd 34 hu
  clear h
  by_cases hx : 1 < numL (rt l bad 1)
  · have e1 : fb l bad = ref (rb l bad 1) 34 := if_pos hx
    have hd : decide ((1 : Int) < ((numL (rt l bad 1) : Nat) : Int)) = true := decide_eq_true (by omega)
    rw [e1]
    have HNa := hid (fun u v hv => HN.out u v bad hv)
    have HNb := hid (fun u v hv => HN.out u v (ref (rb l bad 1) 34) hv)
    have HD : Hid ((numL (rt l (ref (rb l bad 1) 34) 1) == 1) = (((numL (rt l (ref (rb l bad 1) 34) 1) : Nat) : Int) == 1)) := hid (by rw [Bool.eq_iff_iff, beq_iff_eq, beq_iff_eq]; omega)
    clear hx e1 HN
    generalize numL (rt l (ref (rb l bad 1) 34) 1) = N2 at HNb HD ⊢
    generalize numL (rt l bad 1) = N1 at HNa hd
    generalize (N2 == 1) = D at HD ⊢
    go_enter Tryz.func55, Tryz.ntmps55
    go_wp2_with (first
      | (go_at_call 116; refine (HFr.out).mono ?_; rintro e w1 ⟨v1, rfl, hv1, hR1, hg1⟩; have HV1 := hid hv1; have HR1 := hid hR1; have HG1 := hid hg1; clear hv1 hR1 hg1)
      | (go_at_call 108; with_reducible refine (HNa.out _ _ HV1.out).mono ?_; rintro e w' ⟨rfl, hw⟩; have hw' := hw.symm; clear hw; subst hw')
      | (go_at_call 107; refine (HFz.out _ _ HR1.out).mono ?_; rintro e w2 ⟨rfl, hR2, hg2⟩; have HR2 := hid hR2; have HG2 := hid (gtrans HG1.out hg2); clear hR2 hg2)
      | (go_at_call 109; refine (HT.out _ _ HR2.out).mono ?_; rintro e w3 ⟨v3, rfl, hv3, hR3, hg3⟩; have HV3 := hid hv3; have HR3 := hid hR3; have HG3 := hid (gtrans HG2.out hg3); clear hv3 hR3 hg3)
      | (go_at_call 108; with_reducible refine (HNb.out _ _ HV3.out).mono ?_; rintro e w' ⟨rfl, hw⟩; have hw' := hw.symm; clear hw; subst hw'))
    go_ret
    exact ⟨by rw [HD.out]; rfl, HR3.out, HG3.out⟩
  · have e1 : fb l bad = rb l bad 1 := if_neg hx
    have hd : decide ((1 : Int) < ((numL (rt l bad 1) : Nat) : Int)) = false := decide_eq_false (by omega)
    rw [e1, rt_rb, rl_rb, rb_rb]
    have HNa := hid (fun u v hv => HN.out u v bad hv)
    have HD : Hid ((numL (rt l bad 1) == 1) = (((numL (rt l bad 1) : Nat) : Int) == 1)) := hid (by rw [Bool.eq_iff_iff, beq_iff_eq, beq_iff_eq]; omega)
    have HTb : Hid (∀ u, Rr u b F l (rb l bad 1) → Calls Tryz.prog 109 #[.pointer (some ⟨b, 0, none⟩), .int .i64 1] u fun r w' => ∃ v, r = .returned v ∧ Rd w' F v (rt l bad 1) ∧ Rr w' b F (rl l bad 1) (rb l bad 1) ∧ u.grownBy w' (some b)) := fun u hu => by
      have := HT.out u _ hu
      rw [rt_rb, rl_rb, rb_rb] at this
      exact this
    clear hx e1 HN HT
    generalize numL (rt l bad 1) = N1 at HNa hd HD ⊢
    generalize (N1 == 1) = D at HD ⊢
    go_enter Tryz.func55, Tryz.ntmps55
    go_wp2_with (first
      | (go_at_call 116; refine (HFr.out).mono ?_; rintro e w1 ⟨v1, rfl, hv1, hR1, hg1⟩; have HV1 := hid hv1; have HR1 := hid hR1; have HG1 := hid hg1; clear hv1 hR1 hg1)
      | (go_at_call 108; with_reducible refine (HNa.out _ _ HV1.out).mono ?_; rintro e w' ⟨rfl, hw⟩; have hw' := hw.symm; clear hw; subst hw')
      | (go_at_call 109; refine (HTb.out _ HR1.out).mono ?_; rintro e w3 ⟨v3, rfl, hv3, hR3, hg3⟩; have HV3 := hid hv3; have HR3 := hid hR3; have HG3 := hid (gtrans HG1.out hg3); clear hv3 hR3 hg3)
      | (go_at_call 108; with_reducible refine (HNa.out _ _ HV3.out).mono ?_; rintro e w' ⟨rfl, hw⟩; have hw' := hw.symm; clear hw; subst hw'))
    go_ret
    exact ⟨by rw [HD.out]; rfl, HR3.out, HG3.out⟩
end Go.Proofs.YtfalgjdhdgkbfaaGreatDoor
