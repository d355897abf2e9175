/- Append and Cut, plainly told. -/
import Derived.Test.YtlgjmdianmijeabDg
namespace Go.Proofs.Ytlgjmdianmijeab
open Go Go.RowKit Go.MuLone
open Go.RowKit (wrap32 wrap64)

section
variable {w w' : World} {B b m : Nat} {room : Int} {off : Bool} {wr ar kp : Int} {F : List Fl}
set_option maxRecDepth 100000 in
set_option maxHeartbeats 1600000 in
theorem append_no1 (h : Dk w B b m 0 room off wr ar kp F) (s : ByteArray) (ba : Option Addr) (bn bc : Nat) (he : refE off s ≠ 0) :
    Calls Try.prog 18 #[.pointer (some ⟨b, 0, none⟩), .string s, .slice ba bn bc] w fun e w' => e = .returned (.int .i64 (refE off s)) ∧ w.grownBy w' none := by
  have HD := hid h
  have HL := hid (lock_any h)
  obtain ⟨E, hE⟩ : ∃ x, refE off s = x := ⟨_, rfl⟩
  have HRf : Hid (∀ u, Dk u B b m 1 room off wr ar kp F → Calls Try.prog 35 #[.pointer (some ⟨b, 0, none⟩), .string s] u fun e w' => e = .returned (.int .i64 E) ∧ u.grownBy w' none) := fun u hu => by
    have := refusal_any hu s
    rw [hE] at this
    exact this
  rw [hE] at he ⊢
  have he' : (E == 0) = false := beq_eq_false_iff_ne.2 he
  clear h hE
  go_enter_defers Try.func18, Try.ntmps18
  go_wp2_with (first
    | (go_at_call 28; refine HL.out.mono ?_; rintro e w1 ⟨rfl, hd, hg⟩; have HD1 := hid hd; have HG1 := hid hg; clear hd hg)
    | (go_at_call 35; refine (HRf.out _ HD1.out).mono ?_; rintro e w2 ⟨rfl, hg⟩; have HD2 := hid (HD1.out.keep hg); have HG2 := hid (HG1.out.andThen hg (fun j hj => by cases hj)); clear hg))
  refine leaves_cons (f := 29) (args := #[.pointer (some ⟨b, 0, none⟩)]) (by simp) (by simp [go_sem]) ?_
  refine (unlock_any .returning HD2.out).mono ?_
  rintro e u' w3 ⟨rfl, rfl, hd3, hg3⟩
  exact ⟨_, results_tmp rfl _ _ _, rfl, back_same HD.out.blk (gtrans HG2.out hg3) hd3.blk⟩
set_option maxRecDepth 100000 in
set_option maxHeartbeats 1600000 in
theorem append_no2 (h : Dk w B b m 0 room off wr ar kp F) (s : ByteArray) (ba : Option Addr) (bn bc : Nat) (hU : usedF F ≤ 1099511627776) (hr : 0 ≤ room ∧ room ≤ 1099511627776) (he : refE off s = 0) (hf : fitsF room F s bn = false) :
    Calls Try.prog 18 #[.pointer (some ⟨b, 0, none⟩), .string s, .slice ba bn bc] w fun e w' => e = .returned (.int .i64 93) ∧ w.grownBy w' none := by
  have HD := hid h
  have HL := hid (lock_any h)
  have HRf : Hid (∀ u, Dk u B b m 1 room off wr ar kp F → Calls Try.prog 35 #[.pointer (some ⟨b, 0, none⟩), .string s] u fun e w' => e = .returned (.int .i64 0) ∧ u.grownBy w' none) := fun u hu => by
    have := refusal_any hu s
    rw [he] at this
    exact this
  have HFt : Hid (∀ u, Dk u B b m 1 room off wr ar kp F → Calls Try.prog 25 #[.pointer (some ⟨b, 0, none⟩), .string s, .int .i64 (bn : Nat)] u fun e w' => e = .returned (.bool false) ∧ u.grownBy w' none) := fun u hu => by
    have := fits_any hu s bn hU hr
    rw [hf] at this
    exact this
  clear h he hf hU hr
  go_enter_defers Try.func18, Try.ntmps18
  go_wp2_with (first
    | (go_at_call 28; refine HL.out.mono ?_; rintro e w1 ⟨rfl, hd, hg⟩; have HD1 := hid hd; have HG1 := hid hg; clear hd hg)
    | (go_at_call 35; refine (HRf.out _ HD1.out).mono ?_; rintro e w2 ⟨rfl, hg⟩; have HD2 := hid (HD1.out.keep hg); have HG2 := hid (HG1.out.andThen hg (fun j hj => by cases hj)); clear hg)
    | (go_at_call 25; refine (HFt.out _ HD2.out).mono ?_; rintro e w3 ⟨rfl, hg⟩; have HD3 := hid (HD2.out.keep hg); have HG3 := hid (HG2.out.andThen hg (fun j hj => by cases hj)); clear hg))
  refine leaves_cons (f := 29) (args := #[.pointer (some ⟨b, 0, none⟩)]) (by simp) (by simp [go_sem]) ?_
  refine (unlock_any .returning HD3.out).mono ?_
  rintro e u' w4 ⟨rfl, rfl, hd4, hg4⟩
  exact ⟨_, results_tmp rfl _ _ _, rfl, back_same HD.out.blk (gtrans HG3.out hg4) hd4.blk⟩
/-- What a Cut leaves. -/
def cutF (F : List Fl) (s : ByteArray) (z : Nat) (K : Int) : Cn := if 0 < K then setC (cont F) s ((oldB F s).take z) else cont F
theorem refE_size {off : Bool} {s : ByteArray} (he : refE off s = 0) : s.size ≤ 64 ∧ goodN s = true ∧ off = false := by
  unfold refE at he
  cases off with
  | true => simp at he
  | false =>
    cases hg : goodN s with
    | false => rw [hg] at he; simp at he
    | true =>
      have hg' := hg
      unfold goodN at hg
      simp only [Bool.and_eq_true, decide_eq_true_eq] at hg
      exact ⟨hg.2.1, rfl, rfl⟩
theorem findE_zero {off : Bool} {F : List Fl} {s : ByteArray} (he : findE off F s = 0) : refE off s = 0 ∧ hasF F s = true := by
  unfold findE at he
  by_cases e : refE off s = 0
  · rw [if_pos e] at he
    refine ⟨e, ?_⟩
    cases hh : hasF F s with
    | true => rfl
    | false => rw [hh] at he; simp at he
  · rw [if_neg e] at he
    exact absurd he e
end
end Go.Proofs.Ytlgjmdianmijeab
