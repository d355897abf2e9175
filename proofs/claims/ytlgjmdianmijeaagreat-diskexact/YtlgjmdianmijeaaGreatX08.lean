/- Append and Cut, plainly told. -/
import Derived.Test.YtlgjmdianmijeaaGreatDg
namespace Go.Proofs.YtlgjmdianmijeaaGreat
open Go Go.RowKit Go.MuLone
open Go.RowKit (wrap32 wrap64)

section
variable {w w' : World} {B b m : Nat} {room : Int} {off : Bool} {wr ar kp : Int} {F : List Fl}
set_option maxRecDepth 100000 in
set_option maxHeartbeats 1600000 in
theorem append_no1 (h : Dk w B b m 0 room off wr ar kp F) (s : ByteArray) (ba : Option Addr) (bn bc : Nat) (he : refE off s ≠ 0) :
    Calls Tryz.prog 13 #[.pointer (some ⟨b, 0, none⟩), .string s, .slice ba bn bc] w fun e w' => e = .returned (.int .i64 (refE off s)) ∧ w.grownBy w' none := by
  have HD := hid h
  have HL := hid (lock_any h)
  obtain ⟨E, hE⟩ : ∃ x, refE off s = x := ⟨_, rfl⟩
  have HRf : Hid (∀ u, Dk u B b m 1 room off wr ar kp F → Calls Tryz.prog 45 #[.pointer (some ⟨b, 0, none⟩), .string s] u fun e w' => e = .returned (.int .i64 E) ∧ u.grownBy w' none) := fun u hu => by
    have := refusal_any hu s
    rw [hE] at this
    exact this
  rw [hE] at he ⊢
  have he' : (E == 0) = false := beq_eq_false_iff_ne.2 he
  clear h hE
  go_enter_defers Tryz.func13, Tryz.ntmps13
  go_wp2_with (first
    | (go_at_call 43; refine HL.out.mono ?_; rintro e w1 ⟨rfl, hd, hg⟩; have HD1 := hid hd; have HG1 := hid hg; clear hd hg)
    | (go_at_call 45; refine (HRf.out _ HD1.out).mono ?_; rintro e w2 ⟨rfl, hg⟩; have HD2 := hid (HD1.out.keep hg); have HG2 := hid (HG1.out.andThen hg (fun j hj => by cases hj)); clear hg))
  refine leaves_cons (f := 44) (args := #[.pointer (some ⟨b, 0, none⟩)]) (by simp) (by simp [go_sem]) ?_
  refine (unlock_any .returning HD2.out).mono ?_
  rintro e u' w3 ⟨rfl, rfl, hd3, hg3⟩
  exact ⟨_, results_tmp rfl _ _ _, rfl, back_same HD.out.blk (gtrans HG2.out hg3) hd3.blk⟩
set_option maxRecDepth 100000 in
set_option maxHeartbeats 1600000 in
theorem append_no2 (h : Dk w B b m 0 room off wr ar kp F) (s : ByteArray) (ba : Option Addr) (bn bc : Nat) (hU : usedF F ≤ 1099511627776) (hr : 0 ≤ room ∧ room ≤ 1099511627776) (he : refE off s = 0) (hf : fitsF room F s bn = false) :
    Calls Tryz.prog 13 #[.pointer (some ⟨b, 0, none⟩), .string s, .slice ba bn bc] w fun e w' => e = .returned (.int .i64 93) ∧ w.grownBy w' none := by
  have HD := hid h
  have HL := hid (lock_any h)
  have HRf : Hid (∀ u, Dk u B b m 1 room off wr ar kp F → Calls Tryz.prog 45 #[.pointer (some ⟨b, 0, none⟩), .string s] u fun e w' => e = .returned (.int .i64 0) ∧ u.grownBy w' none) := fun u hu => by
    have := refusal_any hu s
    rw [he] at this
    exact this
  have HFt : Hid (∀ u, Dk u B b m 1 room off wr ar kp F → Calls Tryz.prog 46 #[.pointer (some ⟨b, 0, none⟩), .string s, .int .i64 (bn : Nat)] u fun e w' => e = .returned (.bool false) ∧ u.grownBy w' none) := fun u hu => by
    have := fits_any hu s bn hU hr
    rw [hf] at this
    exact this
  clear h he hf hU hr
  go_enter_defers Tryz.func13, Tryz.ntmps13
  go_wp2_with (first
    | (go_at_call 43; refine HL.out.mono ?_; rintro e w1 ⟨rfl, hd, hg⟩; have HD1 := hid hd; have HG1 := hid hg; clear hd hg)
    | (go_at_call 45; refine (HRf.out _ HD1.out).mono ?_; rintro e w2 ⟨rfl, hg⟩; have HD2 := hid (HD1.out.keep hg); have HG2 := hid (HG1.out.andThen hg (fun j hj => by cases hj)); clear hg)
    | (go_at_call 46; refine (HFt.out _ HD2.out).mono ?_; rintro e w3 ⟨rfl, hg⟩; have HD3 := hid (HD2.out.keep hg); have HG3 := hid (HG2.out.andThen hg (fun j hj => by cases hj)); clear hg))
  refine leaves_cons (f := 44) (args := #[.pointer (some ⟨b, 0, none⟩)]) (by simp) (by simp [go_sem]) ?_
  refine (unlock_any .returning HD3.out).mono ?_
  rintro e u' w4 ⟨rfl, rfl, hd4, hg4⟩
  exact ⟨_, results_tmp rfl _ _ _, rfl, back_same HD.out.blk (gtrans HG3.out hg4) hd4.blk⟩
/-- What a Cut leaves. -/
def cutF (F : List Fl) (s : ByteArray) (z : Nat) (K : Int) : Cn := if 0 < K then setC (cont F) s ((oldB F s).take z) else cont F
theorem refE_size {off : Bool} {s : ByteArray} (he : refE off s = 0) : s.size ≤ 64 ∧ goodN s = true ∧ off = false := by
  unfold refE at he
  cases off with
  | true => simp at he
  | false =>
    cases hg : goodN s with
    | false => rw [hg] at he; simp at he
    | true =>
      have hg' := hg
      unfold goodN at hg
      simp only [Bool.and_eq_true, decide_eq_true_eq] at hg
      exact ⟨hg.2.1, rfl, rfl⟩
theorem findE_zero {off : Bool} {F : List Fl} {s : ByteArray} (he : findE off F s = 0) : refE off s = 0 ∧ hasF F s = true := by
  unfold findE at he
  by_cases e : refE off s = 0
  · rw [if_pos e] at he
    refine ⟨e, ?_⟩
    cases hh : hasF F s with
    | true => rfl
    | false => rw [hh] at he; simp at he
  · rw [if_neg e] at he
    exact absurd he e
set_option maxRecDepth 100000 in
set_option maxHeartbeats 4000000 in
theorem cut_dk (h : Dk w B b m 0 room off wr ar kp F) (s : ByteArray) (z : Nat) (hU : usedF F ≤ 1099511627776) (hw : 0 ≤ wr ∧ wr ≤ 4611686018427387904) (ha : 0 ≤ ar ∧ ar ≤ 9223372036854775807) (hB : B ≤ w.heap.size) (he : findE off F s = 0) (hz : z ≤ (oldB F s).length) :
    Calls Tryz.prog 25 #[.pointer (some ⟨b, 0, none⟩), .string s, .int .i64 (z : Nat)] w fun e w' => e = .returned (.int .i64 (wE ar)) ∧ ∃ F', Dk w' B b m 0 room (wO ar off) (wr + 1) (wA ar) kp F' ∧ cont F' = cutF F s z (wK ar kp) ∧ DF w w' (Fp b m F) ∧ ∀ k, Fp b m F' k → Fp b m F k ∨ w.heap.size ≤ k := by
  have HD := hid h
  have HL := hid (lock_any h)
  have HSz : Hid (s.size ≤ 64) := hid (refE_size (findE_zero he).1).1
  have hfv0 : findV off F s = lookV F s := by unfold findV; rw [if_pos he]
  obtain ⟨fa, fc, hfv⟩ := (h.look s).1.len
  obtain ⟨ol, hol⟩ : ∃ x, oldB F s = x := ⟨_, rfl⟩
  rw [hol] at hfv hz
  obtain ⟨fn, hfn⟩ : ∃ x, ol.length = x := ⟨_, rfl⟩
  rw [hfn] at hfv hz
  have HFi : Hid (∀ u, Dk u B b m 1 room off wr ar kp F → Calls Tryz.prog 49 #[.pointer (some ⟨b, 0, none⟩), .string s] u fun e w' => e = .returned (.tuple #[.slice fa fn fc, .int .i64 0]) ∧ u.grownBy w' none) := fun u hu => by
    have := find_any hu s
    rw [he, hfv0, hfv] at this
    exact this
  have HWr : Hid (∀ u, Dk u B b m 1 room off wr ar kp F → Calls Tryz.prog 47 #[.pointer (some ⟨b, 0, none⟩)] u fun e w' => e = .returned (.tuple #[.int .i64 (wK ar kp), .int .i64 (wE ar)]) ∧ Dk w' B b m 1 room (wO ar off) (wr + 1) (wA ar) kp F ∧ u.grownBy w' (some b)) := fun u hu => write_any hu hw ha
  have HOL : Hid (ol.length ≤ 1099511627776) := hid (by rw [← hol, oldB_cont]; have := get_used (cont F) s; rw [← used_cont] at this; omega)
  obtain ⟨K, hK⟩ : ∃ x, wK ar kp = x := ⟨_, rfl⟩
  obtain ⟨E, hE⟩ : ∃ x, wE ar = x := ⟨_, rfl⟩
  obtain ⟨O', hO'⟩ : ∃ x, wO ar off = x := ⟨_, rfl⟩
  obtain ⟨A', hA'⟩ : ∃ x, wA ar = x := ⟨_, rfl⟩
  rw [hK, hE, hO', hA'] at HWr
  rw [hK, hE, hO', hA']
  have HO4 : Hid (∀ u, Dk u B b m 1 room O' (wr + 1) A' kp F → Out B u (.slice fa fn fc) ol) := hid (fun u hu => by rw [← hfv, ← hol]; exact (hu.look s).1)
  have HC : Hid (∀ u, Dk u B b m 1 room O' (wr + 1) A' kp F → Calls Tryz.prog 50 #[.slice fa z fc] u fun e w' => ∃ v', e = .returned v' ∧ Out u.heap.size w' v' (ol.take z) ∧ u.grownBy w' none) := fun u hu => bclone_any u _ _ (ol.take z) ((HO4.out u hu).rd.take hz) (by have := HOL.out; rw [List.length_take]; omega)
  have HCo1 : Hid (0 < K → ∀ v, cont (setF F s v (ol.take z)) = cutF F s z K) := hid (fun hk v => by unfold cutF; rw [if_pos hk, set_cont, hol])
  have HCo2 : Hid (¬ 0 < K → cont F = cutF F s z K) := hid (fun hk => by unfold cutF; rw [if_neg hk])
  have HZl : Hid ((ol.take z).length = z) := hid (by rw [List.length_take]; omega)
  have HBw := hid hB
  have hz1 : ¬ (z : Int) < 0 := by omega
  have hz2 : ¬ (fn : Int) < (z : Int) := by omega
  have HFc : Hid (fn ≤ fc) := hid (by
    have := (h.look s).1.rd
    rw [hfv, hol] at this
    obtain ⟨_, _, _, _, e, h2, _⟩ := this
    injection e with _ e1 e2
    omega)
  have hz3 : (z : Int) ≤ (fc : Int) := by have := HFc.out; omega
  clear h hU hw ha hB he hfv0 hfv hol hfn hK hE hO' hA' hz
  by_cases hK0 : 0 < K
  · as_aux_lemma =>
    go_enter_defers Tryz.func25, Tryz.ntmps25
    go_wp2_with (first
      | (go_at_call 43; refine HL.out.mono ?_; rintro e w1 ⟨rfl, hd, hg⟩; have HD1 := hid hd; have HF1 := hid (DF.one hg (P := Fp b m F) (.inl rfl)); clear hd hg)
      | (go_at_call 49; refine (HFi.out _ HD1.out).mono ?_; rintro e w2 ⟨rfl, hg⟩; have HD2 := hid (HD1.out.keep hg); have HF2 := hid (HF1.out.trans (DF.of (P := Fp b m F) hg) (fun _ _ q => q)); clear hg)
      | (go_at_call 47; refine (HWr.out _ HD2.out).mono ?_; rintro e w4 ⟨rfl, hd, hg⟩; have HD4 := hid hd; have HF4 := hid (HF2.out.trans (DF.one hg (P := Fp b m F) (.inl rfl)) (fun _ _ q => q)); clear hd hg)
      | (go_at_call 50; refine (HC.out _ HD4.out).mono ?_; rintro e w5 ⟨v5, rfl, hO, hg⟩; obtain ⟨va, vc, hv5⟩ := hO.len; rw [HZl.out] at hv5; subst hv5; have HO5 := hid hO; have HD5 := hid (HD4.out.keep hg); have HF5 := hid (HF4.out.trans (DF.of (P := Fp b m F) hg) (fun _ _ q => q)); have HP5 := hid (put_any s (HD5.out.toW s) va z vc (ol.take z) HSz.out (HO5.out.below (by have := HF4.out.size; have := HBw.out; omega)) (fun f hf _ => by
          cases hk : (Value.slice va z vc).ownBlock with
          | none => exact .inl rfl
          | some k => exact .inr (fun e => by have := HO5.out.block k hk; have := ((HD4.out.own f hf).lt k e.symm).2; omega))); clear hO hg)
      | (go_at_call 48; refine HP5.out.mono ?_; rintro e w6 ⟨rfl, hd6, hg6⟩; have HD6 := hid hd6; have HG6 := hid hg6; clear hd6 hg6))
    refine leaves_cons (f := 44) (args := #[.pointer (some ⟨b, 0, none⟩)]) (by simp) (by simp [go_sem]) ?_
    refine (unlock_any .returning HD6.out).mono ?_
    rintro e u' w7 ⟨rfl, rfl, hd7, hg7⟩
    refine ⟨_, results_tmp rfl _ _ _, rfl, setF F s (.slice va z vc) (ol.take z), hd7, HCo1.out hK0 _, ?_, ?_⟩
    · exact (HF5.out.trans (DF.one HG6.out (P := Fp b m F) (.inr (.inl rfl))) (fun _ _ q => q)).trans (DF.one hg7 (P := Fp b m F) (.inl rfl)) (fun _ _ q => q)
    · rintro k (rfl | rfl | ⟨f, hf, hk⟩)
      · exact .inl (.inl rfl)
      · exact .inl (.inr (.inl rfl))
      · rcases mem_setF HD5.out.map.nodup hf with rfl | ⟨hf, _⟩
        · right
          have := HO5.out.block k hk
          have := HF4.out.size
          omega
        · exact .inl (.inr (.inr ⟨f, hf, hk⟩))
  · as_aux_lemma =>
    go_enter_defers Tryz.func25, Tryz.ntmps25
    go_wp2_with (first
      | (go_at_call 43; refine HL.out.mono ?_; rintro e w1 ⟨rfl, hd, hg⟩; have HD1 := hid hd; have HF1 := hid (DF.one hg (P := Fp b m F) (.inl rfl)); clear hd hg)
      | (go_at_call 49; refine (HFi.out _ HD1.out).mono ?_; rintro e w2 ⟨rfl, hg⟩; have HD2 := hid (HD1.out.keep hg); have HF2 := hid (HF1.out.trans (DF.of (P := Fp b m F) hg) (fun _ _ q => q)); clear hg)
      | (go_at_call 47; refine (HWr.out _ HD2.out).mono ?_; rintro e w4 ⟨rfl, hd, hg⟩; have HD4 := hid hd; have HF4 := hid (HF2.out.trans (DF.one hg (P := Fp b m F) (.inl rfl)) (fun _ _ q => q)); clear hd hg))
    refine leaves_cons (f := 44) (args := #[.pointer (some ⟨b, 0, none⟩)]) (by simp) (by simp [go_sem]) ?_
    refine (unlock_any .returning HD4.out).mono ?_
    rintro e u' w7 ⟨rfl, rfl, hd7, hg7⟩
    exact ⟨_, results_tmp rfl _ _ _, rfl, F, hd7, HCo2.out hK0, HF4.out.trans (DF.one hg7 (P := Fp b m F) (.inl rfl)) (fun _ _ q => q), fun k hk => .inl hk⟩
set_option maxRecDepth 100000 in
set_option maxHeartbeats 1600000 in
theorem cut_no1 (h : Dk w B b m 0 room off wr ar kp F) (s : ByteArray) (z : Int) (he : findE off F s ≠ 0) :
    Calls Tryz.prog 25 #[.pointer (some ⟨b, 0, none⟩), .string s, .int .i64 z] w fun e w' => e = .returned (.int .i64 (findE off F s)) ∧ w.grownBy w' none := by
  have HD := hid h
  have HL := hid (lock_any h)
  obtain ⟨E, hE⟩ : ∃ x, findE off F s = x := ⟨_, rfl⟩
  have hfv0 : findV off F s = .slice none 0 0 := by unfold findV; rw [if_neg he]
  have HFi : Hid (∀ u, Dk u B b m 1 room off wr ar kp F → Calls Tryz.prog 49 #[.pointer (some ⟨b, 0, none⟩), .string s] u fun e w' => e = .returned (.tuple #[.slice none 0 0, .int .i64 E]) ∧ u.grownBy w' none) := fun u hu => by
    have := find_any hu s
    rw [hfv0, hE] at this
    exact this
  rw [hE] at he ⊢
  have he' : (E == 0) = false := beq_eq_false_iff_ne.2 he
  clear h hE hfv0
  go_enter_defers Tryz.func25, Tryz.ntmps25
  go_wp2_with (first
    | (go_at_call 43; refine HL.out.mono ?_; rintro e w1 ⟨rfl, hd, hg⟩; have HD1 := hid hd; have HG1 := hid hg; clear hd hg)
    | (go_at_call 49; refine (HFi.out _ HD1.out).mono ?_; rintro e w2 ⟨rfl, hg⟩; have HD2 := hid (HD1.out.keep hg); have HG2 := hid (HG1.out.andThen hg (fun j hj => by cases hj)); clear hg))
  refine leaves_cons (f := 44) (args := #[.pointer (some ⟨b, 0, none⟩)]) (by simp) (by simp [go_sem]) ?_
  refine (unlock_any .returning HD2.out).mono ?_
  rintro e u' w3 ⟨rfl, rfl, hd3, hg3⟩
  exact ⟨_, results_tmp rfl _ _ _, rfl, back_same HD.out.blk (gtrans HG2.out hg3) hd3.blk⟩
set_option maxRecDepth 100000 in
set_option maxHeartbeats 1600000 in
theorem cut_no2 (h : Dk w B b m 0 room off wr ar kp F) (s : ByteArray) (z : Int) (he : findE off F s = 0) (hz : z < 0 ∨ ((oldB F s).length : Int) < z) :
    Calls Tryz.prog 25 #[.pointer (some ⟨b, 0, none⟩), .string s, .int .i64 z] w fun e w' => e = .returned (.int .i64 95) ∧ w.grownBy w' none := by
  have HD := hid h
  have HL := hid (lock_any h)
  have hfv0 : findV off F s = lookV F s := by unfold findV; rw [if_pos he]
  obtain ⟨fa, fc, hfv⟩ := (h.look s).1.len
  obtain ⟨fn, hfn⟩ : ∃ x, (oldB F s).length = x := ⟨_, rfl⟩
  rw [hfn] at hfv hz
  have HFi : Hid (∀ u, Dk u B b m 1 room off wr ar kp F → Calls Tryz.prog 49 #[.pointer (some ⟨b, 0, none⟩), .string s] u fun e w' => e = .returned (.tuple #[.slice fa fn fc, .int .i64 0]) ∧ u.grownBy w' none) := fun u hu => by
    have := find_any hu s
    rw [he, hfv0, hfv] at this
    exact this
  clear h he hfv0 hfv hfn
  by_cases hz1 : z < 0
  · clear hz
    go_enter_defers Tryz.func25, Tryz.ntmps25
    go_wp2_with (first
      | (go_at_call 43; refine HL.out.mono ?_; rintro e w1 ⟨rfl, hd, hg⟩; have HD1 := hid hd; have HG1 := hid hg; clear hd hg)
      | (go_at_call 49; refine (HFi.out _ HD1.out).mono ?_; rintro e w2 ⟨rfl, hg⟩; have HD2 := hid (HD1.out.keep hg); have HG2 := hid (HG1.out.andThen hg (fun j hj => by cases hj)); clear hg))
    refine leaves_cons (f := 44) (args := #[.pointer (some ⟨b, 0, none⟩)]) (by simp) (by simp [go_sem]) ?_
    refine (unlock_any .returning HD2.out).mono ?_
    rintro e u' w3 ⟨rfl, rfl, hd3, hg3⟩
    exact ⟨_, results_tmp rfl _ _ _, rfl, back_same HD.out.blk (gtrans HG2.out hg3) hd3.blk⟩
  · have hz2 : (fn : Int) < z := by omega
    clear hz
    go_enter_defers Tryz.func25, Tryz.ntmps25
    go_wp2_with (first
      | (go_at_call 43; refine HL.out.mono ?_; rintro e w1 ⟨rfl, hd, hg⟩; have HD1 := hid hd; have HG1 := hid hg; clear hd hg)
      | (go_at_call 49; refine (HFi.out _ HD1.out).mono ?_; rintro e w2 ⟨rfl, hg⟩; have HD2 := hid (HD1.out.keep hg); have HG2 := hid (HG1.out.andThen hg (fun j hj => by cases hj)); clear hg))
    refine leaves_cons (f := 44) (args := #[.pointer (some ⟨b, 0, none⟩)]) (by simp) (by simp [go_sem]) ?_
    refine (unlock_any .returning HD2.out).mono ?_
    rintro e u' w3 ⟨rfl, rfl, hd3, hg3⟩
    exact ⟨_, results_tmp rfl _ _ _, rfl, back_same HD.out.blk (gtrans HG2.out hg3) hd3.blk⟩
end
end Go.Proofs.YtlgjmdianmijeaaGreat

namespace Go.Proofs.YtlgjmdianmijeaaGreat
open Go Go.RowKit Go.MuLone
open Go.RowKit (wrap32 wrap64)

variable {w w' : World} {B b : Nat} {A : Ab} {P : Nat → Prop}
def Ab.fits (A : Ab) (s : ByteArray) (n : Nat) : Bool := ((getC A.C s).isSome || decide (A.C.length < 64)) && decide ((n : Int) ≤ A.room - (usedC A.C : Nat))
theorem fits_of {F : List Fl} (h : cont F = A.C) (s : ByteArray) (n : Nat) : fitsF A.room F s n = A.fits s n := by
  unfold fitsF Ab.fits
  rw [has_cont, h, ← len_cont, h, used_cont, h]
/-- A write was done, or torn. -/
def Ab.did (A : Ab) (C : Cn) : Ab := ⟨A.room, wO A.ar A.off, A.wr + 1, wA A.ar, A.kp, C⟩
def Ab.old (A : Ab) (s : ByteArray) : List UInt8 := (getC A.C s).getD []
def Ab.appC (A : Ab) (s : ByteArray) (l : List UInt8) : Cn := if 0 < wK A.ar A.kp then setC A.C s (A.old s ++ l.take (min (wK A.ar A.kp) l.length).toNat) else A.C
def Ab.appE (A : Ab) (s : ByteArray) (l : List UInt8) : Int := if refE A.off s = 0 then (if A.fits s l.length = true then wE A.ar else 93) else refE A.off s
def Ab.app (A : Ab) (s : ByteArray) (l : List UInt8) : Ab := if refE A.off s = 0 ∧ A.fits s l.length = true then A.did (A.appC s l) else A
def Ab.cutC (A : Ab) (s : ByteArray) (z : Int) : Cn := if 0 < wK A.ar A.kp then setC A.C s ((A.old s).take z.toNat) else A.C
def Ab.cutE (A : Ab) (s : ByteArray) (z : Int) : Int := if A.fndE s = 0 then (if 0 ≤ z ∧ z ≤ ((A.old s).length : Int) then wE A.ar else 95) else A.fndE s
def Ab.cut (A : Ab) (s : ByteArray) (z : Int) : Ab := if A.fndE s = 0 ∧ 0 ≤ z ∧ z ≤ ((A.old s).length : Int) then A.did (A.cutC s z) else A
theorem wA_ok {ar : Int} (h : 0 ≤ ar ∧ ar ≤ 9223372036854775807) : 0 ≤ wA ar ∧ wA ar ≤ 9223372036854775807 := by
  unfold wA
  split <;> omega
theorem Ab.ok.did (h : A.ok) {C : Cn} (h1 : (usedC C : Int) ≤ A.room) (h2 : C.length ≤ 64) (h3 : ∀ p ∈ C, goodN p.1 = true) : (A.did C).ok :=
  ⟨h.room, by have := h.wr; show 0 ≤ A.wr + 1; omega, wA_ok h.ar, h1, h2, h3⟩
theorem appC_ok (h : A.ok) {s : ByteArray} {l : List UInt8} (he : refE A.off s = 0) (hf : A.fits s l.length = true) : (usedC (A.appC s l) : Int) ≤ A.room ∧ (A.appC s l).length ≤ 64 ∧ ∀ p ∈ A.appC s l, goodN p.1 = true := by
  unfold Ab.appC
  by_cases hk : 0 < wK A.ar A.kp
  · rw [if_pos hk]
    unfold Ab.fits at hf
    simp only [Bool.and_eq_true, Bool.or_eq_true, decide_eq_true_eq] at hf
    refine ⟨?_, ?_, fun p hp => ?_⟩
    · have h1 := used_set A.C s (A.old s ++ l.take (min (wK A.ar A.kp) l.length).toNat)
      have h2 : (A.old s ++ l.take (min (wK A.ar A.kp) l.length).toNat).length ≤ (A.old s).length + l.length := by
        rw [List.length_append, List.length_take]
        omega
      have h3 := hf.2
      unfold Ab.old at h1 h2 ⊢
      omega
    · rw [len_set]
      have := h.len
      rcases hf.1 with q | q
      · rw [if_pos q]; exact this
      · split <;> omega
    · rcases mem_setC hp with rfl | hp
      · exact (refE_size he).2.1
      · exact h.nms p hp
  · rw [if_neg hk]
    exact ⟨h.used, h.len, h.nms⟩
theorem cutC_ok (h : A.ok) {s : ByteArray} {z : Int} (he : A.fndE s = 0) : (usedC (A.cutC s z) : Int) ≤ A.room ∧ (A.cutC s z).length ≤ 64 ∧ ∀ p ∈ A.cutC s z, goodN p.1 = true := by
  have hfe : refE A.off s = 0 ∧ (getC A.C s).isSome = true := by
    unfold Ab.fndE at he
    by_cases e : refE A.off s = 0
    · rw [if_pos e] at he
      refine ⟨e, ?_⟩
      cases hh : (getC A.C s).isSome with
      | true => rfl
      | false => rw [hh] at he; simp at he
    · rw [if_neg e] at he
      exact absurd he e
  unfold Ab.cutC
  by_cases hk : 0 < wK A.ar A.kp
  · rw [if_pos hk]
    refine ⟨?_, ?_, fun p hp => ?_⟩
    · have h1 := used_set A.C s ((A.old s).take z.toNat)
      have h2 : ((A.old s).take z.toNat).length ≤ (A.old s).length := by rw [List.length_take]; omega
      have h3 := h.used
      unfold Ab.old at h1 h2 ⊢
      omega
    · rw [len_set, if_pos hfe.2]
      exact h.len
    · rcases mem_setC hp with rfl | hp
      · exact (refE_size hfe.1).2.1
      · exact h.nms p hp
  · rw [if_neg hk]
    exact ⟨h.used, h.len, h.nms⟩
theorem newP_of {m : Nat} {F F' : List Fl} {lk room : Int} {off : Bool} {wr ar kp : Int} (h : Dk w' B b m lk room off wr ar kp F') (hp : ∀ k, Fp b m F k → P k) (hn : ∀ k, Fp b m F' k → Fp b m F k ∨ w.heap.size ≤ k) : ∀ k, Fp b m F' k → newP P w w' k := fun k hk => by
  rcases hn k hk with q | q
  · exact .inl (hp k q)
  · exact .inr ⟨q, (h.lt hk).2⟩
theorem DF.mono {P Q : Nat → Prop} (h : DF w w' P) (hq : ∀ k, P k → Q k) : DF w w' Q := ⟨h.os, h.tape, h.output, h.size, fun k hk hp => h.block k hk (fun x => hp (hq k x))⟩
theorem append_p (h : DkP w B b A P) (s : ByteArray) (Fr : Nat → Prop) (ba : Option Addr) (bn bc : Nat) (l : List UInt8) (hb : Rd w Fr (.slice ba bn bc) l) (hfr : ∀ k, Fr k → ¬ P k) (hw : A.wr ≤ 4611686018427387904) :
    Calls Tryz.prog 13 #[.pointer (some ⟨b, 0, none⟩), .string s, .slice ba bn bc] w fun e w' => e = .returned (.int .i64 (A.appE s l)) ∧ DkP w' B b (A.app s l) (newP P w w') ∧ DF w w' P := by
  have hbl := h.lt
  obtain ⟨h1, m, F, h2, h3, h4⟩ := h
  have hU : usedF F ≤ 1099511627776 := by rw [used_cont, h3]; have := h1.used; have := h1.room; omega
  have hr : 0 ≤ A.room ∧ A.room ≤ 1099511627776 := by have := h1.room; omega
  have hbn : l.length = bn := by obtain ⟨_, _, _, _, e, _⟩ := hb; injection e with _ e _; exact e.symm
  unfold Ab.appE Ab.app
  by_cases he : refE A.off s = 0
  · by_cases hf : A.fits s l.length = true
    · rw [if_pos he, if_pos hf, if_pos ⟨he, hf⟩]
      refine (append_dk h2 s Fr ba bn bc l hb (fun k hk hp => hfr k hk (h4 k hp)) hU hr ⟨h1.wr, hw⟩ h1.ar (by omega) he (by rw [fits_of h3]; exact hf)).mono ?_
      rintro e w' ⟨rfl, F', hd, hc, hdf, hn⟩
      have hok := appC_ok h1 he hf
      refine ⟨rfl, ⟨h1.did hok.1 hok.2.1 hok.2.2, m, F', hd, ?_, newP_of hd h4 hn⟩, hdf.mono h4⟩
      rw [hc]
      unfold appF Ab.did Ab.appC Ab.old
      rw [oldB_cont, h3]
    · have hf' : A.fits s l.length = false := by simpa using hf
      rw [if_pos he, if_neg hf, if_neg (fun q => hf q.2)]
      refine (append_no2 h2 s ba bn bc hU hr he (by rw [fits_of h3, ← hbn]; exact hf')).mono ?_
      rintro e w' ⟨rfl, hg⟩
      exact ⟨rfl, ⟨h1, m, F, h2.keep hg, h3, fun k hk => .inl (h4 k hk)⟩, DF.of hg⟩
  · rw [if_neg he, if_neg (fun q => he q.1)]
    refine (append_no1 h2 s ba bn bc he).mono ?_
    rintro e w' ⟨rfl, hg⟩
    exact ⟨rfl, ⟨h1, m, F, h2.keep hg, h3, fun k hk => .inl (h4 k hk)⟩, DF.of hg⟩
theorem cut_p (h : DkP w B b A P) (s : ByteArray) (z : Int) (hw : A.wr ≤ 4611686018427387904) :
    Calls Tryz.prog 25 #[.pointer (some ⟨b, 0, none⟩), .string s, .int .i64 z] w fun e w' => e = .returned (.int .i64 (A.cutE s z)) ∧ DkP w' B b (A.cut s z) (newP P w w') ∧ DF w w' P := by
  have hbl := h.lt
  obtain ⟨h1, m, F, h2, h3, h4⟩ := h
  have hU : usedF F ≤ 1099511627776 := by rw [used_cont, h3]; have := h1.used; have := h1.room; omega
  have hol : oldB F s = A.old s := by unfold Ab.old; rw [oldB_cont, h3]
  unfold Ab.cutE Ab.cut
  by_cases he : A.fndE s = 0
  · have he2 : findE A.off F s = 0 := by rw [fndE_of h3]; exact he
    by_cases hz : 0 ≤ z ∧ z ≤ ((A.old s).length : Int)
    · rw [if_pos he, if_pos hz, if_pos ⟨he, hz⟩]
      obtain ⟨n, rfl⟩ : ∃ n : Nat, z = (n : Int) := ⟨z.toNat, by omega⟩
      refine (cut_dk h2 s n hU ⟨h1.wr, hw⟩ h1.ar (by omega) he2 (by rw [hol]; omega)).mono ?_
      rintro e w' ⟨rfl, F', hd, hc, hdf, hn⟩
      have hok := cutC_ok h1 (z := (n : Int)) he
      refine ⟨rfl, ⟨h1.did hok.1 hok.2.1 hok.2.2, m, F', hd, ?_, newP_of hd h4 hn⟩, hdf.mono h4⟩
      rw [hc]
      unfold cutF Ab.did Ab.cutC
      rw [hol, h3]
      rfl
    · rw [if_pos he, if_neg hz, if_neg (fun q => hz q.2)]
      refine (cut_no2 h2 s z he2 (by rw [hol]; omega)).mono ?_
      rintro e w' ⟨rfl, hg⟩
      exact ⟨rfl, ⟨h1, m, F, h2.keep hg, h3, fun k hk => .inl (h4 k hk)⟩, DF.of hg⟩
  · rw [if_neg he, if_neg (fun q => he q.1)]
    have := cut_no1 h2 s z (by rw [fndE_of h3]; exact he)
    rw [fndE_of h3] at this
    refine this.mono ?_
    rintro e w' ⟨rfl, hg⟩
    exact ⟨rfl, ⟨h1, m, F, h2.keep hg, h3, fun k hk => .inl (h4 k hk)⟩, DF.of hg⟩
end Go.Proofs.YtlgjmdianmijeaaGreat
