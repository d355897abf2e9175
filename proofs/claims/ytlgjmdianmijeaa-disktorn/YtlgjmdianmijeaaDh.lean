/- Append and Cut, plainly told. -/
import Derived.Test.YtlgjmdianmijeaaDg
namespace Go.Proofs.Ytlgjmdianmijeaa
open Go Go.RowKit Go.MuLone
open Go.RowKit (wrap32 wrap64)

section
variable {w w' : World} {B b m : Nat} {room : Int} {off : Bool} {wr ar kp : Int} {F : List Fl}
set_option maxRecDepth 100000 in
set_option maxHeartbeats 1600000 in
theorem append_no1 (h : Dk w B b m 0 room off wr ar kp F) (s : ByteArray) (ba : Option Addr) (bn bc : Nat) (he : refE off s ≠ 0) :
    Calls Try.prog 25 #[.pointer (some ⟨b, 0, none⟩), .string s, .slice ba bn bc] w fun e w' => e = .returned (.int .i64 (refE off s)) ∧ w.grownBy w' none := by
  have HD := hid h
  have HL := hid (lock_any h)
  obtain ⟨E, hE⟩ : ∃ x, refE off s = x := ⟨_, rfl⟩
  have HRf : Hid (∀ u, Dk u B b m 1 room off wr ar kp F → Calls Try.prog 45 #[.pointer (some ⟨b, 0, none⟩), .string s] u fun e w' => e = .returned (.int .i64 E) ∧ u.grownBy w' none) := fun u hu => by
    have := refusal_any hu s
    rw [hE] at this
    exact this
  rw [hE] at he ⊢
  have he' : (E == 0) = false := beq_eq_false_iff_ne.2 he
  clear h hE
  go_enter_defers Try.func25, Try.ntmps25
  go_wp2_with (first
    | (go_at_call 31; refine HL.out.mono ?_; rintro e w1 ⟨rfl, hd, hg⟩; have HD1 := hid hd; have HG1 := hid hg; clear hd hg)
    | (go_at_call 45; refine (HRf.out _ HD1.out).mono ?_; rintro e w2 ⟨rfl, hg⟩; have HD2 := hid (HD1.out.keep hg); have HG2 := hid (HG1.out.andThen hg (fun j hj => by cases hj)); clear hg))
  refine leaves_cons (f := 32) (args := #[.pointer (some ⟨b, 0, none⟩)]) (by simp) (by simp [go_sem]) ?_
  refine (unlock_any .returning HD2.out).mono ?_
  rintro e u' w3 ⟨rfl, rfl, hd3, hg3⟩
  exact ⟨_, results_tmp rfl _ _ _, rfl, back_same HD.out.blk (gtrans HG2.out hg3) hd3.blk⟩
set_option maxRecDepth 100000 in
set_option maxHeartbeats 1600000 in
theorem append_no2 (h : Dk w B b m 0 room off wr ar kp F) (s : ByteArray) (ba : Option Addr) (bn bc : Nat) (hU : usedF F ≤ 1099511627776) (hr : 0 ≤ room ∧ room ≤ 1099511627776) (he : refE off s = 0) (hf : fitsF room F s bn = false) :
    Calls Try.prog 25 #[.pointer (some ⟨b, 0, none⟩), .string s, .slice ba bn bc] w fun e w' => e = .returned (.int .i64 93) ∧ w.grownBy w' none := by
  have HD := hid h
  have HL := hid (lock_any h)
  have HRf : Hid (∀ u, Dk u B b m 1 room off wr ar kp F → Calls Try.prog 45 #[.pointer (some ⟨b, 0, none⟩), .string s] u fun e w' => e = .returned (.int .i64 0) ∧ u.grownBy w' none) := fun u hu => by
    have := refusal_any hu s
    rw [he] at this
    exact this
  have HFt : Hid (∀ u, Dk u B b m 1 room off wr ar kp F → Calls Try.prog 43 #[.pointer (some ⟨b, 0, none⟩), .string s, .int .i64 (bn : Nat)] u fun e w' => e = .returned (.bool false) ∧ u.grownBy w' none) := fun u hu => by
    have := fits_any hu s bn hU hr
    rw [hf] at this
    exact this
  clear h he hf hU hr
  go_enter_defers Try.func25, Try.ntmps25
  go_wp2_with (first
    | (go_at_call 31; refine HL.out.mono ?_; rintro e w1 ⟨rfl, hd, hg⟩; have HD1 := hid hd; have HG1 := hid hg; clear hd hg)
    | (go_at_call 45; refine (HRf.out _ HD1.out).mono ?_; rintro e w2 ⟨rfl, hg⟩; have HD2 := hid (HD1.out.keep hg); have HG2 := hid (HG1.out.andThen hg (fun j hj => by cases hj)); clear hg)
    | (go_at_call 43; refine (HFt.out _ HD2.out).mono ?_; rintro e w3 ⟨rfl, hg⟩; have HD3 := hid (HD2.out.keep hg); have HG3 := hid (HG2.out.andThen hg (fun j hj => by cases hj)); clear hg))
  refine leaves_cons (f := 32) (args := #[.pointer (some ⟨b, 0, none⟩)]) (by simp) (by simp [go_sem]) ?_
  refine (unlock_any .returning HD3.out).mono ?_
  rintro e u' w4 ⟨rfl, rfl, hd4, hg4⟩
  exact ⟨_, results_tmp rfl _ _ _, rfl, back_same HD.out.blk (gtrans HG3.out hg4) hd4.blk⟩
/-- What a Cut leaves. -/
def cutF (F : List Fl) (s : ByteArray) (z : Nat) (K : Int) : Cn := if 0 < K then setC (cont F) s ((oldB F s).take z) else cont F
theorem refE_size {off : Bool} {s : ByteArray} (he : refE off s = 0) : s.size ≤ 64 ∧ goodN s = true ∧ off = false := by
  unfold refE at he
  cases off with
  | true => simp at he
  | false =>
    cases hg : goodN s with
    | false => rw [hg] at he; simp at he
    | true =>
      have hg' := hg
      unfold goodN at hg
      simp only [Bool.and_eq_true, decide_eq_true_eq] at hg
      exact ⟨hg.2.1, rfl, rfl⟩
theorem findE_zero {off : Bool} {F : List Fl} {s : ByteArray} (he : findE off F s = 0) : refE off s = 0 ∧ hasF F s = true := by
  unfold findE at he
  by_cases e : refE off s = 0
  · rw [if_pos e] at he
    refine ⟨e, ?_⟩
    cases hh : hasF F s with
    | true => rfl
    | false => rw [hh] at he; simp at he
  · rw [if_neg e] at he
    exact absurd he e
set_option maxRecDepth 100000 in
set_option maxHeartbeats 4000000 in
theorem cut_dk (h : Dk w B b m 0 room off wr ar kp F) (s : ByteArray) (z : Nat) (hU : usedF F ≤ 1099511627776) (hw : 0 ≤ wr ∧ wr ≤ 4611686018427387904) (ha : 0 ≤ ar ∧ ar ≤ 9223372036854775807) (hB : B ≤ w.heap.size) (he : findE off F s = 0) (hz : z ≤ (oldB F s).length) :
    Calls Try.prog 26 #[.pointer (some ⟨b, 0, none⟩), .string s, .int .i64 (z : Nat)] w fun e w' => e = .returned (.int .i64 (wE ar)) ∧ ∃ F', Dk w' B b m 0 room (wO ar off) (wr + 1) (wA ar) kp F' ∧ cont F' = cutF F s z (wK ar kp) ∧ DF w w' (Fp b m F) ∧ ∀ k, Fp b m F' k → Fp b m F k ∨ w.heap.size ≤ k := by
  have HD := hid h
  have HL := hid (lock_any h)
  have HSz : Hid (s.size ≤ 64) := hid (refE_size (findE_zero he).1).1
  have hfv0 : findV off F s = lookV F s := by unfold findV; rw [if_pos he]
  obtain ⟨fa, fc, hfv⟩ := (h.look s).1.len
  obtain ⟨ol, hol⟩ : ∃ x, oldB F s = x := ⟨_, rfl⟩
  rw [hol] at hfv hz
  obtain ⟨fn, hfn⟩ : ∃ x, ol.length = x := ⟨_, rfl⟩
  rw [hfn] at hfv hz
  have HFi : Hid (∀ u, Dk u B b m 1 room off wr ar kp F → Calls Try.prog 47 #[.pointer (some ⟨b, 0, none⟩), .string s] u fun e w' => e = .returned (.tuple #[.slice fa fn fc, .int .i64 0]) ∧ u.grownBy w' none) := fun u hu => by
    have := find_any hu s
    rw [he, hfv0, hfv] at this
    exact this
  have HWr : Hid (∀ u, Dk u B b m 1 room off wr ar kp F → Calls Try.prog 46 #[.pointer (some ⟨b, 0, none⟩)] u fun e w' => e = .returned (.tuple #[.int .i64 (wK ar kp), .int .i64 (wE ar)]) ∧ Dk w' B b m 1 room (wO ar off) (wr + 1) (wA ar) kp F ∧ u.grownBy w' (some b)) := fun u hu => write_any hu hw ha
  have HOL : Hid (ol.length ≤ 1099511627776) := hid (by rw [← hol, oldB_cont]; have := get_used (cont F) s; rw [← used_cont] at this; omega)
  obtain ⟨K, hK⟩ : ∃ x, wK ar kp = x := ⟨_, rfl⟩
  obtain ⟨E, hE⟩ : ∃ x, wE ar = x := ⟨_, rfl⟩
  obtain ⟨O', hO'⟩ : ∃ x, wO ar off = x := ⟨_, rfl⟩
  obtain ⟨A', hA'⟩ : ∃ x, wA ar = x := ⟨_, rfl⟩
  rw [hK, hE, hO', hA'] at HWr
  rw [hK, hE, hO', hA']
  have HO4 : Hid (∀ u, Dk u B b m 1 room O' (wr + 1) A' kp F → Out B u (.slice fa fn fc) ol) := hid (fun u hu => by rw [← hfv, ← hol]; exact (hu.look s).1)
  have HC : Hid (∀ u, Dk u B b m 1 room O' (wr + 1) A' kp F → Calls Try.prog 35 #[.slice fa z fc] u fun e w' => ∃ v', e = .returned v' ∧ Out u.heap.size w' v' (ol.take z) ∧ u.grownBy w' none) := fun u hu => bclone_any u _ _ (ol.take z) ((HO4.out u hu).rd.take hz) (by have := HOL.out; rw [List.length_take]; omega)
  have HCo1 : Hid (0 < K → ∀ v, cont (setF F s v (ol.take z)) = cutF F s z K) := hid (fun hk v => by unfold cutF; rw [if_pos hk, set_cont, hol])
  have HCo2 : Hid (¬ 0 < K → cont F = cutF F s z K) := hid (fun hk => by unfold cutF; rw [if_neg hk])
  have HZl : Hid ((ol.take z).length = z) := hid (by rw [List.length_take]; omega)
  have HBw := hid hB
  have hz1 : ¬ (z : Int) < 0 := by omega
  have hz2 : ¬ (fn : Int) < (z : Int) := by omega
  have HFc : Hid (fn ≤ fc) := hid (by
    have := (h.look s).1.rd
    rw [hfv, hol] at this
    obtain ⟨_, _, _, _, e, h2, _⟩ := this
    injection e with _ e1 e2
    omega)
  have hz3 : (z : Int) ≤ (fc : Int) := by have := HFc.out; omega
  clear h hU hw ha hB he hfv0 hfv hol hfn hK hE hO' hA' hz
  by_cases hK0 : 0 < K
  · as_aux_lemma =>
    go_enter_defers Try.func26, Try.ntmps26
    go_wp2_with (first
      | (go_at_call 31; refine HL.out.mono ?_; rintro e w1 ⟨rfl, hd, hg⟩; have HD1 := hid hd; have HF1 := hid (DF.one hg (P := Fp b m F) (.inl rfl)); clear hd hg)
      | (go_at_call 47; refine (HFi.out _ HD1.out).mono ?_; rintro e w2 ⟨rfl, hg⟩; have HD2 := hid (HD1.out.keep hg); have HF2 := hid (HF1.out.trans (DF.of (P := Fp b m F) hg) (fun _ _ q => q)); clear hg)
      | (go_at_call 46; refine (HWr.out _ HD2.out).mono ?_; rintro e w4 ⟨rfl, hd, hg⟩; have HD4 := hid hd; have HF4 := hid (HF2.out.trans (DF.one hg (P := Fp b m F) (.inl rfl)) (fun _ _ q => q)); clear hd hg)
      | (go_at_call 35; refine (HC.out _ HD4.out).mono ?_; rintro e w5 ⟨v5, rfl, hO, hg⟩; obtain ⟨va, vc, hv5⟩ := hO.len; rw [HZl.out] at hv5; subst hv5; have HO5 := hid hO; have HD5 := hid (HD4.out.keep hg); have HF5 := hid (HF4.out.trans (DF.of (P := Fp b m F) hg) (fun _ _ q => q)); have HP5 := hid (put_any s (HD5.out.toW s) va z vc (ol.take z) HSz.out (HO5.out.below (by have := HF4.out.size; have := HBw.out; omega)) (fun f hf _ => by
          cases hk : (Value.slice va z vc).ownBlock with
          | none => exact .inl rfl
          | some k => exact .inr (fun e => by have := HO5.out.block k hk; have := ((HD4.out.own f hf).lt k e.symm).2; omega))); clear hO hg)
      | (go_at_call 44; refine HP5.out.mono ?_; rintro e w6 ⟨rfl, hd6, hg6⟩; have HD6 := hid hd6; have HG6 := hid hg6; clear hd6 hg6))
    refine leaves_cons (f := 32) (args := #[.pointer (some ⟨b, 0, none⟩)]) (by simp) (by simp [go_sem]) ?_
    refine (unlock_any .returning HD6.out).mono ?_
    rintro e u' w7 ⟨rfl, rfl, hd7, hg7⟩
    refine ⟨_, results_tmp rfl _ _ _, rfl, setF F s (.slice va z vc) (ol.take z), hd7, HCo1.out hK0 _, ?_, ?_⟩
    · exact (HF5.out.trans (DF.one HG6.out (P := Fp b m F) (.inr (.inl rfl))) (fun _ _ q => q)).trans (DF.one hg7 (P := Fp b m F) (.inl rfl)) (fun _ _ q => q)
    · rintro k (rfl | rfl | ⟨f, hf, hk⟩)
      · exact .inl (.inl rfl)
      · exact .inl (.inr (.inl rfl))
      · rcases mem_setF HD5.out.map.nodup hf with rfl | ⟨hf, _⟩
        · right
          have := HO5.out.block k hk
          have := HF4.out.size
          omega
        · exact .inl (.inr (.inr ⟨f, hf, hk⟩))
  · as_aux_lemma =>
    go_enter_defers Try.func26, Try.ntmps26
    go_wp2_with (first
      | (go_at_call 31; refine HL.out.mono ?_; rintro e w1 ⟨rfl, hd, hg⟩; have HD1 := hid hd; have HF1 := hid (DF.one hg (P := Fp b m F) (.inl rfl)); clear hd hg)
      | (go_at_call 47; refine (HFi.out _ HD1.out).mono ?_; rintro e w2 ⟨rfl, hg⟩; have HD2 := hid (HD1.out.keep hg); have HF2 := hid (HF1.out.trans (DF.of (P := Fp b m F) hg) (fun _ _ q => q)); clear hg)
      | (go_at_call 46; refine (HWr.out _ HD2.out).mono ?_; rintro e w4 ⟨rfl, hd, hg⟩; have HD4 := hid hd; have HF4 := hid (HF2.out.trans (DF.one hg (P := Fp b m F) (.inl rfl)) (fun _ _ q => q)); clear hd hg))
    refine leaves_cons (f := 32) (args := #[.pointer (some ⟨b, 0, none⟩)]) (by simp) (by simp [go_sem]) ?_
    refine (unlock_any .returning HD4.out).mono ?_
    rintro e u' w7 ⟨rfl, rfl, hd7, hg7⟩
    exact ⟨_, results_tmp rfl _ _ _, rfl, F, hd7, HCo2.out hK0, HF4.out.trans (DF.one hg7 (P := Fp b m F) (.inl rfl)) (fun _ _ q => q), fun k hk => .inl hk⟩
set_option maxRecDepth 100000 in
set_option maxHeartbeats 1600000 in
theorem cut_no1 (h : Dk w B b m 0 room off wr ar kp F) (s : ByteArray) (z : Int) (he : findE off F s ≠ 0) :
    Calls Try.prog 26 #[.pointer (some ⟨b, 0, none⟩), .string s, .int .i64 z] w fun e w' => e = .returned (.int .i64 (findE off F s)) ∧ w.grownBy w' none := by
  have HD := hid h
  have HL := hid (lock_any h)
  obtain ⟨E, hE⟩ : ∃ x, findE off F s = x := ⟨_, rfl⟩
  have hfv0 : findV off F s = .slice none 0 0 := by unfold findV; rw [if_neg he]
  have HFi : Hid (∀ u, Dk u B b m 1 room off wr ar kp F → Calls Try.prog 47 #[.pointer (some ⟨b, 0, none⟩), .string s] u fun e w' => e = .returned (.tuple #[.slice none 0 0, .int .i64 E]) ∧ u.grownBy w' none) := fun u hu => by
    have := find_any hu s
    rw [hfv0, hE] at this
    exact this
  rw [hE] at he ⊢
  have he' : (E == 0) = false := beq_eq_false_iff_ne.2 he
  clear h hE hfv0
  go_enter_defers Try.func26, Try.ntmps26
  go_wp2_with (first
    | (go_at_call 31; refine HL.out.mono ?_; rintro e w1 ⟨rfl, hd, hg⟩; have HD1 := hid hd; have HG1 := hid hg; clear hd hg)
    | (go_at_call 47; refine (HFi.out _ HD1.out).mono ?_; rintro e w2 ⟨rfl, hg⟩; have HD2 := hid (HD1.out.keep hg); have HG2 := hid (HG1.out.andThen hg (fun j hj => by cases hj)); clear hg))
  refine leaves_cons (f := 32) (args := #[.pointer (some ⟨b, 0, none⟩)]) (by simp) (by simp [go_sem]) ?_
  refine (unlock_any .returning HD2.out).mono ?_
  rintro e u' w3 ⟨rfl, rfl, hd3, hg3⟩
  exact ⟨_, results_tmp rfl _ _ _, rfl, back_same HD.out.blk (gtrans HG2.out hg3) hd3.blk⟩
set_option maxRecDepth 100000 in
set_option maxHeartbeats 1600000 in
theorem cut_no2 (h : Dk w B b m 0 room off wr ar kp F) (s : ByteArray) (z : Int) (he : findE off F s = 0) (hz : z < 0 ∨ ((oldB F s).length : Int) < z) :
    Calls Try.prog 26 #[.pointer (some ⟨b, 0, none⟩), .string s, .int .i64 z] w fun e w' => e = .returned (.int .i64 95) ∧ w.grownBy w' none := by
  have HD := hid h
  have HL := hid (lock_any h)
  have hfv0 : findV off F s = lookV F s := by unfold findV; rw [if_pos he]
  obtain ⟨fa, fc, hfv⟩ := (h.look s).1.len
  obtain ⟨fn, hfn⟩ : ∃ x, (oldB F s).length = x := ⟨_, rfl⟩
  rw [hfn] at hfv hz
  have HFi : Hid (∀ u, Dk u B b m 1 room off wr ar kp F → Calls Try.prog 47 #[.pointer (some ⟨b, 0, none⟩), .string s] u fun e w' => e = .returned (.tuple #[.slice fa fn fc, .int .i64 0]) ∧ u.grownBy w' none) := fun u hu => by
    have := find_any hu s
    rw [he, hfv0, hfv] at this
    exact this
  clear h he hfv0 hfv hfn
  by_cases hz1 : z < 0
  · clear hz
    go_enter_defers Try.func26, Try.ntmps26
    go_wp2_with (first
      | (go_at_call 31; refine HL.out.mono ?_; rintro e w1 ⟨rfl, hd, hg⟩; have HD1 := hid hd; have HG1 := hid hg; clear hd hg)
      | (go_at_call 47; refine (HFi.out _ HD1.out).mono ?_; rintro e w2 ⟨rfl, hg⟩; have HD2 := hid (HD1.out.keep hg); have HG2 := hid (HG1.out.andThen hg (fun j hj => by cases hj)); clear hg))
    refine leaves_cons (f := 32) (args := #[.pointer (some ⟨b, 0, none⟩)]) (by simp) (by simp [go_sem]) ?_
    refine (unlock_any .returning HD2.out).mono ?_
    rintro e u' w3 ⟨rfl, rfl, hd3, hg3⟩
    exact ⟨_, results_tmp rfl _ _ _, rfl, back_same HD.out.blk (gtrans HG2.out hg3) hd3.blk⟩
  · have hz2 : (fn : Int) < z := by omega
    clear hz
    go_enter_defers Try.func26, Try.ntmps26
    go_wp2_with (first
      | (go_at_call 31; refine HL.out.mono ?_; rintro e w1 ⟨rfl, hd, hg⟩; have HD1 := hid hd; have HG1 := hid hg; clear hd hg)
      | (go_at_call 47; refine (HFi.out _ HD1.out).mono ?_; rintro e w2 ⟨rfl, hg⟩; have HD2 := hid (HD1.out.keep hg); have HG2 := hid (HG1.out.andThen hg (fun j hj => by cases hj)); clear hg))
    refine leaves_cons (f := 32) (args := #[.pointer (some ⟨b, 0, none⟩)]) (by simp) (by simp [go_sem]) ?_
    refine (unlock_any .returning HD2.out).mono ?_
    rintro e u' w3 ⟨rfl, rfl, hd3, hg3⟩
    exact ⟨_, results_tmp rfl _ _ _, rfl, back_same HD.out.blk (gtrans HG2.out hg3) hd3.blk⟩
end
end Go.Proofs.Ytlgjmdianmijeaa
