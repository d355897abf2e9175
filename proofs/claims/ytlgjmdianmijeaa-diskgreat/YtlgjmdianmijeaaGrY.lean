/- DiskGreat's walk. -/
import Derived.Test.YtlgjmdianmijeaaGrX
namespace Go.Proofs.Ytlgjmdianmijeaa
open Go Go.RowKit Go.MuLone
open Go.RowKit (wrap32 wrap64)

/-- A row of zeros that was made. -/
theorem make2 (w : World) (n : Nat) (hn : n ≤ 140737488355328) : ∃ w', (Instr.makeSlice 33 (.int .i64 (n : Int)) (.int .i64 (n : Int))).run Try.prog w = .ok (.slice (some ⟨w.heap.size, 0, none⟩) n n) w' ∧ Hid (Rd w' (fun g => w.heap.size = g) (.slice (some ⟨w.heap.size, 0, none⟩) n n) (List.replicate n 0) ∧ w.grownBy w' none ∧ w.heap.size < w'.heap.size) := by
  obtain ⟨w', h1, h2, h3⟩ := make_any w n hn
  refine ⟨w', h1, hid ⟨h2, h3, ?_⟩⟩
  have := run_make_row' (P := Try.prog) 33 5 (.int .u8 0) 1 Try.underlying33 Try.info5 rfl .i64 .i64 n (by omega) (by omega) w
  rw [h1] at this
  injection this with _ this
  rw [this]
  simp
theorem fit1 {room wr : Int} {C : Cn} {s : ByteArray} {n : Nat} (h1 : C.length < 64) (h2 : (n : Int) ≤ room - (usedC C : Nat)) : (calm room wr C).fits s n = true := by
  unfold Ab.fits
  rw [show decide ((calm room wr C).C.length < 64) = true from decide_eq_true h1, Bool.or_true, Bool.true_and]
  exact decide_eq_true h2
theorem used1 (s : ByteArray) (l : List UInt8) : usedC [(s, l)] = l.length := by simp [usedC]
theorem get1 (s : ByteArray) (l : List UInt8) : getC [(s, l)] s = some l := by unfold getC; rw [if_pos rfl]
theorem set1 (s : ByteArray) (l l' : List UInt8) : setC [(s, l)] s l' = [(s, l')] := by unfold setC; rw [if_pos rfl]
/-- Files that were laid in a row of their own. -/
theorem files_arg {u w' : World} {s : ByteArray} {a : Option Addr} {n c : Nat} {l : List UInt8} {Fr : Nat → Prop} (hr : Rd u Fr (.slice a n c) l) (hb : Blk w' u.heap.size [.string s, .slice a n c] 58) (hg : u.grownBy w' none) : ArF w' (fun _ => True) (some ⟨u.heap.size, 0, none⟩) u.heap.size 0 [(s, l)] := by
  refine ⟨fun _ => ⟨rfl, hb.lt, trivial⟩, fun i hi => ?_⟩
  have : i = 0 := by simp at hi; exact hi
  subst this
  exact ⟨hb.cell 0, _, hb.cell 1, (hr.keep hg).mono (fun _ _ _ => trivial)⟩
set_option maxRecDepth 100000 in
set_option maxHeartbeats 8000000 in
theorem great_walk (x : Int) (w : World) : Calls Try.prog 5 #[.int .i64 x] w fun e w' => e = .returned (.bool true) ∧ w.grownBy w' none := by
  have HWi := hid (within_any x 33554433 (by omega) (by omega) w)
  have HWk : Hid (∀ u : World, Calls Try.prog 10 #[] u fun e w' => e = .returned (.bool true) ∧ u.grownBy w' none) := fun u => works_any u
  have HNu : Hid (∀ (E : Int) (u : World), Calls Try.prog 9 #[.int .i64 E] u fun e w' => e = .returned (.int .i64 E) ∧ w' = u) := num_any
  go_enter Try.func5, Try.ntmps5
  go_upto_region 3 with (go_at_call 7; refine HWi.out.mono ?_; rintro e w1 ⟨⟨r, hr, rfl⟩, hw⟩; have HE1 := hid hw; clear hw)
  have HG1 : Hid (w.grownBy w1 none) := hid (by rw [HE1.out]; exact grefl _ _)
  clear HE1 HWi
  by_cases hr0 : r = 0
  · as_aux_lemma =>
    subst hr0
    clear hr
    obtain ⟨w2, hm2, HQ2⟩ := make2 w1 0 (by omega)
    have hm2' : (Instr.makeSlice 33 (.int .i64 0) (.int .i64 0)).run Try.prog w1 = .ok (.slice (some ⟨w1.heap.size, 0, none⟩) 0 0) w2 := hm2
    clear hm2
    obtain ⟨g1, hg1⟩ : ∃ x, w1.heap.size = x := ⟨_, rfl⟩
    rw [hg1] at hm2' HQ2
    have HNw : Hid (Calls Try.prog 8 #[.int .i64 1] w2 fun e w' => ∃ b, e = .returned (.tuple #[.pointer (some ⟨b, 0, none⟩), .int .i64 0]) ∧ Wd w2 w' b (calm 1 0 [])) := hid ((new_ok w2 1 (by omega) (by omega)).mono fun e w' ⟨b, h1, h2, h3⟩ => ⟨b, h1, h2, h3⟩)
    go_upto_region 9 with (first
      | (go_at_call 8; refine HNw.out.mono ?_; rintro e w3 ⟨b, rfl, hd⟩; have HD3 := hid hd; clear hd)
      | (go_at_call 9; refine (HNu.out _ _).mono ?_; rintro e wn ⟨rfl, hwn⟩; have hwn' := hwn.symm; clear hwn; subst hwn')
      | (go_at_call 10; refine (HWk.out _).mono ?_; rintro e w4 ⟨rfl, hg⟩; have HD4 := hid (HD3.out.keep hg); clear hg))
    have HF1 : Hid ((calm 1 0 []).appE na (List.replicate 0 0) = 0 ∧ (calm 1 0 []).app na (List.replicate 0 0) = calm 1 1 [(na, List.replicate 0 0)]) := hid (by
      have := app_calm (room := 1) (wr := 0) (C := []) (s := na) (l := List.replicate 0 0) ref_a (fit1 (by show 0 < 64; omega) (by rw [List.length_replicate]; show _ ≤ 1 - ((0 : Nat) : Int); omega)) (by rw [List.length_replicate]; omega)
      exact this)
    have HA5 : Hid (Calls Try.prog 25 #[.pointer (some ⟨b, 0, none⟩), .string ⟨#[97]⟩, .slice (some ⟨g1, 0, none⟩) 0 0] w4 fun e w' => e = .returned (.int .i64 0) ∧ Wd w2 w' b (calm 1 1 [(na, List.replicate 0 0)])) := hid (by
      have h1 := HD4.out
      have h2 := append_p h1.1 na (fun k => g1 = k) _ _ _ (List.replicate 0 0) (HQ2.out.1.keep h1.2) (fun k e q => by have := HQ2.out.2.2; omega) (by show (0 : Int) ≤ _; omega)
      rw [HF1.out.1, HF1.out.2] at h2
      exact h2.mono fun e w' ⟨q1, q2, q3⟩ => ⟨q1, h1.step q2 q3⟩)
    go_upto_region 10 with (go_at_call 25; refine HA5.out.mono ?_; rintro e w5 ⟨rfl, hd⟩; have HD5 := hid hd; clear hd)
    obtain ⟨w6, hm6, HQ6⟩ := make2 w5 2 (by omega)
    have hm6' : (Instr.makeSlice 33 (.int .i64 2) (.int .i64 2)).run Try.prog w5 = .ok (.slice (some ⟨w5.heap.size, 0, none⟩) 2 2) w6 := hm6
    clear hm6
    obtain ⟨g2, hg2⟩ : ∃ x, w5.heap.size = x := ⟨_, rfl⟩
    rw [hg2] at hm6' HQ6
    have HF2 : Hid ((calm 1 1 [(na, List.replicate 0 0)]).appE na (List.replicate 2 0) = 93 ∧ (calm 1 1 [(na, List.replicate 0 0)]).app na (List.replicate 2 0) = calm 1 1 [(na, List.replicate 0 0)]) := hid (app_full ref_a (by rw [used1, List.length_replicate, List.length_replicate]; omega))
    have HA7 : Hid (Calls Try.prog 25 #[.pointer (some ⟨b, 0, none⟩), .string ⟨#[97]⟩, .slice (some ⟨g2, 0, none⟩) 2 2] w6 fun e w' => e = .returned (.int .i64 93) ∧ Wd w2 w' b (calm 1 1 [(na, List.replicate 0 0)])) := hid (by
      have h1 := HD5.out
      have h1' := h1.keep HQ6.out.2.1
      have h2 := append_p (h1.1.keep HQ6.out.2.1) na (fun k => g2 = k) _ _ _ (List.replicate 2 0) HQ6.out.1 (fun k e q => by omega) (by show (1 : Int) ≤ _; omega)
      rw [HF2.out.1, HF2.out.2] at h2
      exact h2.mono fun e w' ⟨q1, q2, q3⟩ => ⟨q1, h1'.step q2 (q3.mono (fun k q => ⟨q.1, by have := HQ6.out.2.2; omega⟩))⟩)
    go_upto_region 13 with (first
      | (go_at_call 25; refine HA7.out.mono ?_; rintro e w7 ⟨rfl, hd⟩; have HD7 := hid hd; clear hd)
      | (go_at_call 9; refine (HNu.out _ _).mono ?_; rintro e wn ⟨rfl, hwn⟩; have hwn' := hwn.symm; clear hwn; subst hwn'))
    obtain ⟨w8, hm8, HQ8⟩ := make2 w7 2 (by omega)
    have hm8' : (Instr.makeSlice 33 (.int .i64 2) (.int .i64 2)).run Try.prog w7 = .ok (.slice (some ⟨w7.heap.size, 0, none⟩) 2 2) w8 := hm8
    clear hm8
    obtain ⟨g3, hg3⟩ : ∃ x, w7.heap.size = x := ⟨_, rfl⟩
    rw [hg3] at hm8' HQ8
    have hbs := run_files1 ⟨#[98]⟩ (some ⟨g3, 0, none⟩) 2 2 w8
    obtain ⟨w9, hw9⟩ : ∃ x, w8.alloc (.cells #[.string ⟨#[98]⟩, .slice (some ⟨g3, 0, none⟩) 2 2] 58) = x := ⟨_, rfl⟩
    rw [hw9] at hbs
    have HB9 : Hid (Blk w9 w8.heap.size [.string nb, .slice (some ⟨g3, 0, none⟩) 2 2] 58) := hid (by rw [← hw9]; exact Blk.new w8 _ _)
    have HG9 : Hid (w8.grownBy w9 none) := hid (by rw [← hw9]; exact galloc _ _ _)
    have HD9 := hid ((HD7.out.keep HQ8.out.2.1).keep HG9.out)
    have HLd : Hid (Calls Try.prog 24 #[.slice (some ⟨w8.heap.size, 0, none⟩) 1 1, .int .i64 1] w9 fun e w' => e = .returned (.tuple #[.pointer none, .int .i64 96]) ∧ w9.grownBy w' none) := hid (by
      have h1 := load_any w9 _ _ _ _ 1 [(nb, List.replicate 2 0)] 1 (files_arg HQ8.out.1 HB9.out HG9.out) (by show 1 ≤ 1000000; omega) (fun p hp => by rw [List.mem_singleton.1 hp, List.length_replicate]; omega) (by omega)
      have h2 : loadC 1 [] [(nb, List.replicate 2 0)] = none := by
        unfold loadC
        rw [if_neg (fun q => by have := q.2.2.2; rw [List.length_replicate] at this; simp only [usedC, List.map_nil, List.sum_nil] at this; omega)]
      rw [h2] at h1
      refine h1.mono ?_
      rintro e w' ⟨q1, q2 | ⟨C, b', q3, _⟩⟩
      · exact ⟨q2.2, q1⟩
      · cases q3)
    obtain ⟨g4, hg4⟩ : ∃ x, w8.heap.size = x := ⟨_, rfl⟩
    rw [hg4] at HLd hbs HB9
    go_upto_region 16 with (first
      | (with_reducible refine wpList_build_of (by with_unfolding_all rfl) 58 _ (by with_unfolding_all rfl) [(0, .string ⟨#[98]⟩), (1, .slice (some ⟨g3, 0, none⟩) 2 2)] (by with_unfolding_all rfl) [.string ⟨#[98]⟩, .slice (some ⟨g3, 0, none⟩) 2 2] (built58 _ _ _ _) ?_)
      | (go_at_call 24; refine HLd.out.mono ?_; rintro e w10 ⟨rfl, hg⟩; have HD10 := hid (HD9.out.keep hg); clear hg)
      | (go_at_call 9; refine (HNu.out _ _).mono ?_; rintro e wn ⟨rfl, hwn⟩; have hwn' := hwn.symm; clear hwn; subst hwn'))
    have HGe : Hid (∀ u, Wd w2 u b (calm 1 1 [(na, List.replicate 0 0)]) → w.grownBy u none) := hid (fun u hu => gtrans (gtrans HG1.out HQ2.out.2.1) hu.2)
    go_wp2_with fail
    go_ret
    exact ⟨rfl, HGe.out _ HD10.out⟩
  · as_aux_lemma =>
    have hr0' : ¬ (r : Int) = 0 := by omega
    have hrb : ((r : Int) == 0) = false := beq_eq_false_iff_ne.2 hr0'
    obtain ⟨w2, hm2, HQ2⟩ := make2 w1 r (by omega)
    have hm2' : (Instr.makeSlice 33 (.int .i64 (r : Int)) (.int .i64 (r : Int))).run Try.prog w1 = .ok (.slice (some ⟨w1.heap.size, 0, none⟩) r r) w2 := hm2
    clear hm2
    obtain ⟨g1, hg1⟩ : ∃ x, w1.heap.size = x := ⟨_, rfl⟩
    rw [hg1] at hm2' HQ2
    have HNw : Hid (Calls Try.prog 8 #[.int .i64 (r : Int)] w2 fun e w' => ∃ b, e = .returned (.tuple #[.pointer (some ⟨b, 0, none⟩), .int .i64 0]) ∧ Wd w2 w' b (calm (r : Int) 0 [])) := hid ((new_ok w2 (r : Int) (by omega) (by omega)).mono fun e w' ⟨b, h1, h2, h3⟩ => ⟨b, h1, h2, h3⟩)
    go_upto_region 9 with (first
      | (go_at_call 8; refine HNw.out.mono ?_; rintro e w3 ⟨b, rfl, hd⟩; have HD3 := hid hd; clear hd)
      | (go_at_call 9; refine (HNu.out _ _).mono ?_; rintro e wn ⟨rfl, hwn⟩; have hwn' := hwn.symm; clear hwn; subst hwn')
      | (go_at_call 10; refine (HWk.out _).mono ?_; rintro e w4 ⟨rfl, hg⟩; have HD4 := hid (HD3.out.keep hg); clear hg))
    have HF1 : Hid ((calm (r : Int) 0 []).appE na (List.replicate r 0) = 0 ∧ (calm (r : Int) 0 []).app na (List.replicate r 0) = calm (r : Int) 1 [(na, List.replicate r 0)]) := hid (by
      have := app_calm (room := (r : Int)) (wr := 0) (C := []) (s := na) (l := List.replicate r 0) ref_a (fit1 (by show 0 < 64; omega) (by rw [List.length_replicate]; show _ ≤ (r : Int) - ((0 : Nat) : Int); omega)) (by rw [List.length_replicate]; omega)
      exact this)
    have HA5 : Hid (Calls Try.prog 25 #[.pointer (some ⟨b, 0, none⟩), .string ⟨#[97]⟩, .slice (some ⟨g1, 0, none⟩) r r] w4 fun e w' => e = .returned (.int .i64 0) ∧ Wd w2 w' b (calm (r : Int) 1 [(na, List.replicate r 0)])) := hid (by
      have h1 := HD4.out
      have h2 := append_p h1.1 na (fun k => g1 = k) _ _ _ (List.replicate r 0) (HQ2.out.1.keep h1.2) (fun k e q => by have := HQ2.out.2.2; omega) (by show (0 : Int) ≤ _; omega)
      rw [HF1.out.1, HF1.out.2] at h2
      exact h2.mono fun e w' ⟨q1, q2, q3⟩ => ⟨q1, h1.step q2 q3⟩)
    go_upto_region 10 with (go_at_call 25; refine HA5.out.mono ?_; rintro e w5 ⟨rfl, hd⟩; have HD5 := hid hd; clear hd)
    obtain ⟨w6, hm6, HQ6⟩ := make2 w5 1 (by omega)
    have hm6' : (Instr.makeSlice 33 (.int .i64 1) (.int .i64 1)).run Try.prog w5 = .ok (.slice (some ⟨w5.heap.size, 0, none⟩) 1 1) w6 := hm6
    clear hm6
    obtain ⟨g2, hg2⟩ : ∃ x, w5.heap.size = x := ⟨_, rfl⟩
    rw [hg2] at hm6' HQ6
    have HF2 : Hid ((calm (r : Int) 1 [(na, List.replicate r 0)]).appE na (List.replicate 1 0) = 93 ∧ (calm (r : Int) 1 [(na, List.replicate r 0)]).app na (List.replicate 1 0) = calm (r : Int) 1 [(na, List.replicate r 0)]) := hid (app_full ref_a (by rw [used1, List.length_replicate, List.length_replicate]; omega))
    have HA7 : Hid (Calls Try.prog 25 #[.pointer (some ⟨b, 0, none⟩), .string ⟨#[97]⟩, .slice (some ⟨g2, 0, none⟩) 1 1] w6 fun e w' => e = .returned (.int .i64 93) ∧ Wd w2 w' b (calm (r : Int) 1 [(na, List.replicate r 0)])) := hid (by
      have h1 := HD5.out
      have h1' := h1.keep HQ6.out.2.1
      have h2 := append_p (h1.1.keep HQ6.out.2.1) na (fun k => g2 = k) _ _ _ (List.replicate 1 0) HQ6.out.1 (fun k e q => by omega) (by show (1 : Int) ≤ _; omega)
      rw [HF2.out.1, HF2.out.2] at h2
      exact h2.mono fun e w' ⟨q1, q2, q3⟩ => ⟨q1, h1'.step q2 (q3.mono (fun k q => ⟨q.1, by have := HQ6.out.2.2; omega⟩))⟩)
    go_upto_region 13 with (first
      | (go_at_call 25; refine HA7.out.mono ?_; rintro e w7 ⟨rfl, hd⟩; have HD7 := hid hd; clear hd)
      | (go_at_call 9; refine (HNu.out _ _).mono ?_; rintro e wn ⟨rfl, hwn⟩; have hwn' := hwn.symm; clear hwn; subst hwn'))
    obtain ⟨w8, hm8, HQ8⟩ := make2 w7 (r + 1) (by omega)
    have hm8' : (Instr.makeSlice 33 (.int .i64 ((r : Int) + 1)) (.int .i64 ((r : Int) + 1))).run Try.prog w7 = .ok (.slice (some ⟨w7.heap.size, 0, none⟩) (r + 1) (r + 1)) w8 := hm8
    clear hm8
    obtain ⟨g3, hg3⟩ : ∃ x, w7.heap.size = x := ⟨_, rfl⟩
    rw [hg3] at hm8' HQ8
    have hbs := run_files1 ⟨#[98]⟩ (some ⟨g3, 0, none⟩) (r + 1) (r + 1) w8
    obtain ⟨w9, hw9⟩ : ∃ x, w8.alloc (.cells #[.string ⟨#[98]⟩, .slice (some ⟨g3, 0, none⟩) (r + 1) (r + 1)] 58) = x := ⟨_, rfl⟩
    rw [hw9] at hbs
    have HB9 : Hid (Blk w9 w8.heap.size [.string nb, .slice (some ⟨g3, 0, none⟩) (r + 1) (r + 1)] 58) := hid (by rw [← hw9]; exact Blk.new w8 _ _)
    have HG9 : Hid (w8.grownBy w9 none) := hid (by rw [← hw9]; exact galloc _ _ _)
    have HD9 := hid ((HD7.out.keep HQ8.out.2.1).keep HG9.out)
    have HLd : Hid (Calls Try.prog 24 #[.slice (some ⟨w8.heap.size, 0, none⟩) 1 1, .int .i64 (r : Int)] w9 fun e w' => e = .returned (.tuple #[.pointer none, .int .i64 96]) ∧ w9.grownBy w' none) := hid (by
      have h1 := load_any w9 _ _ _ _ 1 [(nb, List.replicate (r + 1) 0)] (r : Int) (files_arg HQ8.out.1 HB9.out HG9.out) (by show 1 ≤ 1000000; omega) (fun p hp => by rw [List.mem_singleton.1 hp, List.length_replicate]; omega) (by omega)
      have h2 : loadC (r : Int) [] [(nb, List.replicate (r + 1) 0)] = none := by
        unfold loadC
        rw [if_neg (fun q => by have := q.2.2.2; rw [List.length_replicate] at this; simp only [usedC, List.map_nil, List.sum_nil] at this; omega)]
      rw [h2] at h1
      refine h1.mono ?_
      rintro e w' ⟨q1, q2 | ⟨C, b', q3, _⟩⟩
      · exact ⟨q2.2, q1⟩
      · cases q3)
    obtain ⟨g4, hg4⟩ : ∃ x, w8.heap.size = x := ⟨_, rfl⟩
    rw [hg4] at HLd hbs HB9
    go_upto_region 16 with (first
      | (with_reducible refine wpList_build_of (by with_unfolding_all rfl) 58 _ (by with_unfolding_all rfl) [(0, .string ⟨#[98]⟩), (1, .slice (some ⟨g3, 0, none⟩) (r + 1) (r + 1))] (by with_unfolding_all rfl) [.string ⟨#[98]⟩, .slice (some ⟨g3, 0, none⟩) (r + 1) (r + 1)] (built58 _ _ _ _) ?_)
      | (go_at_call 24; refine HLd.out.mono ?_; rintro e w10 ⟨rfl, hg⟩; have HD10 := hid (HD9.out.keep hg); clear hg)
      | (go_at_call 9; refine (HNu.out _ _).mono ?_; rintro e wn ⟨rfl, hwn⟩; have hwn' := hwn.symm; clear hwn; subst hwn'))
    have HGe : Hid (∀ u, Wd w2 u b (calm (r : Int) 1 [(na, List.replicate r 0)]) → w.grownBy u none) := hid (fun u hu => gtrans (gtrans HG1.out HQ2.out.2.1) hu.2)
    have hwr1 : IntKind.i64.wrap ((r : Int) - 1) = (r : Int) - 1 := by rw [IntKind.wrap_i64]; omega
    have HF3 : Hid ((calm (r : Int) 1 [(na, List.replicate r 0)]).cutE na ((r : Int) - 1) = 0 ∧ (calm (r : Int) 1 [(na, List.replicate r 0)]).cut na ((r : Int) - 1) = calm (r : Int) 2 [(na, List.replicate (r - 1) 0)]) := hid (by
      have := cut_calm (room := (r : Int)) (wr := 1) (C := [(na, List.replicate r 0)]) (s := na) (l := List.replicate r 0) (z := (r : Int) - 1) ref_a (get1 _ _) (by omega) (by rw [List.length_replicate]; omega)
      rw [set1, List.take_replicate, show min ((r : Int) - 1).toNat r = r - 1 by omega] at this
      exact this)
    have HA11 : Hid (Calls Try.prog 26 #[.pointer (some ⟨b, 0, none⟩), .string ⟨#[97]⟩, .int .i64 ((r : Int) - 1)] w10 fun e w' => e = .returned (.int .i64 0) ∧ Wd w2 w' b (calm (r : Int) 2 [(na, List.replicate (r - 1) 0)])) := hid (by
      have h1 := HD10.out
      have h2 := cut_p h1.1 na ((r : Int) - 1) (by show (1 : Int) ≤ _; omega)
      rw [HF3.out.1, HF3.out.2] at h2
      exact h2.mono fun e w' ⟨q1, q2, q3⟩ => ⟨q1, h1.step q2 q3⟩)
    have HF4 : Hid ((calm (r : Int) 2 [(na, List.replicate (r - 1) 0)]).appE nb [120] = 0 ∧ (calm (r : Int) 2 [(na, List.replicate (r - 1) 0)]).app nb [120] = calm (r : Int) 3 [(na, List.replicate (r - 1) 0), (nb, [120])]) := hid (by
      have := app_calm (room := (r : Int)) (wr := 2) (C := [(na, List.replicate (r - 1) 0)]) (s := nb) (l := [120]) ref_b (fit1 (by show 1 < 64; omega) (by rw [used1, List.length_replicate]; show ((1 : Nat) : Int) ≤ _; omega)) (by show ((1 : Nat) : Int) ≤ _; omega)
      exact this)
    have HA12 : Hid (∀ u, Wd w2 u b (calm (r : Int) 2 [(na, List.replicate (r - 1) 0)]) → Calls Try.prog 25 #[.pointer (some ⟨b, 0, none⟩), .string ⟨#[98]⟩, .slice (some ⟨u.heap.size, 0, none⟩) 1 1] (u.alloc (.cells #[.int .u8 120] 5 (1, 2))) fun e w' => e = .returned (.int .i64 0) ∧ Wd w2 w' b (calm (r : Int) 3 [(na, List.replicate (r - 1) 0), (nb, [120])])) := hid (fun u h => by
      have := h.lit nb [120] #[.int .u8 120] (1, 2) rfl 1 rfl (by show (2 : Int) ≤ _; omega)
      rw [HF4.out.1, HF4.out.2] at this
      exact this)
    have HA13 : Hid (∀ u, Wd w2 u b (calm (r : Int) 3 [(na, List.replicate (r - 1) 0), (nb, [120])]) → Calls Try.prog 27 #[.pointer (some ⟨b, 0, none⟩), .string ⟨#[97]⟩] u fun e w' => e = .returned (.tuple #[.int .i64 ((r : Int) - 1), .int .i64 0]) ∧ w.grownBy w' none) := hid (fun u h => by
      have h1 := size_p h.1 na
      have h2 := fnd_calm (room := (r : Int)) (wr := 3) (C := [(na, List.replicate (r - 1) 0), (nb, [120])]) (s := na) (l := List.replicate (r - 1) 0) ref_a (by unfold getC; rw [if_pos rfl])
      rw [h2.1, h2.2, List.length_replicate, show ((r - 1 : Nat) : Int) = (r : Int) - 1 by omega] at h1
      exact h1.mono fun e w' ⟨q1, q2⟩ => ⟨q1, gtrans (gtrans (gtrans HG1.out HQ2.out.2.1) h.2) q2⟩)
    have hc33 := conv33
    go_wp2_with (first
      | (go_at_call 26; refine HA11.out.mono ?_; rintro e w11 ⟨rfl, hd⟩; have HD11 := hid hd; clear hd)
      | (go_at_call 25; refine (HA12.out _ HD11.out).mono ?_; rintro e w12 ⟨rfl, hd⟩; have HD12 := hid hd; clear hd)
      | (go_at_call 27; refine (HA13.out _ HD12.out).mono ?_; rintro e w13 ⟨rfl, hg⟩; have HG13 := hid hg; clear hg)
      | (go_at_call 9; refine (HNu.out _ _).mono ?_; rintro e wn ⟨rfl, hwn⟩; have hwn' := hwn.symm; clear hwn; subst hwn'))
    go_ret
    exact ⟨rfl, HG13.out⟩
end Go.Proofs.Ytlgjmdianmijeaa
