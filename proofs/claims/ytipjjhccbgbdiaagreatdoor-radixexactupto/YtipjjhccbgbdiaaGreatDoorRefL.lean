/- The walk of the reference's Number10. -/
import Derived.Test.YtipjjhccbgbdiaaGreatDoorRefJ
namespace Go.Proofs.YtipjjhccbgbdiaaGreatDoor
open Go Go.RowKit
open Go.RowKit (wrap32 wrap64)

def mostPos : ByteArray := ⟨#[57, 50, 50, 51, 51, 55, 50, 48, 51, 54, 56, 53, 52, 55, 55, 53, 56, 48, 55]⟩
def mostNeg : ByteArray := ⟨#[57, 50, 50, 51, 51, 55, 50, 48, 51, 54, 56, 53, 52, 55, 55, 53, 56, 48, 56]⟩
theorem mostPos_is : mostPos.data.toList.length = 19 ∧ allIn digL mostPos.data.toList = true ∧ natVal mostPos.data.toList = 9223372036854775807 := by decide +kernel
theorem mostPos_plain : plainB mostPos.data.toList = true := by decide +kernel
theorem mostNeg_plain : plainB mostNeg.data.toList = true := by decide +kernel
theorem mostNeg_is : mostNeg.data.toList.length = 19 ∧ allIn digL mostNeg.data.toList = true ∧ natVal mostNeg.data.toList = 9223372036854775808 := by decide +kernel

set_option maxRecDepth 100000 in
set_option maxHeartbeats 1600000 in
theorem refNumber_pos1 (s D : ByteArray) (d : List UInt8) (w : World) (hd : D.data.toList = d) (hdl : d.length ≤ 1048576) (hs0 : 0 < s.size) (hs1 : s.size ≤ 1048577) (hDs : D = s) (c0 : UInt8) (hc0 : s[0] = c0) (hc45 : c0 ≠ 45) (hz : d = [48]) :
    Calls Tryz.prog 33 #[.string s] w fun e w' => e = .returned (.tuple #[.int .i64 (num10 false d).1, .int .i64 (num10 false d).2]) ∧ w' = w := by
  have hdz : D.size = d.length := by rw [← hd, size_list]
  have hdz2 : D.size ≤ 1048576 := by omega
  have HD := hid (fun w => decimal_any D d w hd hdl)
  have h48 : (D.toList == [48]) = decide (d = [48]) := by
    rw [Lib.toList_data, hd]
    by_cases h : d = [48]
    · simp [h]
    · simp [h]
  have HDL := hid hd
  have HDZ := hid hdz
  have hs0' : 0 < (s.size : Int) := by omega
  clear hd hdz
  subst hDs
  have HM := hid mostPos_is
  obtain ⟨MV, HMV⟩ : ∃ MV : Nat, Hid (MV = 9223372036854775807) := ⟨_, hid rfl⟩
  rw [← HMV.out] at HM
  have q45 : ((c0.toNat : Int) == 45) = false := by
    rw [beq_eq_false_iff_ne]; intro h; apply hc45; apply UInt8.toNat_inj.1; show c0.toNat = 45; omega
  clear hc45
  rw [decide_eq_true hz] at h48
  clear hz
  have hself : (D.toList == D.toList) = true := beq_self_eq_true _
  have HNUM : ∀ (x : Int) (k : Nat), num10 false d = (x, k) → Hid ((num10 false d).1 = x ∧ ((num10 false d).2 : Int) = (k : Int)) := fun x k h => hid (by rw [h]; exact ⟨rfl, rfl⟩)
  cases hp : plainB d with
  | false =>
    rw [hp] at HD
    have HN := HNUM 0 13 (by unfold num10; rw [if_neg (fun k => by rw [hp] at k; exact absurd k.1 (by decide))])
    clear hp HNUM
    go_enter Tryz.func33, Tryz.ntmps33
    go_wp2_with (go_at_call 55; refine (HD.out _).mono ?_; rintro e w' ⟨rfl, hw⟩; have hw' := hw.symm; clear hw; subst hw')
    go_ret2
    rw [HN.out.1, HN.out.2]
    exact ⟨rfl, rfl⟩
  | true =>
    rw [hp] at HD
    have HP := hid hp
    have HALLD := hid (plainB_all d hp)
    clear hp
    have HZ : Hid (¬ (false = true ∧ d = [48])) := hid (fun k => by cases k.1)
    have hcmp : D.size = 19 → Op.bytesLess D.data.toList mostPos.data.toList = decide (natVal d < MV) := by
      intro h
      rw [HDL.out, less_dig d mostPos.data.toList (by rw [HM.out.1, ← HDZ.out, h]) HALLD.out HM.out.2.1, HM.out.2.2]
    have heqm : (D.data.toList == mostPos.data.toList) = decide (natVal d = MV) := by
      rw [HDL.out]
      by_cases h : natVal d = MV
      · rw [decide_eq_true h, beq_iff_eq]
        have h1 := dec_natVal d HP.out
        rw [h, ← HM.out.2.2, dec_natVal mostPos.data.toList mostPos_plain] at h1
        exact h1.symm
      · rw [decide_eq_false h, beq_eq_false_iff_ne]
        intro k
        rw [k] at h
        exact h HM.out.2.2
    rw [← Lib.toList_data D] at hcmp heqm
    have hbig : 19 < D.size → MV < natVal d := by
      intro h
      apply Decidable.byContradiction
      intro k
      have h2 := plain_len d HP.out 18 (by have := HMV.out; omega)
      have := HDZ.out
      omega
    have hsmall : D.size < 19 → natVal d ≤ MV := by
      intro h
      have h2 := natVal_lt d
      have h3 : 10 ^ d.length ≤ 10 ^ 18 := Nat.pow_le_pow_right (by decide) (by have := HDZ.out; omega)
      have := HMV.out
      omega
    by_cases hover : MV < natVal d
    · have HN := HNUM 0 14 (by
        unfold num10
        rw [if_pos ⟨HP.out, HZ.out⟩, if_neg (by have := HMV.out; simp; omega)])
      by_cases h19 : 19 < D.size
      · have h19' : 19 < (D.size : Int) := by omega
        have H19 := hid h19
        clear hcmp hbig hsmall hover HNUM h19 heqm
        go_enter Tryz.func33, Tryz.ntmps33
        go_wp2_with (go_at_call 55; refine (HD.out _).mono ?_; rintro e w' ⟨rfl, hw⟩; have hw' := hw.symm; clear hw; subst hw')
        go_ret2
        rw [HN.out.1, HN.out.2]
        exact ⟨rfl, rfl⟩
      · have he : D.size = 19 := by
          have : ¬ D.size < 19 := fun k => by have := hsmall k; omega
          omega
        have he' : (D.size : Int) = 19 := by omega
        have hcm := hcmp he
        rw [decide_eq_false (by omega)] at hcm
        rw [decide_eq_false (by omega)] at heqm
        have hcm2 : Op.bytesLess D.toList [57, 50, 50, 51, 51, 55, 50, 48, 51, 54, 56, 53, 52, 55, 55, 53, 56, 48, 55] = false := hcm
        have heq2 : (D.toList == [57, 50, 50, 51, 51, 55, 50, 48, 51, 54, 56, 53, 52, 55, 55, 53, 56, 48, 55]) = false := heqm
        have HE := hid he
        clear hcmp hbig hsmall hover HNUM h19 he hcm heqm
        go_enter Tryz.func33, Tryz.ntmps33
        go_wp2_with (go_at_call 55; refine (HD.out _).mono ?_; rintro e w' ⟨rfl, hw⟩; have hw' := hw.symm; clear hw; subst hw')
        go_ret2
        rw [HN.out.1, HN.out.2]
        exact ⟨rfl, rfl⟩
    · have hle : natVal d ≤ MV := by omega
      have HN := HNUM (natVal d : Int) 0 (by
        unfold num10
        rw [if_pos ⟨HP.out, HZ.out⟩, if_pos (by have := HMV.out; simp; omega)]
        rfl)
      have h19 : D.size ≤ 19 := by
        apply Decidable.byContradiction
        intro k
        have := hbig (by omega)
        omega
      have HLE := hid hle
      have h19' : (D.size : Int) ≤ 19 := by omega
      have hrest : ∀ _ : True, Calls Tryz.prog 33 #[.string D] w fun e w' => e = .returned (.tuple #[.int .i64 (natVal d : Int), .int .i64 0]) ∧ w' = w := by
        intro _
        by_cases he : D.size = 19
        · have he' : (D.size : Int) = 19 := by omega
          have hcm := hcmp he
          have HE := hid he
          clear he hcmp hbig hsmall HNUM
          by_cases hq : natVal d = MV
          · rw [decide_eq_true hq] at heqm
            have heq2 : (D.toList == [57, 50, 50, 51, 51, 55, 50, 48, 51, 54, 56, 53, 52, 55, 55, 53, 56, 48, 55]) = true := heqm
            clear hq hcm heqm hover hle
            go_enter Tryz.func33, Tryz.ntmps33
            go_wp2_with (go_at_call 55; refine (HD.out _).mono ?_; rintro e w' ⟨rfl, hw⟩; have hw' := hw.symm; clear hw; subst hw')
            go_loop [6, 7] (fun nv iv => ∃ (i : Nat) (m : Int), i ≤ 19 ∧ iv = .int .i64 i ∧ nv = .int .u64 m ∧ 0 ≤ m ∧ m ≤ 9223372036854775808 ∧ Hid (i ≤ d.length ∧ m = natVal (d.take i))) (fun _ iv => 19 - (intOf iv).toNat)
            case atStart => exact ⟨0, 0, by omega, rfl, rfl, by omega, by omega, hid ⟨Nat.zero_le _, rfl⟩⟩
            case round =>
              as_aux_lemma =>
              obtain ⟨i, m, hi, rfl, rfl, hm0, hm1, HI⟩ := hrel
              by_cases hlt : i < D.size
              · have hlt' : (i : Int) < (D.size : Int) := by omega
                have hll' : i < d.length := by have := HDZ.out; omega
                have hat : D[i] = d[i] := by
                  have h1 := at_list D i hlt
                  rw [HDL.out] at h1
                  rw [h1]
                  simp [List.getD, List.getElem?_eq_getElem hll']
                obtain ⟨c, HC⟩ : ∃ c : UInt8, Hid (c = d[i]) := ⟨_, hid rfl⟩
                have hc : D[i] = c := by rw [hat, HC.out]
                clear hat
                have hin := (dig_in c).1.1 ((allIn_iff _ _).1 HALLD.out c (by rw [HC.out]; exact List.getElem_mem hll'))
                have hvl := (dig_in c).2 hin
                obtain ⟨y, HY⟩ : ∃ y : Int, Hid ((c.toNat : Int) = y) := ⟨_, hid rfl⟩
                have hy := HY.out
                have hy0 : 48 ≤ y := by omega
                have hy1 : y ≤ 57 := by omega
                have hnx : 10 * natVal (d.take i) + val digL c = natVal (d.take (i + 1)) := by rw [List.take_succ_eq_append_getElem hll', natVal_snoc, ← HC.out]
                have hmx : 10 * m + (y - 48) ≤ 9223372036854775808 := by
                  have h5 := natVal_take_le d (i + 1)
                  have := HI.out.2
                  have := HLE.out
                  have := HMV.out
                  omega
                have HNX := hid (And.intro hnx hvl)
                clear hnx hvl hin
                go_wp2
                refine ⟨⟨i + 1, 10 * m + (y - 48), by omega, by go_num, by go_num, by omega, by omega, hid ⟨by omega, ?_⟩⟩, by simp [intOf]; omega⟩
                have := HNX.out
                have := HI.out.2
                have := HY.out
                omega
              · have hge : (D.size : Int) ≤ (i : Int) := by omega
                have hm : m = natVal d := by
                  have := HI.out.2
                  rw [show i = d.length by have := HDZ.out; have := HI.out.1; omega, List.take_length] at this
                  exact this
                have HMM := hid hm
                clear hm
                have hm2 : m ≤ 9223372036854775807 := by have := HMM.out; have := HLE.out; have := HMV.out; omega
                go_wp2
                go_ret2
                rw [← HMM.out]
                exact ⟨rfl, rfl⟩
          · rw [decide_eq_true (by omega)] at hcm
            have hcm2 : Op.bytesLess D.toList [57, 50, 50, 51, 51, 55, 50, 48, 51, 54, 56, 53, 52, 55, 55, 53, 56, 48, 55] = true := hcm
            clear hq hcm heqm hover hle
            go_enter Tryz.func33, Tryz.ntmps33
            go_wp2_with (go_at_call 55; refine (HD.out _).mono ?_; rintro e w' ⟨rfl, hw⟩; have hw' := hw.symm; clear hw; subst hw')
            go_loop [6, 7] (fun nv iv => ∃ (i : Nat) (m : Int), i ≤ 19 ∧ iv = .int .i64 i ∧ nv = .int .u64 m ∧ 0 ≤ m ∧ m ≤ 9223372036854775808 ∧ Hid (i ≤ d.length ∧ m = natVal (d.take i))) (fun _ iv => 19 - (intOf iv).toNat)
            case atStart => exact ⟨0, 0, by omega, rfl, rfl, by omega, by omega, hid ⟨Nat.zero_le _, rfl⟩⟩
            case round =>
              as_aux_lemma =>
              obtain ⟨i, m, hi, rfl, rfl, hm0, hm1, HI⟩ := hrel
              by_cases hlt : i < D.size
              · have hlt' : (i : Int) < (D.size : Int) := by omega
                have hll' : i < d.length := by have := HDZ.out; omega
                have hat : D[i] = d[i] := by
                  have h1 := at_list D i hlt
                  rw [HDL.out] at h1
                  rw [h1]
                  simp [List.getD, List.getElem?_eq_getElem hll']
                obtain ⟨c, HC⟩ : ∃ c : UInt8, Hid (c = d[i]) := ⟨_, hid rfl⟩
                have hc : D[i] = c := by rw [hat, HC.out]
                clear hat
                have hin := (dig_in c).1.1 ((allIn_iff _ _).1 HALLD.out c (by rw [HC.out]; exact List.getElem_mem hll'))
                have hvl := (dig_in c).2 hin
                obtain ⟨y, HY⟩ : ∃ y : Int, Hid ((c.toNat : Int) = y) := ⟨_, hid rfl⟩
                have hy := HY.out
                have hy0 : 48 ≤ y := by omega
                have hy1 : y ≤ 57 := by omega
                have hnx : 10 * natVal (d.take i) + val digL c = natVal (d.take (i + 1)) := by rw [List.take_succ_eq_append_getElem hll', natVal_snoc, ← HC.out]
                have hmx : 10 * m + (y - 48) ≤ 9223372036854775808 := by
                  have h5 := natVal_take_le d (i + 1)
                  have := HI.out.2
                  have := HLE.out
                  have := HMV.out
                  omega
                have HNX := hid (And.intro hnx hvl)
                clear hnx hvl hin
                go_wp2
                refine ⟨⟨i + 1, 10 * m + (y - 48), by omega, by go_num, by go_num, by omega, by omega, hid ⟨by omega, ?_⟩⟩, by simp [intOf]; omega⟩
                have := HNX.out
                have := HI.out.2
                have := HY.out
                omega
              · have hge : (D.size : Int) ≤ (i : Int) := by omega
                have hm : m = natVal d := by
                  have := HI.out.2
                  rw [show i = d.length by have := HDZ.out; have := HI.out.1; omega, List.take_length] at this
                  exact this
                have HMM := hid hm
                clear hm
                have hm2 : m ≤ 9223372036854775807 := by have := HMM.out; have := HLE.out; have := HMV.out; omega
                go_wp2
                go_ret2
                rw [← HMM.out]
                exact ⟨rfl, rfl⟩
        · have he' : (D.size : Int) < 19 := by omega
          have heb : ((D.size : Int) == 19) = false := beq_eq_false_iff_ne.2 (by omega)
          have HE := hid he
          clear he hcmp hbig hsmall hover HNUM hle heqm
          go_enter Tryz.func33, Tryz.ntmps33
          go_wp2_with (go_at_call 55; refine (HD.out _).mono ?_; rintro e w' ⟨rfl, hw⟩; have hw' := hw.symm; clear hw; subst hw')
          go_loop [6, 7] (fun nv iv => ∃ (i : Nat) (m : Int), i ≤ 19 ∧ iv = .int .i64 i ∧ nv = .int .u64 m ∧ 0 ≤ m ∧ m ≤ 9223372036854775808 ∧ Hid (i ≤ d.length ∧ m = natVal (d.take i))) (fun _ iv => 19 - (intOf iv).toNat)
          case atStart => exact ⟨0, 0, by omega, rfl, rfl, by omega, by omega, hid ⟨Nat.zero_le _, rfl⟩⟩
          case round =>
            as_aux_lemma =>
            obtain ⟨i, m, hi, rfl, rfl, hm0, hm1, HI⟩ := hrel
            by_cases hlt : i < D.size
            · have hlt' : (i : Int) < (D.size : Int) := by omega
              have hll' : i < d.length := by have := HDZ.out; omega
              have hat : D[i] = d[i] := by
                have h1 := at_list D i hlt
                rw [HDL.out] at h1
                rw [h1]
                simp [List.getD, List.getElem?_eq_getElem hll']
              obtain ⟨c, HC⟩ : ∃ c : UInt8, Hid (c = d[i]) := ⟨_, hid rfl⟩
              have hc : D[i] = c := by rw [hat, HC.out]
              clear hat
              have hin := (dig_in c).1.1 ((allIn_iff _ _).1 HALLD.out c (by rw [HC.out]; exact List.getElem_mem hll'))
              have hvl := (dig_in c).2 hin
              obtain ⟨y, HY⟩ : ∃ y : Int, Hid ((c.toNat : Int) = y) := ⟨_, hid rfl⟩
              have hy := HY.out
              have hy0 : 48 ≤ y := by omega
              have hy1 : y ≤ 57 := by omega
              have hnx : 10 * natVal (d.take i) + val digL c = natVal (d.take (i + 1)) := by rw [List.take_succ_eq_append_getElem hll', natVal_snoc, ← HC.out]
              have hmx : 10 * m + (y - 48) ≤ 9223372036854775808 := by
                have h5 := natVal_take_le d (i + 1)
                have := HI.out.2
                have := HLE.out
                have := HMV.out
                omega
              have HNX := hid (And.intro hnx hvl)
              clear hnx hvl hin
              go_wp2
              refine ⟨⟨i + 1, 10 * m + (y - 48), by omega, by go_num, by go_num, by omega, by omega, hid ⟨by omega, ?_⟩⟩, by simp [intOf]; omega⟩
              have := HNX.out
              have := HI.out.2
              have := HY.out
              omega
            · have hge : (D.size : Int) ≤ (i : Int) := by omega
              have hm : m = natVal d := by
                have := HI.out.2
                rw [show i = d.length by have := HDZ.out; have := HI.out.1; omega, List.take_length] at this
                exact this
              have HMM := hid hm
              clear hm
              have hm2 : m ≤ 9223372036854775807 := by have := HMM.out; have := HLE.out; have := HMV.out; omega
              go_wp2
              go_ret2
              rw [← HMM.out]
              exact ⟨rfl, rfl⟩
      rw [HN.out.1, HN.out.2]
      exact hrest trivial

set_option maxRecDepth 100000 in
set_option maxHeartbeats 1600000 in
theorem refNumber_pos0 (s D : ByteArray) (d : List UInt8) (w : World) (hd : D.data.toList = d) (hdl : d.length ≤ 1048576) (hs0 : 0 < s.size) (hs1 : s.size ≤ 1048577) (hDs : D = s) (c0 : UInt8) (hc0 : s[0] = c0) (hc45 : c0 ≠ 45) (hz : ¬ d = [48]) :
    Calls Tryz.prog 33 #[.string s] w fun e w' => e = .returned (.tuple #[.int .i64 (num10 false d).1, .int .i64 (num10 false d).2]) ∧ w' = w := by
  have hdz : D.size = d.length := by rw [← hd, size_list]
  have hdz2 : D.size ≤ 1048576 := by omega
  have HD := hid (fun w => decimal_any D d w hd hdl)
  have h48 : (D.toList == [48]) = decide (d = [48]) := by
    rw [Lib.toList_data, hd]
    by_cases h : d = [48]
    · simp [h]
    · simp [h]
  have HDL := hid hd
  have HDZ := hid hdz
  have hs0' : 0 < (s.size : Int) := by omega
  clear hd hdz
  subst hDs
  have HM := hid mostPos_is
  obtain ⟨MV, HMV⟩ : ∃ MV : Nat, Hid (MV = 9223372036854775807) := ⟨_, hid rfl⟩
  rw [← HMV.out] at HM
  have q45 : ((c0.toNat : Int) == 45) = false := by
    rw [beq_eq_false_iff_ne]; intro h; apply hc45; apply UInt8.toNat_inj.1; show c0.toNat = 45; omega
  clear hc45
  rw [decide_eq_false hz] at h48
  clear hz
  have hself : (D.toList == D.toList) = true := beq_self_eq_true _
  have HNUM : ∀ (x : Int) (k : Nat), num10 false d = (x, k) → Hid ((num10 false d).1 = x ∧ ((num10 false d).2 : Int) = (k : Int)) := fun x k h => hid (by rw [h]; exact ⟨rfl, rfl⟩)
  cases hp : plainB d with
  | false =>
    rw [hp] at HD
    have HN := HNUM 0 13 (by unfold num10; rw [if_neg (fun k => by rw [hp] at k; exact absurd k.1 (by decide))])
    clear hp HNUM
    go_enter Tryz.func33, Tryz.ntmps33
    go_wp2_with (go_at_call 55; refine (HD.out _).mono ?_; rintro e w' ⟨rfl, hw⟩; have hw' := hw.symm; clear hw; subst hw')
    go_ret2
    rw [HN.out.1, HN.out.2]
    exact ⟨rfl, rfl⟩
  | true =>
    rw [hp] at HD
    have HP := hid hp
    have HALLD := hid (plainB_all d hp)
    clear hp
    have HZ : Hid (¬ (false = true ∧ d = [48])) := hid (fun k => by cases k.1)
    have hcmp : D.size = 19 → Op.bytesLess D.data.toList mostPos.data.toList = decide (natVal d < MV) := by
      intro h
      rw [HDL.out, less_dig d mostPos.data.toList (by rw [HM.out.1, ← HDZ.out, h]) HALLD.out HM.out.2.1, HM.out.2.2]
    have heqm : (D.data.toList == mostPos.data.toList) = decide (natVal d = MV) := by
      rw [HDL.out]
      by_cases h : natVal d = MV
      · rw [decide_eq_true h, beq_iff_eq]
        have h1 := dec_natVal d HP.out
        rw [h, ← HM.out.2.2, dec_natVal mostPos.data.toList mostPos_plain] at h1
        exact h1.symm
      · rw [decide_eq_false h, beq_eq_false_iff_ne]
        intro k
        rw [k] at h
        exact h HM.out.2.2
    rw [← Lib.toList_data D] at hcmp heqm
    have hbig : 19 < D.size → MV < natVal d := by
      intro h
      apply Decidable.byContradiction
      intro k
      have h2 := plain_len d HP.out 18 (by have := HMV.out; omega)
      have := HDZ.out
      omega
    have hsmall : D.size < 19 → natVal d ≤ MV := by
      intro h
      have h2 := natVal_lt d
      have h3 : 10 ^ d.length ≤ 10 ^ 18 := Nat.pow_le_pow_right (by decide) (by have := HDZ.out; omega)
      have := HMV.out
      omega
    by_cases hover : MV < natVal d
    · have HN := HNUM 0 14 (by
        unfold num10
        rw [if_pos ⟨HP.out, HZ.out⟩, if_neg (by have := HMV.out; simp; omega)])
      by_cases h19 : 19 < D.size
      · have h19' : 19 < (D.size : Int) := by omega
        have H19 := hid h19
        clear hcmp hbig hsmall hover HNUM h19 heqm
        go_enter Tryz.func33, Tryz.ntmps33
        go_wp2_with (go_at_call 55; refine (HD.out _).mono ?_; rintro e w' ⟨rfl, hw⟩; have hw' := hw.symm; clear hw; subst hw')
        go_ret2
        rw [HN.out.1, HN.out.2]
        exact ⟨rfl, rfl⟩
      · have he : D.size = 19 := by
          have : ¬ D.size < 19 := fun k => by have := hsmall k; omega
          omega
        have he' : (D.size : Int) = 19 := by omega
        have hcm := hcmp he
        rw [decide_eq_false (by omega)] at hcm
        rw [decide_eq_false (by omega)] at heqm
        have hcm2 : Op.bytesLess D.toList [57, 50, 50, 51, 51, 55, 50, 48, 51, 54, 56, 53, 52, 55, 55, 53, 56, 48, 55] = false := hcm
        have heq2 : (D.toList == [57, 50, 50, 51, 51, 55, 50, 48, 51, 54, 56, 53, 52, 55, 55, 53, 56, 48, 55]) = false := heqm
        have HE := hid he
        clear hcmp hbig hsmall hover HNUM h19 he hcm heqm
        go_enter Tryz.func33, Tryz.ntmps33
        go_wp2_with (go_at_call 55; refine (HD.out _).mono ?_; rintro e w' ⟨rfl, hw⟩; have hw' := hw.symm; clear hw; subst hw')
        go_ret2
        rw [HN.out.1, HN.out.2]
        exact ⟨rfl, rfl⟩
    · have hle : natVal d ≤ MV := by omega
      have HN := HNUM (natVal d : Int) 0 (by
        unfold num10
        rw [if_pos ⟨HP.out, HZ.out⟩, if_pos (by have := HMV.out; simp; omega)]
        rfl)
      have h19 : D.size ≤ 19 := by
        apply Decidable.byContradiction
        intro k
        have := hbig (by omega)
        omega
      have HLE := hid hle
      have h19' : (D.size : Int) ≤ 19 := by omega
      have hrest : ∀ _ : True, Calls Tryz.prog 33 #[.string D] w fun e w' => e = .returned (.tuple #[.int .i64 (natVal d : Int), .int .i64 0]) ∧ w' = w := by
        intro _
        by_cases he : D.size = 19
        · have he' : (D.size : Int) = 19 := by omega
          have hcm := hcmp he
          have HE := hid he
          clear he hcmp hbig hsmall HNUM
          by_cases hq : natVal d = MV
          · rw [decide_eq_true hq] at heqm
            have heq2 : (D.toList == [57, 50, 50, 51, 51, 55, 50, 48, 51, 54, 56, 53, 52, 55, 55, 53, 56, 48, 55]) = true := heqm
            clear hq hcm heqm hover hle
            go_enter Tryz.func33, Tryz.ntmps33
            go_wp2_with (go_at_call 55; refine (HD.out _).mono ?_; rintro e w' ⟨rfl, hw⟩; have hw' := hw.symm; clear hw; subst hw')
            go_loop [6, 7] (fun nv iv => ∃ (i : Nat) (m : Int), i ≤ 19 ∧ iv = .int .i64 i ∧ nv = .int .u64 m ∧ 0 ≤ m ∧ m ≤ 9223372036854775808 ∧ Hid (i ≤ d.length ∧ m = natVal (d.take i))) (fun _ iv => 19 - (intOf iv).toNat)
            case atStart => exact ⟨0, 0, by omega, rfl, rfl, by omega, by omega, hid ⟨Nat.zero_le _, rfl⟩⟩
            case round =>
              as_aux_lemma =>
              obtain ⟨i, m, hi, rfl, rfl, hm0, hm1, HI⟩ := hrel
              by_cases hlt : i < D.size
              · have hlt' : (i : Int) < (D.size : Int) := by omega
                have hll' : i < d.length := by have := HDZ.out; omega
                have hat : D[i] = d[i] := by
                  have h1 := at_list D i hlt
                  rw [HDL.out] at h1
                  rw [h1]
                  simp [List.getD, List.getElem?_eq_getElem hll']
                obtain ⟨c, HC⟩ : ∃ c : UInt8, Hid (c = d[i]) := ⟨_, hid rfl⟩
                have hc : D[i] = c := by rw [hat, HC.out]
                clear hat
                have hin := (dig_in c).1.1 ((allIn_iff _ _).1 HALLD.out c (by rw [HC.out]; exact List.getElem_mem hll'))
                have hvl := (dig_in c).2 hin
                obtain ⟨y, HY⟩ : ∃ y : Int, Hid ((c.toNat : Int) = y) := ⟨_, hid rfl⟩
                have hy := HY.out
                have hy0 : 48 ≤ y := by omega
                have hy1 : y ≤ 57 := by omega
                have hnx : 10 * natVal (d.take i) + val digL c = natVal (d.take (i + 1)) := by rw [List.take_succ_eq_append_getElem hll', natVal_snoc, ← HC.out]
                have hmx : 10 * m + (y - 48) ≤ 9223372036854775808 := by
                  have h5 := natVal_take_le d (i + 1)
                  have := HI.out.2
                  have := HLE.out
                  have := HMV.out
                  omega
                have HNX := hid (And.intro hnx hvl)
                clear hnx hvl hin
                go_wp2
                refine ⟨⟨i + 1, 10 * m + (y - 48), by omega, by go_num, by go_num, by omega, by omega, hid ⟨by omega, ?_⟩⟩, by simp [intOf]; omega⟩
                have := HNX.out
                have := HI.out.2
                have := HY.out
                omega
              · have hge : (D.size : Int) ≤ (i : Int) := by omega
                have hm : m = natVal d := by
                  have := HI.out.2
                  rw [show i = d.length by have := HDZ.out; have := HI.out.1; omega, List.take_length] at this
                  exact this
                have HMM := hid hm
                clear hm
                have hm2 : m ≤ 9223372036854775807 := by have := HMM.out; have := HLE.out; have := HMV.out; omega
                go_wp2
                go_ret2
                rw [← HMM.out]
                exact ⟨rfl, rfl⟩
          · rw [decide_eq_true (by omega)] at hcm
            have hcm2 : Op.bytesLess D.toList [57, 50, 50, 51, 51, 55, 50, 48, 51, 54, 56, 53, 52, 55, 55, 53, 56, 48, 55] = true := hcm
            clear hq hcm heqm hover hle
            go_enter Tryz.func33, Tryz.ntmps33
            go_wp2_with (go_at_call 55; refine (HD.out _).mono ?_; rintro e w' ⟨rfl, hw⟩; have hw' := hw.symm; clear hw; subst hw')
            go_loop [6, 7] (fun nv iv => ∃ (i : Nat) (m : Int), i ≤ 19 ∧ iv = .int .i64 i ∧ nv = .int .u64 m ∧ 0 ≤ m ∧ m ≤ 9223372036854775808 ∧ Hid (i ≤ d.length ∧ m = natVal (d.take i))) (fun _ iv => 19 - (intOf iv).toNat)
            case atStart => exact ⟨0, 0, by omega, rfl, rfl, by omega, by omega, hid ⟨Nat.zero_le _, rfl⟩⟩
            case round =>
              as_aux_lemma =>
              obtain ⟨i, m, hi, rfl, rfl, hm0, hm1, HI⟩ := hrel
              by_cases hlt : i < D.size
              · have hlt' : (i : Int) < (D.size : Int) := by omega
                have hll' : i < d.length := by have := HDZ.out; omega
                have hat : D[i] = d[i] := by
                  have h1 := at_list D i hlt
                  rw [HDL.out] at h1
                  rw [h1]
                  simp [List.getD, List.getElem?_eq_getElem hll']
                obtain ⟨c, HC⟩ : ∃ c : UInt8, Hid (c = d[i]) := ⟨_, hid rfl⟩
                have hc : D[i] = c := by rw [hat, HC.out]
                clear hat
                have hin := (dig_in c).1.1 ((allIn_iff _ _).1 HALLD.out c (by rw [HC.out]; exact List.getElem_mem hll'))
                have hvl := (dig_in c).2 hin
                obtain ⟨y, HY⟩ : ∃ y : Int, Hid ((c.toNat : Int) = y) := ⟨_, hid rfl⟩
                have hy := HY.out
                have hy0 : 48 ≤ y := by omega
                have hy1 : y ≤ 57 := by omega
                have hnx : 10 * natVal (d.take i) + val digL c = natVal (d.take (i + 1)) := by rw [List.take_succ_eq_append_getElem hll', natVal_snoc, ← HC.out]
                have hmx : 10 * m + (y - 48) ≤ 9223372036854775808 := by
                  have h5 := natVal_take_le d (i + 1)
                  have := HI.out.2
                  have := HLE.out
                  have := HMV.out
                  omega
                have HNX := hid (And.intro hnx hvl)
                clear hnx hvl hin
                go_wp2
                refine ⟨⟨i + 1, 10 * m + (y - 48), by omega, by go_num, by go_num, by omega, by omega, hid ⟨by omega, ?_⟩⟩, by simp [intOf]; omega⟩
                have := HNX.out
                have := HI.out.2
                have := HY.out
                omega
              · have hge : (D.size : Int) ≤ (i : Int) := by omega
                have hm : m = natVal d := by
                  have := HI.out.2
                  rw [show i = d.length by have := HDZ.out; have := HI.out.1; omega, List.take_length] at this
                  exact this
                have HMM := hid hm
                clear hm
                have hm2 : m ≤ 9223372036854775807 := by have := HMM.out; have := HLE.out; have := HMV.out; omega
                go_wp2
                go_ret2
                rw [← HMM.out]
                exact ⟨rfl, rfl⟩
        · have he' : (D.size : Int) < 19 := by omega
          have heb : ((D.size : Int) == 19) = false := beq_eq_false_iff_ne.2 (by omega)
          have HE := hid he
          clear he hcmp hbig hsmall hover HNUM hle heqm
          go_enter Tryz.func33, Tryz.ntmps33
          go_wp2_with (go_at_call 55; refine (HD.out _).mono ?_; rintro e w' ⟨rfl, hw⟩; have hw' := hw.symm; clear hw; subst hw')
          go_loop [6, 7] (fun nv iv => ∃ (i : Nat) (m : Int), i ≤ 19 ∧ iv = .int .i64 i ∧ nv = .int .u64 m ∧ 0 ≤ m ∧ m ≤ 9223372036854775808 ∧ Hid (i ≤ d.length ∧ m = natVal (d.take i))) (fun _ iv => 19 - (intOf iv).toNat)
          case atStart => exact ⟨0, 0, by omega, rfl, rfl, by omega, by omega, hid ⟨Nat.zero_le _, rfl⟩⟩
          case round =>
            as_aux_lemma =>
            obtain ⟨i, m, hi, rfl, rfl, hm0, hm1, HI⟩ := hrel
            by_cases hlt : i < D.size
            · have hlt' : (i : Int) < (D.size : Int) := by omega
              have hll' : i < d.length := by have := HDZ.out; omega
              have hat : D[i] = d[i] := by
                have h1 := at_list D i hlt
                rw [HDL.out] at h1
                rw [h1]
                simp [List.getD, List.getElem?_eq_getElem hll']
              obtain ⟨c, HC⟩ : ∃ c : UInt8, Hid (c = d[i]) := ⟨_, hid rfl⟩
              have hc : D[i] = c := by rw [hat, HC.out]
              clear hat
              have hin := (dig_in c).1.1 ((allIn_iff _ _).1 HALLD.out c (by rw [HC.out]; exact List.getElem_mem hll'))
              have hvl := (dig_in c).2 hin
              obtain ⟨y, HY⟩ : ∃ y : Int, Hid ((c.toNat : Int) = y) := ⟨_, hid rfl⟩
              have hy := HY.out
              have hy0 : 48 ≤ y := by omega
              have hy1 : y ≤ 57 := by omega
              have hnx : 10 * natVal (d.take i) + val digL c = natVal (d.take (i + 1)) := by rw [List.take_succ_eq_append_getElem hll', natVal_snoc, ← HC.out]
              have hmx : 10 * m + (y - 48) ≤ 9223372036854775808 := by
                have h5 := natVal_take_le d (i + 1)
                have := HI.out.2
                have := HLE.out
                have := HMV.out
                omega
              have HNX := hid (And.intro hnx hvl)
              clear hnx hvl hin
              go_wp2
              refine ⟨⟨i + 1, 10 * m + (y - 48), by omega, by go_num, by go_num, by omega, by omega, hid ⟨by omega, ?_⟩⟩, by simp [intOf]; omega⟩
              have := HNX.out
              have := HI.out.2
              have := HY.out
              omega
            · have hge : (D.size : Int) ≤ (i : Int) := by omega
              have hm : m = natVal d := by
                have := HI.out.2
                rw [show i = d.length by have := HDZ.out; have := HI.out.1; omega, List.take_length] at this
                exact this
              have HMM := hid hm
              clear hm
              have hm2 : m ≤ 9223372036854775807 := by have := HMM.out; have := HLE.out; have := HMV.out; omega
              go_wp2
              go_ret2
              rw [← HMM.out]
              exact ⟨rfl, rfl⟩
      rw [HN.out.1, HN.out.2]
      exact hrest trivial

set_option maxRecDepth 100000 in
set_option maxHeartbeats 1600000 in
theorem refNumber_neg (s D : ByteArray) (d : List UInt8) (w : World) (hd : D.data.toList = d) (hdl : d.length ≤ 1048576) (hs0 : 0 < s.size) (hs1 : s.size ≤ 1048577) (hDs : s.extract 1 s.size = D) (hDn : s.size = D.size + 1) (hc0 : s[0] = 45) :
    Calls Tryz.prog 33 #[.string s] w fun e w' => e = .returned (.tuple #[.int .i64 (num10 true d).1, .int .i64 (num10 true d).2]) ∧ w' = w := by
  have hdz : D.size = d.length := by rw [← hd, size_list]
  have hdz2 : D.size ≤ 1048576 := by omega
  have HD := hid (fun w => decimal_any D d w hd hdl)
  have h48 : (D.toList == [48]) = decide (d = [48]) := by
    rw [Lib.toList_data, hd]
    by_cases h : d = [48]
    · simp [h]
    · simp [h]
  have HDL := hid hd
  have HDZ := hid hdz
  have hs0' : 0 < (s.size : Int) := by omega
  clear hd hdz
  have HM := hid mostNeg_is
  obtain ⟨MV, HMV⟩ : ∃ MV : Nat, Hid (MV = 9223372036854775808) := ⟨_, hid rfl⟩
  rw [← HMV.out] at HM
  have hds : (D.toList == s.toList) = false := by
    rw [Lib.toList_data, Lib.toList_data, beq_eq_false_iff_ne]
    intro h
    have := congrArg List.length h
    rw [size_list, size_list] at this
    omega
  have HDN := hid hDn
  clear hDn
  have HNUM : ∀ (x : Int) (k : Nat), num10 true d = (x, k) → Hid ((num10 true d).1 = x ∧ ((num10 true d).2 : Int) = (k : Int)) := fun x k h => hid (by rw [h]; exact ⟨rfl, rfl⟩)
  cases hp : plainB d with
  | false =>
    rw [hp] at HD
    have HN := HNUM 0 13 (by unfold num10; rw [if_neg (fun k => by rw [hp] at k; exact absurd k.1 (by decide))])
    clear hp HNUM
    go_enter Tryz.func33, Tryz.ntmps33
    go_wp2_with (go_at_call 55; refine (HD.out _).mono ?_; rintro e w' ⟨rfl, hw⟩; have hw' := hw.symm; clear hw; subst hw')
    go_ret2
    rw [HN.out.1, HN.out.2]
    exact ⟨rfl, rfl⟩
  | true =>
    rw [hp] at HD
    have HP := hid hp
    have HALLD := hid (plainB_all d hp)
    clear hp
    by_cases hz : d = [48]
    · rw [decide_eq_true hz] at h48
      have HN := HNUM 0 13 (by unfold num10; rw [if_neg (fun k => k.2 ⟨rfl, hz⟩)])
      clear hz HNUM
      go_enter Tryz.func33, Tryz.ntmps33
      go_wp2_with (go_at_call 55; refine (HD.out _).mono ?_; rintro e w' ⟨rfl, hw⟩; have hw' := hw.symm; clear hw; subst hw')
      go_ret2
      rw [HN.out.1, HN.out.2]
      exact ⟨rfl, rfl⟩
    rw [decide_eq_false hz] at h48
    have HZ : Hid (¬ (true = true ∧ d = [48])) := hid (fun k => hz k.2)
    have hpos : 0 < natVal d := Nat.pos_of_ne_zero (fun k => hz (natVal_zero d HP.out k))
    have HPOS := hid hpos
    clear hz hpos
    have hcmp : D.size = 19 → Op.bytesLess D.data.toList mostNeg.data.toList = decide (natVal d < MV) := by
      intro h
      rw [HDL.out, less_dig d mostNeg.data.toList (by rw [HM.out.1, ← HDZ.out, h]) HALLD.out HM.out.2.1, HM.out.2.2]
    have heqm : (D.data.toList == mostNeg.data.toList) = decide (natVal d = MV) := by
      rw [HDL.out]
      by_cases h : natVal d = MV
      · rw [decide_eq_true h, beq_iff_eq]
        have h1 := dec_natVal d HP.out
        rw [h, ← HM.out.2.2, dec_natVal mostNeg.data.toList mostNeg_plain] at h1
        exact h1.symm
      · rw [decide_eq_false h, beq_eq_false_iff_ne]
        intro k
        rw [k] at h
        exact h HM.out.2.2
    rw [← Lib.toList_data D] at hcmp heqm
    have hbig : 19 < D.size → MV < natVal d := by
      intro h
      apply Decidable.byContradiction
      intro k
      have h2 := plain_len d HP.out 18 (by have := HMV.out; omega)
      have := HDZ.out
      omega
    have hsmall : D.size < 19 → natVal d ≤ MV := by
      intro h
      have h2 := natVal_lt d
      have h3 : 10 ^ d.length ≤ 10 ^ 18 := Nat.pow_le_pow_right (by decide) (by have := HDZ.out; omega)
      have := HMV.out
      omega
    by_cases hover : MV < natVal d
    · have HN := HNUM 0 14 (by
        unfold num10
        rw [if_pos ⟨HP.out, HZ.out⟩, if_neg (by have := HMV.out; simp; omega)])
      by_cases h19 : 19 < D.size
      · have h19' : 19 < (D.size : Int) := by omega
        have H19 := hid h19
        clear hcmp hbig hsmall hover HNUM h19 heqm
        go_enter Tryz.func33, Tryz.ntmps33
        go_wp2_with (go_at_call 55; refine (HD.out _).mono ?_; rintro e w' ⟨rfl, hw⟩; have hw' := hw.symm; clear hw; subst hw')
        go_ret2
        rw [HN.out.1, HN.out.2]
        exact ⟨rfl, rfl⟩
      · have he : D.size = 19 := by
          have : ¬ D.size < 19 := fun k => by have := hsmall k; omega
          omega
        have he' : (D.size : Int) = 19 := by omega
        have hcm := hcmp he
        rw [decide_eq_false (by omega)] at hcm
        rw [decide_eq_false (by omega)] at heqm
        have hcm2 : Op.bytesLess D.toList [57, 50, 50, 51, 51, 55, 50, 48, 51, 54, 56, 53, 52, 55, 55, 53, 56, 48, 56] = false := hcm
        have heq2 : (D.toList == [57, 50, 50, 51, 51, 55, 50, 48, 51, 54, 56, 53, 52, 55, 55, 53, 56, 48, 56]) = false := heqm
        have HE := hid he
        clear hcmp hbig hsmall hover HNUM h19 he hcm heqm
        go_enter Tryz.func33, Tryz.ntmps33
        go_wp2_with (go_at_call 55; refine (HD.out _).mono ?_; rintro e w' ⟨rfl, hw⟩; have hw' := hw.symm; clear hw; subst hw')
        go_ret2
        rw [HN.out.1, HN.out.2]
        exact ⟨rfl, rfl⟩
    · have hle : natVal d ≤ MV := by omega
      have HN := HNUM (-(natVal d : Int)) 0 (by
        unfold num10
        rw [if_pos ⟨HP.out, HZ.out⟩, if_pos (by have := HMV.out; simp; omega)]
        rfl)
      have h19 : D.size ≤ 19 := by
        apply Decidable.byContradiction
        intro k
        have := hbig (by omega)
        omega
      have HLE := hid hle
      have h19' : (D.size : Int) ≤ 19 := by omega
      have hrest : ∀ _ : True, Calls Tryz.prog 33 #[.string s] w fun e w' => e = .returned (.tuple #[.int .i64 (-(natVal d : Int)), .int .i64 0]) ∧ w' = w := by
        intro _
        by_cases he : D.size = 19
        · have he' : (D.size : Int) = 19 := by omega
          have hcm := hcmp he
          have HE := hid he
          clear he hcmp hbig hsmall HNUM
          by_cases hq : natVal d = MV
          · rw [decide_eq_true hq] at heqm
            have heq2 : (D.toList == [57, 50, 50, 51, 51, 55, 50, 48, 51, 54, 56, 53, 52, 55, 55, 53, 56, 48, 56]) = true := heqm
            clear hq hcm heqm hover hle
            go_enter Tryz.func33, Tryz.ntmps33
            go_wp2_with (go_at_call 55; refine (HD.out _).mono ?_; rintro e w' ⟨rfl, hw⟩; have hw' := hw.symm; clear hw; subst hw')
            go_loop [6, 7] (fun nv iv => ∃ (i : Nat) (m : Int), i ≤ 19 ∧ iv = .int .i64 i ∧ nv = .int .u64 m ∧ 0 ≤ m ∧ m ≤ 9223372036854775808 ∧ Hid (i ≤ d.length ∧ m = natVal (d.take i))) (fun _ iv => 19 - (intOf iv).toNat)
            case atStart => exact ⟨0, 0, by omega, rfl, rfl, by omega, by omega, hid ⟨Nat.zero_le _, rfl⟩⟩
            case round =>
              as_aux_lemma =>
              obtain ⟨i, m, hi, rfl, rfl, hm0, hm1, HI⟩ := hrel
              by_cases hlt : i < D.size
              · have hlt' : (i : Int) < (D.size : Int) := by omega
                have hll' : i < d.length := by have := HDZ.out; omega
                have hat : D[i] = d[i] := by
                  have h1 := at_list D i hlt
                  rw [HDL.out] at h1
                  rw [h1]
                  simp [List.getD, List.getElem?_eq_getElem hll']
                obtain ⟨c, HC⟩ : ∃ c : UInt8, Hid (c = d[i]) := ⟨_, hid rfl⟩
                have hc : D[i] = c := by rw [hat, HC.out]
                clear hat
                have hin := (dig_in c).1.1 ((allIn_iff _ _).1 HALLD.out c (by rw [HC.out]; exact List.getElem_mem hll'))
                have hvl := (dig_in c).2 hin
                obtain ⟨y, HY⟩ : ∃ y : Int, Hid ((c.toNat : Int) = y) := ⟨_, hid rfl⟩
                have hy := HY.out
                have hy0 : 48 ≤ y := by omega
                have hy1 : y ≤ 57 := by omega
                have hnx : 10 * natVal (d.take i) + val digL c = natVal (d.take (i + 1)) := by rw [List.take_succ_eq_append_getElem hll', natVal_snoc, ← HC.out]
                have hmx : 10 * m + (y - 48) ≤ 9223372036854775808 := by
                  have h5 := natVal_take_le d (i + 1)
                  have := HI.out.2
                  have := HLE.out
                  have := HMV.out
                  omega
                have HNX := hid (And.intro hnx hvl)
                clear hnx hvl hin
                go_wp2
                refine ⟨⟨i + 1, 10 * m + (y - 48), by omega, by go_num, by go_num, by omega, by omega, hid ⟨by omega, ?_⟩⟩, by simp [intOf]; omega⟩
                have := HNX.out
                have := HI.out.2
                have := HY.out
                omega
              · have hge : (D.size : Int) ≤ (i : Int) := by omega
                have hm : m = natVal d := by
                  have := HI.out.2
                  rw [show i = d.length by have := HDZ.out; have := HI.out.1; omega, List.take_length] at this
                  exact this
                have HMM := hid hm
                clear hm
                have hm1' : 1 ≤ m := by have := HPOS.out; have := HMM.out; omega
                have e1 : IntKind.u64.wrap (-m) = 18446744073709551616 - m := by rw [IntKind.wrap_u64]; omega
                have e2 : IntKind.i64.wrap (18446744073709551616 - m) = -m := by rw [IntKind.wrap_i64]; omega
                go_wp2
                go_ret2
                rw [← HMM.out]
                exact ⟨rfl, rfl⟩
          · rw [decide_eq_true (by omega)] at hcm
            have hcm2 : Op.bytesLess D.toList [57, 50, 50, 51, 51, 55, 50, 48, 51, 54, 56, 53, 52, 55, 55, 53, 56, 48, 56] = true := hcm
            clear hq hcm heqm hover hle
            go_enter Tryz.func33, Tryz.ntmps33
            go_wp2_with (go_at_call 55; refine (HD.out _).mono ?_; rintro e w' ⟨rfl, hw⟩; have hw' := hw.symm; clear hw; subst hw')
            go_loop [6, 7] (fun nv iv => ∃ (i : Nat) (m : Int), i ≤ 19 ∧ iv = .int .i64 i ∧ nv = .int .u64 m ∧ 0 ≤ m ∧ m ≤ 9223372036854775808 ∧ Hid (i ≤ d.length ∧ m = natVal (d.take i))) (fun _ iv => 19 - (intOf iv).toNat)
            case atStart => exact ⟨0, 0, by omega, rfl, rfl, by omega, by omega, hid ⟨Nat.zero_le _, rfl⟩⟩
            case round =>
              as_aux_lemma =>
              obtain ⟨i, m, hi, rfl, rfl, hm0, hm1, HI⟩ := hrel
              by_cases hlt : i < D.size
              · have hlt' : (i : Int) < (D.size : Int) := by omega
                have hll' : i < d.length := by have := HDZ.out; omega
                have hat : D[i] = d[i] := by
                  have h1 := at_list D i hlt
                  rw [HDL.out] at h1
                  rw [h1]
                  simp [List.getD, List.getElem?_eq_getElem hll']
                obtain ⟨c, HC⟩ : ∃ c : UInt8, Hid (c = d[i]) := ⟨_, hid rfl⟩
                have hc : D[i] = c := by rw [hat, HC.out]
                clear hat
                have hin := (dig_in c).1.1 ((allIn_iff _ _).1 HALLD.out c (by rw [HC.out]; exact List.getElem_mem hll'))
                have hvl := (dig_in c).2 hin
                obtain ⟨y, HY⟩ : ∃ y : Int, Hid ((c.toNat : Int) = y) := ⟨_, hid rfl⟩
                have hy := HY.out
                have hy0 : 48 ≤ y := by omega
                have hy1 : y ≤ 57 := by omega
                have hnx : 10 * natVal (d.take i) + val digL c = natVal (d.take (i + 1)) := by rw [List.take_succ_eq_append_getElem hll', natVal_snoc, ← HC.out]
                have hmx : 10 * m + (y - 48) ≤ 9223372036854775808 := by
                  have h5 := natVal_take_le d (i + 1)
                  have := HI.out.2
                  have := HLE.out
                  have := HMV.out
                  omega
                have HNX := hid (And.intro hnx hvl)
                clear hnx hvl hin
                go_wp2
                refine ⟨⟨i + 1, 10 * m + (y - 48), by omega, by go_num, by go_num, by omega, by omega, hid ⟨by omega, ?_⟩⟩, by simp [intOf]; omega⟩
                have := HNX.out
                have := HI.out.2
                have := HY.out
                omega
              · have hge : (D.size : Int) ≤ (i : Int) := by omega
                have hm : m = natVal d := by
                  have := HI.out.2
                  rw [show i = d.length by have := HDZ.out; have := HI.out.1; omega, List.take_length] at this
                  exact this
                have HMM := hid hm
                clear hm
                have hm1' : 1 ≤ m := by have := HPOS.out; have := HMM.out; omega
                have e1 : IntKind.u64.wrap (-m) = 18446744073709551616 - m := by rw [IntKind.wrap_u64]; omega
                have e2 : IntKind.i64.wrap (18446744073709551616 - m) = -m := by rw [IntKind.wrap_i64]; omega
                go_wp2
                go_ret2
                rw [← HMM.out]
                exact ⟨rfl, rfl⟩
        · have he' : (D.size : Int) < 19 := by omega
          have heb : ((D.size : Int) == 19) = false := beq_eq_false_iff_ne.2 (by omega)
          have HE := hid he
          clear he hcmp hbig hsmall hover HNUM hle heqm
          go_enter Tryz.func33, Tryz.ntmps33
          go_wp2_with (go_at_call 55; refine (HD.out _).mono ?_; rintro e w' ⟨rfl, hw⟩; have hw' := hw.symm; clear hw; subst hw')
          go_loop [6, 7] (fun nv iv => ∃ (i : Nat) (m : Int), i ≤ 19 ∧ iv = .int .i64 i ∧ nv = .int .u64 m ∧ 0 ≤ m ∧ m ≤ 9223372036854775808 ∧ Hid (i ≤ d.length ∧ m = natVal (d.take i))) (fun _ iv => 19 - (intOf iv).toNat)
          case atStart => exact ⟨0, 0, by omega, rfl, rfl, by omega, by omega, hid ⟨Nat.zero_le _, rfl⟩⟩
          case round =>
            as_aux_lemma =>
            obtain ⟨i, m, hi, rfl, rfl, hm0, hm1, HI⟩ := hrel
            by_cases hlt : i < D.size
            · have hlt' : (i : Int) < (D.size : Int) := by omega
              have hll' : i < d.length := by have := HDZ.out; omega
              have hat : D[i] = d[i] := by
                have h1 := at_list D i hlt
                rw [HDL.out] at h1
                rw [h1]
                simp [List.getD, List.getElem?_eq_getElem hll']
              obtain ⟨c, HC⟩ : ∃ c : UInt8, Hid (c = d[i]) := ⟨_, hid rfl⟩
              have hc : D[i] = c := by rw [hat, HC.out]
              clear hat
              have hin := (dig_in c).1.1 ((allIn_iff _ _).1 HALLD.out c (by rw [HC.out]; exact List.getElem_mem hll'))
              have hvl := (dig_in c).2 hin
              obtain ⟨y, HY⟩ : ∃ y : Int, Hid ((c.toNat : Int) = y) := ⟨_, hid rfl⟩
              have hy := HY.out
              have hy0 : 48 ≤ y := by omega
              have hy1 : y ≤ 57 := by omega
              have hnx : 10 * natVal (d.take i) + val digL c = natVal (d.take (i + 1)) := by rw [List.take_succ_eq_append_getElem hll', natVal_snoc, ← HC.out]
              have hmx : 10 * m + (y - 48) ≤ 9223372036854775808 := by
                have h5 := natVal_take_le d (i + 1)
                have := HI.out.2
                have := HLE.out
                have := HMV.out
                omega
              have HNX := hid (And.intro hnx hvl)
              clear hnx hvl hin
              go_wp2
              refine ⟨⟨i + 1, 10 * m + (y - 48), by omega, by go_num, by go_num, by omega, by omega, hid ⟨by omega, ?_⟩⟩, by simp [intOf]; omega⟩
              have := HNX.out
              have := HI.out.2
              have := HY.out
              omega
            · have hge : (D.size : Int) ≤ (i : Int) := by omega
              have hm : m = natVal d := by
                have := HI.out.2
                rw [show i = d.length by have := HDZ.out; have := HI.out.1; omega, List.take_length] at this
                exact this
              have HMM := hid hm
              clear hm
              have hm1' : 1 ≤ m := by have := HPOS.out; have := HMM.out; omega
              have e1 : IntKind.u64.wrap (-m) = 18446744073709551616 - m := by rw [IntKind.wrap_u64]; omega
              have e2 : IntKind.i64.wrap (18446744073709551616 - m) = -m := by rw [IntKind.wrap_i64]; omega
              go_wp2
              go_ret2
              rw [← HMM.out]
              exact ⟨rfl, rfl⟩
      rw [HN.out.1, HN.out.2]
      exact hrest trivial
end Go.Proofs.YtipjjhccbgbdiaaGreatDoor
