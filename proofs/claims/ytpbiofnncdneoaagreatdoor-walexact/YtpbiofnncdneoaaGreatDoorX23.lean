/- The reference's Unframe. -/
import Derived.Test.YtpbiofnncdneoaaGreatDoorX22
import Derived.Test.YtpbiofnncdneoaaGreatDoorX16
namespace Go.Proofs.YtpbiofnncdneoaaGreatDoor
open Go Go.RowKit
open Go.RowKit (wrap32 wrap64)

theorem sum_dec (S : Nat) (hS : S < 4294967296) (x : List UInt8) (hx : x.length = 4) : decide (layL S 4 = x) = decide (numL x = S) := by
 by_cases h : numL x = S
 ·rw [decide_eq_true h]
  exact decide_eq_true (by rw [← h]; exact layL_numL 4 x hx)
 ·rw [decide_eq_false h]
  exact decide_eq_false (fun e => h (by rw [← e]; exact numL_layL 4 S (by omega)))

/-- sum's and Eq's contracts on two parts of a row, in any world grown from w. -/
theorem sumC {w : World} {F : Nat → Prop} {v : Value} {x : List UInt8} (hx : x.length ≤ 140737488355328) (hr : Rd w F v x) : ∀ u : World, w.grownBy u none → Calls Tryz.prog 119 #[v] u fun e w' => ∃ v', e = .returned v' ∧ Rd w' (fun g => w.heap.size ≤ g) v' (layL (sumL x) 4) ∧ w.grownBy w' none := fun u hu =>
 (ssumR_any x F v u hx (hr.keep hu)).mono (by rintro e w' ⟨v', rfl, hO, hg⟩; exact ⟨v', rfl, (hO.below hu.size).rd, gtrans hu hg⟩)
theorem eqC {w : World} {F : Nat → Prop} {v : Value} {x : List UInt8} (S : Nat) (hS : S < 4294967296) (hx : x.length = 4) (hr : Rd w F v x) : ∀ u : World, w.grownBy u none → ∀ v', Rd u (fun g => w.heap.size ≤ g) v' (layL S 4) → Calls Tryz.prog 121 #[v', v] u fun e w' => e = .returned (.bool (decide (numL x = S))) ∧ w.grownBy w' none := fun u hu v' hv' =>
 (eqR_any u v' v _ F _ _ hv' (hr.keep hu) (by rw [layL_length]; decide)).mono (by rintro e w' ⟨rfl, k, rfl⟩; exact ⟨by rw [sum_dec S hS x hx], gtrans hu (gdrew _ _ _)⟩)
theorem ofC {w : World} {F : Nat → Prop} {v : Value} {x : List UInt8} (hx : x.length ≤ 8) (hr : Rd w F v x) : ∀ u : World, w.grownBy u none → Calls Tryz.prog 161 #[v] u fun e w' => e = .returned (.int .u64 (numL x)) ∧ w.grownBy w' none := fun u hu =>
 (ofR_any x F v u hx (hr.keep hu)).mono (by rintro e w' ⟨rfl, rfl⟩; exact ⟨rfl, hu⟩)
theorem copyC {w : World} {F : Nat → Prop} {v : Value} {x : List UInt8} (hx : x.length ≤ 17592186044416) (hr : Rd w F v x) : ∀ u : World, w.grownBy u none → Calls Tryz.prog 100 #[v] u fun e w' => ∃ v', e = .returned v' ∧ Out w.heap.size w' v' x ∧ w.grownBy w' none := fun u hu =>
 (copyR_any u v F x (hr.keep hu) (by omega)).mono (by rintro e w' ⟨v', rfl, hO, hg⟩; exact ⟨v', rfl, hO.below hu.size, gtrans hu hg⟩)

theorem unfrE_long (r : List UInt8) (h : 8 ≤ r.length) : unfrE (201 :: r) = if numL (((201 :: r).drop 5).take 4) ≠ sumL ((201 :: r).take 5) then 32 else if 16777216 < cnt (201 :: r) then 31 else if (201 :: r).length < cnt (201 :: r) + 13 then 30 else if numL (((201 :: r).drop (9 + cnt (201 :: r))).take 4) ≠ sumL (bodyL (201 :: r)) then 32 else 0 := by
 have e := headE_long r h
 by_cases h1 : numL (((201 :: r).drop 5).take 4) ≠ sumL ((201 :: r).take 5)
 ·rw [if_pos h1] at e ⊢
  rw [unfrE_head _ (by rw [e]; decide), e]
 ·rw [if_neg h1] at e ⊢
  by_cases h2 : 16777216 < cnt (201 :: r)
  ·rw [if_pos h2] at e ⊢
   rw [unfrE_head _ (by rw [e]; decide), e]
  ·rw [if_neg h2] at e ⊢
   by_cases h3 : (201 :: r).length < cnt (201 :: r) + 13
   ·rw [if_pos h3, unfrE_short _ e h3]
   ·rw [if_neg h3, unfrE_rest _ e h3]

set_option maxRecDepth 100000 in
set_option maxHeartbeats 4000000 in
theorem unframeR_any (l : List UInt8) (F : Nat → Prop) (v : Value) (w : World) (hl : l.length ≤ 140737488355328) (hr : Rd w F v l) :
  Calls Tryz.prog 115 #[v] w fun e w' => ∃ v', e = .returned (.tuple #[v', .int .i64 (if unfrE l = 0 then ((cnt l + 13 : Nat) : Int) else 0), .int .i64 (unfrE l)]) ∧ Out w.heap.size w' v' (unfB l) ∧ w.grownBy w' none := by
 obtain ⟨a, b, off, c, rfl, hc, hn, ha, hcell⟩ := hr
 match l, hl, hc, ha, hcell with
 | [], hl, hc, ha, hcell =>
  have he : unfrE [] = 30 := by rw [unfrE_head [] (by rw [headE_nil]; decide), headE_nil]
  have hB : unfB [] = [] := by unfold unfB; rw [he, if_neg (by decide)]
  rw [he, hB, if_neg (by decide)]
  clear ha hcell hn he hB
  go_enter Tryz.func115, Tryz.ntmps115
  go_wp2_with fail
  go_ret3
  exact ⟨_, rfl, Out.nil _ _, grefl _ _⟩
 | x :: r, hl, hc, ha, hcell =>
  obtain ⟨rfl, hb, hF⟩ := ha (by simp)
  have h0 := hcell 0 (by simp)
  simp only [List.getElem_cons_zero, Nat.add_zero] at h0
  have HC := hid hcell
  have HA := hid ha
  clear hcell hn ha
  have hxb := u8_bd x
  obtain ⟨n, HN⟩ : ∃ n, Hid ((x :: r).length = n) := ⟨_, hid rfl⟩
  have hrn : r.length + 1 = n := by have := HN.out; simp at this; omega
  have HRN := hid hrn
  have hn0 : 1 ≤ n := by omega
  rw [HN.out] at hl hc ⊢
  clear hrn
  by_cases hx : x = 201
  ·subst hx
   change w.cell? ⟨b, off, none⟩ = some (.int .u8 201) at h0
   by_cases h9 : n < 9
   ·have he : unfrE (201 :: r) = 30 := by rw [unfrE_head _ (by rw [headE_short r (by have := HRN.out; omega)]; decide), headE_short r (by have := HRN.out; omega)]
    have hB : unfB (201 :: r) = [] := by unfold unfB; rw [he, if_neg (by decide)]
    rw [he, hB, if_neg (by decide)]
    clear he hB
    go_enter Tryz.func115, Tryz.ntmps115
    go_wp2_with fail
    go_ret3
    exact ⟨_, rfl, Out.nil _ _, grefl _ _⟩
   ·have hlong := unfrE_long r (by have := HRN.out; omega)
    have HP : ∀ (i m cc : Nat), i + m ≤ n → 0 < m → m ≤ cc → Rd w F (.slice (some ⟨b, off + i, none⟩) m cc) (((201 :: r).drop i).take m) := fun i m cc h1 h2 h3 => Rd.part HA.out HC.out i m cc (by rw [HN.out]; exact h1) h2 h3
    have HLn : ∀ (i m : Nat), i + m ≤ n → (((201 :: r).drop i).take m).length = m := fun i m h => by rw [List.length_take, List.length_drop, HN.out]; omega
    have HS5 : Hid (∀ u : World, w.grownBy u none → Calls Tryz.prog 119 #[.slice (some ⟨b, off, none⟩) 5 c] u fun e w' => ∃ v', e = .returned v' ∧ Rd w' (fun g => w.heap.size ≤ g) v' (layL (sumL ((201 :: r).take 5)) 4) ∧ w.grownBy w' none) := hid (sumC (by have := HLn 0 5 (by omega); rw [List.drop_zero] at this; rw [this]; decide) (HP 0 5 c (by omega) (by decide) (by omega)))
    have HE5 : Hid (∀ u : World, w.grownBy u none → ∀ v', Rd u (fun g => w.heap.size ≤ g) v' (layL (sumL ((201 :: r).take 5)) 4) → Calls Tryz.prog 121 #[v', .slice (some ⟨b, off + 5, none⟩) 4 (c - 5)] u fun e w' => e = .returned (.bool (decide (numL (((201 :: r).drop 5).take 4) = sumL ((201 :: r).take 5)))) ∧ w.grownBy w' none) := hid (eqC _ (by have := sumL_lt ((201 :: r).take 5); omega) (HLn 5 4 (by omega)) (HP 5 4 (c - 5) (by omega) (by decide) (by omega)))
    have HOf : Hid (∀ u : World, w.grownBy u none → Calls Tryz.prog 161 #[.slice (some ⟨b, off + 1, none⟩) 4 (c - 1)] u fun e w' => e = .returned (.int .u64 (cnt (201 :: r))) ∧ w.grownBy w' none) := hid (ofC (by rw [HLn 1 4 (by omega)]; decide) (HP 1 4 (c - 1) (by omega) (by decide) (by omega)))
    have hcl : cnt (201 :: r) < 4294967296 := numL_lt 4 _ (HLn 1 4 (by omega))
    have HB : Hid (unfrE (201 :: r) ≠ 0 → unfB (201 :: r) = []) := hid (fun h => by unfold unfB; rw [if_neg h])
    rw [HN.out] at hlong
    generalize numL (((201 :: r).drop 5).take 4) = X at hlong HE5
    generalize hY : sumL ((201 :: r).take 5) = Y at hlong HE5 HS5
    clear hY
    generalize layL Y 4 = YL at HE5 HS5
    have i1 : (5 : Int) ≤ (c : Int) := by omega
    have i2 : (9 : Int) ≤ (c : Int) := by omega
    have i3 : 5 ≤ c := by omega
    have i4 : 9 ≤ c := by omega
    by_cases hxy : X = Y
    ·rw [decide_eq_true hxy] at HE5
     rw [if_neg (by simpa using hxy)] at hlong
     clear hxy
     by_cases hC : 16777216 < cnt (201 :: r)
     ·rw [if_pos hC] at hlong
      rw [hlong, HB.out (by rw [hlong]; decide), if_neg (by decide)]
      clear HP HLn hlong HB
      generalize cnt (201 :: r) = C at *
      have hd : decide ((16777216 : Int) < (C : Int)) = true := decide_eq_true (by omega)
      have HcC := hid hC
      clear hC hcl
      go_enter Tryz.func115, Tryz.ntmps115
      go_wp2_with fail
      go_region_held3 (fun _ => True) (trivial) (first
       | (go_at_call 119; refine (HS5.out _ (by first | exact grefl _ _ | exact gdrew1 _ _)).mono ?_; rintro e w2 ⟨v2, rfl, hR2, hg2⟩; have HR2 := hid hR2; have HG2 := hid hg2; clear hR2 hg2)
       | (go_at_call 121; refine (HE5.out _ (by first | exact HG2.out | exact gtrans HG2.out (gdrew1 _ _)) _ (by first | exact HR2.out | exact HR2.out.keep (gdrew1 _ _))).mono ?_; rintro e w3 ⟨rfl, hg3⟩; have HG3 := hid hg3; clear hg3))
      go_wp2_with (go_at_call 161; refine (HOf.out _ HG3.out).mono ?_; rintro e w4 ⟨rfl, hg4⟩; have HG4 := hid hg4; clear hg4)
      go_ret3
      exact ⟨_, rfl, Out.nil _ _, HG4.out⟩
     ·rw [if_neg hC] at hlong
      by_cases hs : n < cnt (201 :: r) + 13
      ·rw [if_pos hs] at hlong
       rw [hlong, HB.out (by rw [hlong]; decide), if_neg (by decide)]
       clear HP HLn hlong HB
       generalize cnt (201 :: r) = C at *
       have hd : decide ((16777216 : Int) < (C : Int)) = false := decide_eq_false (by omega)
       have p1 : IntKind.u64.wrap (n : Int) = (n : Int) := by rw [IntKind.wrap_u64]; omega
       have p2 : IntKind.u64.wrap ((C : Int) + 13) = (C : Int) + 13 := by rw [IntKind.wrap_u64]; omega
       have hd2 : decide ((n : Int) < (C : Int) + 13) = true := decide_eq_true (by omega)
       clear hC hcl hs
       go_enter Tryz.func115, Tryz.ntmps115
       go_wp2_with fail
       go_region_held3 (fun _ => True) (trivial) (first
        | (go_at_call 119; refine (HS5.out _ (by first | exact grefl _ _ | exact gdrew1 _ _)).mono ?_; rintro e w2 ⟨v2, rfl, hR2, hg2⟩; have HR2 := hid hR2; have HG2 := hid hg2; clear hR2 hg2)
        | (go_at_call 121; refine (HE5.out _ (by first | exact HG2.out | exact gtrans HG2.out (gdrew1 _ _)) _ (by first | exact HR2.out | exact HR2.out.keep (gdrew1 _ _))).mono ?_; rintro e w3 ⟨rfl, hg3⟩; have HG3 := hid hg3; clear hg3))
       go_wp2_with (go_at_call 161; refine (HOf.out _ HG3.out).mono ?_; rintro e w4 ⟨rfl, hg4⟩; have HG4 := hid hg4; clear hg4)
       go_ret3
       exact ⟨_, rfl, Out.nil _ _, HG4.out⟩
      ·rw [if_neg hs] at hlong
       have hbl : (bodyL (201 :: r)).length = cnt (201 :: r) := HLn 9 _ (by omega)
       have hbody : Rd w F (.slice (some ⟨b, off + 9, none⟩) (cnt (201 :: r)) (c - 9)) (bodyL (201 :: r)) := by
        by_cases hz : cnt (201 :: r) = 0
        ·have : bodyL (201 :: r) = [] := List.eq_nil_of_length_eq_zero (by omega)
         rw [this, hz]
         exact ⟨some ⟨b, off + 9, none⟩, 0, 0, c - 9, rfl, Nat.zero_le _, (fun h => by cases h), (fun h => by simp at h), fun i h => by simp at h⟩
        ·exact HP 9 (cnt (201 :: r)) (c - 9) (by omega) (by omega) (by omega)
       have HS9 := hid (sumC (by rw [hbl]; omega) hbody)
       have HE9 := hid (eqC (sumL (bodyL (201 :: r))) (by have := sumL_lt (bodyL (201 :: r)); omega) (HLn (9 + cnt (201 :: r)) 4 (by omega)) (HP (9 + cnt (201 :: r)) 4 (c - (9 + cnt (201 :: r))) (by omega) (by decide) (by omega)))
       have HCp := hid (copyC (by rw [hbl]; omega) hbody)
       have HB0 : Hid (unfrE (201 :: r) = 0 → unfB (201 :: r) = bodyL (201 :: r)) := hid (fun h => by unfold unfB; rw [if_pos h])
       clear HP HLn hbl hbody
       generalize unfrE (201 :: r) = E at *
       generalize unfB (201 :: r) = UB at *
       generalize bodyL (201 :: r) = Bd at *
       generalize cnt (201 :: r) = C at *
       generalize numL (((201 :: r).drop (9 + C)).take 4) = X2 at *
       generalize sumL Bd = Y2 at *
       generalize layL Y2 4 = YL2 at *
       have hd : decide ((16777216 : Int) < (C : Int)) = false := decide_eq_false (by omega)
       have p1 : IntKind.u64.wrap (n : Int) = (n : Int) := by rw [IntKind.wrap_u64]; omega
       have p2 : IntKind.u64.wrap ((C : Int) + 13) = (C : Int) + 13 := by rw [IntKind.wrap_u64]; omega
       have hd2 : decide ((n : Int) < (C : Int) + 13) = false := decide_eq_false (by omega)
       have p3 : IntKind.i64.wrap (C : Int) = (C : Int) := by rw [IntKind.wrap_i64]; omega
       obtain ⟨En, hEn⟩ : ∃ z, 9 + C = z := ⟨_, rfl⟩
       have e9 : 9 + (C : Int) = (En : Int) := by omega
       have hC9 : C = En - 9 := by omega
       have j1 : (9 : Int) ≤ (En : Int) := by omega
       have j2 : (En : Int) ≤ (c : Int) := by omega
       have j3 : (En : Int) ≤ (En : Int) + 4 := by omega
       have j4 : (En : Int) + 4 ≤ (c : Int) := by omega
       have j6 : (0 : Int) ≤ (En : Int) + 4 := by omega
       have w4' : IntKind.i64.wrap (9 + (C : Int)) = 9 + (C : Int) := by rw [IntKind.wrap_i64]; omega
       have w5' : IntKind.i64.wrap ((En : Int) + 4) = (En : Int) + 4 := by rw [IntKind.wrap_i64]; omega
       have nc1 : ¬ c = 9 := by omega
       have nc2 : ¬ c = En := by omega
       have HFin : Hid (((C + 13 : Nat) : Int) = (En : Int) + 4) := hid (by omega)
       rw [hEn] at HE9
       replace HE9 : Hid (∀ u : World, w.grownBy u none → ∀ v', Rd u (fun g => w.heap.size ≤ g) v' YL2 → Calls Tryz.prog 121 #[v', .slice (some ⟨b, off + En, none⟩) (((En : Int) + 4).toNat - En) (c - En)] u fun e w' => e = .returned (.bool (decide (X2 = Y2))) ∧ w.grownBy w' none) := hid (by rw [show ((En : Int) + 4).toNat - En = 4 by omega]; exact HE9.out)
       rw [show #[Value.slice (some ⟨b, off + 9, none⟩) C (c - 9)] = #[Value.slice (some ⟨b, off + 9, none⟩) (En - 9) (c - 9)] by rw [hC9]] at HS9 HCp
       have HE9e := hid e9
       clear hEn hC9 e9
       by_cases hxy : X2 = Y2
       ·rw [decide_eq_true hxy] at HE9
        rw [if_neg (by simpa using hxy)] at hlong
        subst hlong
        rw [if_pos rfl, HB0.out rfl]
        clear hxy HB HB0
        go_enter Tryz.func115, Tryz.ntmps115
        go_wp2_with fail
        go_region_held3 (fun _ => True) (trivial) (first
         | (go_at_call 119; refine (HS5.out _ (by first | exact grefl _ _ | exact gdrew1 _ _)).mono ?_; rintro e w2 ⟨v2, rfl, hR2, hg2⟩; have HR2 := hid hR2; have HG2 := hid hg2; clear hR2 hg2)
         | (go_at_call 121; refine (HE5.out _ (by first | exact HG2.out | exact gtrans HG2.out (gdrew1 _ _)) _ (by first | exact HR2.out | exact HR2.out.keep (gdrew1 _ _))).mono ?_; rintro e w3 ⟨rfl, hg3⟩; have HG3 := hid hg3; clear hg3))
        go_wp2_with (go_at_call 161; refine (HOf.out _ HG3.out).mono ?_; rintro e w4 ⟨rfl, hg4⟩; have HG4 := hid hg4; clear hg4)
        rw [HE9e.out]
        clear w4' p1 p2 p3 hd hd2
        go_region_held3 (fun _ => True) (trivial) (first
         | (go_at_call 119; (with_reducible refine (HS9.out _ (by first | exact HG4.out | exact gtrans HG4.out (gdrew1 _ _))).mono ?_); rintro e w5 ⟨v5, rfl, hR5, hg5⟩; have HR5 := hid hR5; have HG5 := hid hg5; clear hR5 hg5)
         | (go_at_call 121; (with_reducible refine (HE9.out _ (by first | exact HG5.out | exact gtrans HG5.out (gdrew1 _ _)) _ (by first | exact HR5.out | exact HR5.out.keep (gdrew1 _ _))).mono ?_); rintro e w6 ⟨rfl, hg6⟩; have HG6 := hid hg6; clear hg6))
        go_wp2_with (go_at_call 100; refine (HCp.out _ HG6.out).mono ?_; rintro e w7 ⟨v7, rfl, hO7, hg7⟩; have HO7 := hid hO7; have HG7 := hid hg7; clear hO7 hg7)
        go_ret3
        exact ⟨_, by first | rfl | (rw [HFin.out]; rfl), HO7.out, HG7.out⟩
       ·rw [decide_eq_false hxy] at HE9
        rw [if_pos hxy] at hlong
        subst hlong
        rw [if_neg (by decide), HB.out (by decide)]
        clear hxy HB HB0
        go_enter Tryz.func115, Tryz.ntmps115
        go_wp2_with fail
        go_region_held3 (fun _ => True) (trivial) (first
         | (go_at_call 119; refine (HS5.out _ (by first | exact grefl _ _ | exact gdrew1 _ _)).mono ?_; rintro e w2 ⟨v2, rfl, hR2, hg2⟩; have HR2 := hid hR2; have HG2 := hid hg2; clear hR2 hg2)
         | (go_at_call 121; refine (HE5.out _ (by first | exact HG2.out | exact gtrans HG2.out (gdrew1 _ _)) _ (by first | exact HR2.out | exact HR2.out.keep (gdrew1 _ _))).mono ?_; rintro e w3 ⟨rfl, hg3⟩; have HG3 := hid hg3; clear hg3))
        go_wp2_with (go_at_call 161; refine (HOf.out _ HG3.out).mono ?_; rintro e w4 ⟨rfl, hg4⟩; have HG4 := hid hg4; clear hg4)
        rw [HE9e.out]
        clear w4' p1 p2 p3 hd hd2
        go_region_held3 (fun _ => True) (trivial) (first
         | (go_at_call 119; (with_reducible refine (HS9.out _ (by first | exact HG4.out | exact gtrans HG4.out (gdrew1 _ _))).mono ?_); rintro e w5 ⟨v5, rfl, hR5, hg5⟩; have HR5 := hid hR5; have HG5 := hid hg5; clear hR5 hg5)
         | (go_at_call 121; (with_reducible refine (HE9.out _ (by first | exact HG5.out | exact gtrans HG5.out (gdrew1 _ _)) _ (by first | exact HR5.out | exact HR5.out.keep (gdrew1 _ _))).mono ?_); rintro e w6 ⟨rfl, hg6⟩; have HG6 := hid hg6; clear hg6))
        go_wp2_with fail
        go_ret3
        exact ⟨_, rfl, Out.nil _ _, HG6.out⟩
    ·rw [decide_eq_false hxy] at HE5
     rw [if_pos hxy] at hlong
     rw [hlong, HB.out (by rw [hlong]; decide), if_neg (by decide)]
     clear hxy HP HLn hlong HB hcl
     go_enter Tryz.func115, Tryz.ntmps115
     go_wp2_with fail
     go_region_held3 (fun _ => True) (trivial) (first
      | (go_at_call 119; refine (HS5.out _ (by first | exact grefl _ _ | exact gdrew1 _ _)).mono ?_; rintro e w2 ⟨v2, rfl, hR2, hg2⟩; have HR2 := hid hR2; have HG2 := hid hg2; clear hR2 hg2)
      | (go_at_call 121; refine (HE5.out _ (by first | exact HG2.out | exact gtrans HG2.out (gdrew1 _ _)) _ (by first | exact HR2.out | exact HR2.out.keep (gdrew1 _ _))).mono ?_; rintro e w3 ⟨rfl, hg3⟩; have HG3 := hid hg3; clear hg3))
     go_wp2_with fail
     go_ret3
     exact ⟨_, rfl, Out.nil _ _, HG3.out⟩
  ·have he : unfrE (x :: r) = 34 := by rw [unfrE_head _ (by rw [headE_form x r hx]; decide), headE_form x r hx]
   have hB : unfB (x :: r) = [] := by unfold unfB; rw [he, if_neg (by decide)]
   rw [he, hB, if_neg (by decide)]
   obtain ⟨e1, e2⟩ := byte_ne (k := 201) hx
   change ((x.toNat : Int) != 201) = true at e1
   change (x.toNat != 201) = true at e2
   clear hx he hB
   go_enter Tryz.func115, Tryz.ntmps115
   go_wp2_with fail
   go_ret3
   exact ⟨_, rfl, Out.nil _ _, grefl _ _⟩
end Go.Proofs.YtpbiofnncdneoaaGreatDoor

namespace Go.Proofs.YtpbiofnncdneoaaGreatDoor
open Go Go.RowKit Go.MapKept Go.MuLone
open Go.RowKit (wrap32 wrap64)

theorem grown_back {w u u' : World} {row : Option Nat} (h : w.grownBy u none) (hg : u.grownBy u' row) (hk : ∀ k, row = some k → w.heap.size ≤ k) : w.grownBy u' none :=
 ⟨hg.os.trans h.os, hg.tape.trans h.tape, hg.output.trans h.output, Nat.le_trans h.size hg.size, fun k hl _ => (hg.block k (Nat.lt_of_lt_of_le hl h.size) (fun e => absurd (hk k e.symm) (by omega))).trans (h.block k hl (by simp))⟩
/-- Mark i behind what is lent. -/
def mkA (i : Nat) : UInt8 := UInt8.ofNat (165 - i)
set_option maxRecDepth 100000 in
theorem markAt_any (i : Nat) (w : World) (hi : i < 70) : Calls Tryz.prog 57 #[.int .i64 i] w fun e w' => e = .returned (.int .u8 (mkA i).toNat) ∧ w' = w := by
 have e : ((mkA i).toNat : Int) = 165 - (i : Int) := by
  unfold mkA
  rw [UInt8.toNat_ofNat']
  omega
 rw [e]
 clear e
 go_enter Tryz.func57, Tryz.ntmps57
 go_wp2
 go_ret
 exact ⟨rfl, rfl⟩
def mkL (n : Nat) : List UInt8 := (List.range n).map mkA
theorem mkL_length (n : Nat) : (mkL n).length = n := by simp [mkL]
theorem mkL_succ (n : Nat) : mkL (n + 1) = mkL n ++ [mkA n] := by simp [mkL, List.range_succ]
/-- What is lent: the bytes, marks behind them, in a row of one's own. -/
def Lent (w : World) (B : Nat) (v : Value) (l : List UInt8) : Prop :=
 ∃ (g c : Nat), v = .slice (some ⟨g, 0, none⟩) l.length c ∧ l.length + 70 ≤ c ∧ Out B w (.slice (some ⟨g, 0, none⟩) (l.length + 70) c) (l ++ mkL 70)
theorem Lent.keep {w w' : World} {B : Nat} {v : Value} {l : List UInt8} (h : Lent w B v l) (hg : w.grownBy w' none) : Lent w' B v l := by
 obtain ⟨g, c, h1, h2, h3⟩ := h
 exact ⟨g, c, h1, h2, h3.keep hg⟩
theorem Lent.on {w w' : World} {B : Nat} {v : Value} {l : List UInt8} {row : Option Nat} (h : Lent w B v l) (hg : w.grownBy w' row) (hr : ∀ k, row = some k → v.ownBlock ≠ some k) : Lent w' B v l := by
 obtain ⟨g, c, rfl, h2, h3⟩ := h
 exact ⟨g, c, rfl, h2, h3.on hg (fun k hk e => hr k hk e)⟩
theorem Lent.out {w : World} {B : Nat} {v : Value} {l : List UInt8} (h : Lent w B v l) : Out B w v l := by
 obtain ⟨g, c, rfl, h2, h3⟩ := h
 refine ⟨by simp [Lib.byteCells], .inr ?_⟩
 rcases h3.2 with ⟨h4, _⟩ | ⟨g', cap, cur, e, hb, hg, hle, hm, hs, ht⟩
 ·cases h4
 ·injection e with e1 e2 e3
  injection e1 with e1
  injection e1 with e1
  subst e1; subst e3
  refine ⟨g, c, cur, rfl, hb, hg, by omega, hm, hs, ?_⟩
  have h5 := congrArg (List.take (l.length * 1)) ht
  rw [List.take_take] at h5
  rw [show min (l.length * 1) ((l ++ mkL 70).length * 1) = l.length * 1 by simp [mkL_length]] at h5
  rw [h5]
  simp [Lib.byteCells]
theorem Lent.mark {w : World} {B : Nat} {v : Value} {l : List UInt8} (h : Lent w B v l) : ∃ (b c : Nat), v = .slice (some ⟨b, 0, none⟩) l.length c ∧ b < w.heap.size ∧ l.length + 70 ≤ c ∧ ∀ i, i < 70 → w.cell? ⟨b, l.length + i, none⟩ = some (.int .u8 (mkA i).toNat) := by
 obtain ⟨g, c, rfl, h2, h3⟩ := h
 refine ⟨g, c, rfl, (h3.lt g rfl).2, h2, fun i hi => ?_⟩
 have := h3.cells (g := g) rfl (l.length + i) (.int .u8 (mkA i).toNat) (by simp [Lib.byteCells, mkL, hi])
 rw [Addr.add_lit, Nat.zero_add] at this
 exact this
set_option maxRecDepth 100000 in
set_option maxHeartbeats 1600000 in
theorem lend_any (w : World) (v : Value) (F : Nat → Prop) (l : List UInt8) (hb : Rd w F v l) (hl : l.length ≤ 1000000000) :
  Calls Tryz.prog 24 #[v] w fun e w' => ∃ v', e = .returned v' ∧ Lent w' w.heap.size v' l ∧ w.grownBy w' none := by
 obtain ⟨inf, hi, hz0, hz1, hz2⟩ := info_parts Tryz.info5
 have R := hid hb
 obtain ⟨ab, bb, offb, cbb, hbv, _⟩ := hb
 subst hbv
 obtain ⟨m, HM⟩ : ∃ m : Nat, Hid (l.length = m) := ⟨_, hid rfl⟩
 rw [HM.out] at hl ⊢
 have HR := R
 rw [HM.out] at HR
 clear R
 go_enter Tryz.func24, Tryz.ntmps24
 go_wp2_with (at_make; refine wpList_make_own _ rfl _ _ 74 rfl w.heap.size 5 inf (.int .u8 0) 1 Tryz.underlying74 hi hz0 hz1 _ _ _ (m + 70) rfl rfl (by omega) (by rw [hz2]; omega) (by unfold maxLen; omega) (Nat.le_refl _) ?_)
 intro w1 hown1 hg1
 have R1 := hid (HR.out.keep hg1)
 have HG1 := hid hg1
 have hO1 : Hid (Out w.heap.size w1 (.slice (some ⟨w.heap.size, 0, none⟩) 0 (m + 70)) []) := hid hown1
 clear hg1 HR hown1
 go_wp2_with (at_builtin; refine wpList_append_rd rfl _ _ rfl w.heap.size F [] l hO1.out R1.out (by have := HM.out; simp; omega) HG1.out.size ?_)
 intro v2 w2 hown2 hg2 _
 have HO : Hid (Out w.heap.size w2 v2 (l ++ mkL 0)) := hid (by
  simpa [mkL] using hown2)
 have HG : Hid (w.grownBy w2 none) := hid (grown_back HG1.out hg2 (fun k hk => hO1.out.block k hk))
 clear hO1 hown2 hg2 R1 HG1
 go_wp2
 go_loopw [3, 4] (fun tv iv wr => ∃ i : Nat, iv = .int .i64 i ∧ i ≤ 70 ∧ Hid (Out w.heap.size wr tv (l ++ mkL i)) ∧ Hid (w.grownBy wr none)) (fun _ iv _ => 70 - (intOf iv).toNat)
 case atStart => exact ⟨0, rfl, by omega, HO, HG⟩
 case round =>
  as_aux_lemma =>
  clear HO HG
  obtain ⟨i, rfl, hi70, HO, HG⟩ := hrel
  by_cases hlt : i < 70
  ·have hlt' : (i : Int) < 70 := by omega
   have hat := fun w => markAt_any i w hlt
   obtain ⟨u, HU⟩ : ∃ u : UInt8, Hid (mkA i = u) := ⟨_, hid rfl⟩
   rw [HU.out] at hat
   have HAT := hid hat
   clear hat
   go_wp2_with (first | (go_at_call 57; refine (HAT.out _).mono ?_; rintro e w' ⟨rfl, hw⟩; have hw' := hw.symm; clear hw; subst hw') | (at_builtin; refine wpList_append_byte rfl _ _ rfl w.heap.size wr.heap.size (l ++ mkL i) u (HO.out.keep (galloc wr _ none)) rfl (litL wr _) (by have := HM.out; rw [List.length_append, mkL_length]; omega) (by have := HG.out.size; have := (galloc wr (.cells #[.int .u8 u.toNat] 5) none).size; omega) ?_))
   intro v' w3 hown3 hg3
   have HN : Hid (Out w.heap.size w3 v' (l ++ mkL (i + 1))) := hid (by rw [mkL_succ, HU.out]; exact hown3)
   have HGN : Hid (w.grownBy w3 none) := hid (grown_back (gtrans HG.out (galloc wr _ none)) hg3 (fun k hk => HO.out.block k hk))
   clear hown3 hg3
   go_wp2
   exact ⟨⟨i + 1, by go_num, by omega, HN, HGN⟩, by simp [intOf]; omega⟩
  ·have hge : (70 : Int) ≤ i := by omega
   have he : i = 70 := by omega
   subst he
   obtain ⟨b, cap, hv, hle⟩ : ∃ b cap, u3 = .slice (some ⟨b, 0, none⟩) (m + 70) cap ∧ m + 70 ≤ cap := by
    rcases HO.out.2 with ⟨_, h9⟩ | ⟨g, cap, cur, e, hb, hg, hle, _⟩
    ·rw [List.length_append, mkL_length] at h9; omega
    ·rw [List.length_append, mkL_length, HM.out] at e hle
     exact ⟨g, cap, e, hle⟩
   subst hv
   have hcm : (m : Int) ≤ (cap : Int) := by omega
   go_wp2
   go_ret
   refine ⟨.slice (some ⟨b, 0, none⟩) m cap, rfl, ⟨b, cap, by rw [HM.out], by rw [HM.out]; exact hle, by rw [HM.out]; exact HO.out⟩, HG.out⟩
set_option maxRecDepth 100000 in
set_option maxHeartbeats 1600000 in
theorem intact_any (w : World) (B : Nat) (v b : Value) (F : Nat → Prop) (l : List UInt8) (hv : Lent w B v l) (hb : Rd w F b l) (hl : l.length ≤ 1000000000) :
  Calls Tryz.prog 25 #[v, b] w fun e w' => e = .returned (.bool true) ∧ w.grownBy w' none := by
 have k1 := hv.out.rd.convert
 have k2 := hb.convert
 obtain ⟨s, HS⟩ : ∃ s, Hid ((⟨l.toArray⟩ : ByteArray) = s) := ⟨_, hid rfl⟩
 rw [HS.out] at k1 k2
 obtain ⟨bb, c, rfl, hbb, hc, hm⟩ := hv.mark
 obtain ⟨m, HM⟩ : ∃ m : Nat, Hid (l.length = m) := ⟨_, hid rfl⟩
 rw [HM.out] at hl hc hm k1 ⊢
 have HMK := hid hm
 have hc' : (m : Int) + 70 ≤ (c : Int) := by omega
 clear hm hv hb
 go_enter Tryz.func25, Tryz.ntmps25
 go_wp2
 go_loopw [6] (fun iv wr => ∃ i : Nat, iv = .int .i64 i ∧ i ≤ 70 ∧ ∃ k, Hid (wr = w.drewN k)) (fun iv _ => 70 - (intOf iv).toNat)
 case atStart => exact ⟨0, rfl, by omega, 0, hid rfl⟩
 case round =>
  as_aux_lemma =>
  obtain ⟨i, rfl, hi, d, HD⟩ := hrel
  by_cases hlt : i < 70
  ·have hlt' : (i : Int) < 70 := by omega
   have q : wr.cell? ⟨bb, m + i, none⟩ = some (.int .u8 (mkA i).toNat) := by rw [HD.out]; exact HMK.out i hlt
   have hat := fun w => markAt_any i w hlt
   obtain ⟨y, HY⟩ : ∃ y : Int, Hid (((mkA i).toNat : Int) = y) := ⟨_, hid rfl⟩
   rw [HY.out] at q hat
   have HAT := hid hat
   have rb : bb < wr.heap.size := by rw [HD.out]; exact hbb
   clear hat
   go_wp2
   go_quiet ((go_at_call 57; exact Calls.quiet_of_same (HAT.out _)))
   rename_i nq
   go_wp2
   refine ⟨⟨i + 1, by go_num, by omega, d + nq, hid (by rw [HD.out, World.drewN_drewN])⟩, by simp [intOf]; omega⟩
  ·have hge : (70 : Int) ≤ i := by omega
   go_wp2
   go_ret
   exact ⟨rfl, by rw [HD.out]; exact gdrewN _ _ _⟩
end Go.Proofs.YtpbiofnncdneoaaGreatDoor

namespace Go.Proofs.YtpbiofnncdneoaaGreatDoor
open Go Go.RowKit
open Go.RowKit (wrap32 wrap64)

set_option maxRecDepth 100000 in
set_option maxHeartbeats 4000000 in
theorem recR_any (w : World) (F : Nat → Prop) (v : Value) (f : List UInt8) (rs : List (List UInt8)) (t : List UInt8) (hr : Rd w F v f) (hf : f = flat rs ++ t) (hrs : ∀ r ∈ rs, r.length ≤ 16777216) (hl : f.length ≤ 268435456) (hrl : rs.length ≤ 1000000) (hnz : t ≠ [] → unfrE t ≠ 0) :
  Calls Tryz.prog 55 #[v] w fun e w' => w.grownBy w' none ∧ ((t = [] ∨ unfrE t = 30) → ∃ v', e = .returned (.tuple #[v', .int .i64 (flen rs : Nat), .int .i64 0]) ∧ OutS w.heap.size 0 w' v' rs) ∧ (¬ (t = [] ∨ unfrE t = 30) → e = .returned (.tuple #[.slice none 0 0, .int .i64 0, .int .i64 101])) := by
 obtain ⟨a, b, off, c, rfl, hc, hnn, ha, hcell⟩ := hr
 obtain ⟨n, HN⟩ : ∃ x, Hid (f.length = x) := ⟨_, hid rfl⟩
 rw [HN.out] at hc ⊢
 have HA := hid ha
 have HC := hid hcell
 have HF := hid hf
 have HRs := hid hrs
 have HL : Hid (n ≤ 268435456 ∧ rs.length ≤ 1000000) := hid ⟨by rw [← HN.out]; exact hl, hrl⟩
 have HNz := hid hnz
 have HLn : Hid (flen rs + t.length = n) := hid (by rw [← HN.out, hf, List.length_append]; rfl)
 obtain ⟨D, hD⟩ : ∃ D : Prop, (t = [] ∨ unfrE t = 30) = D := ⟨_, rfl⟩
 have HD := hid hD
 rw [hD]
 clear ha hcell hf hrs hl hrl hnz hD
 go_enter Tryz.func55, Tryz.ntmps55
 go_wp2_with fail
 go_loopw [5, 6] (fun rv kv wr => ∃ i k : Nat, kv = .int .i64 k ∧ i ≤ rs.length ∧ Hid (flen (rs.take i) = k) ∧ Hid (OutS w.heap.size 0 wr rv (rs.take i) ∧ w.grownBy wr none)) (fun _ kv _ => n + 1 - (intOf kv).toNat)
 case atStart => exact ⟨0, 0, rfl, Nat.zero_le _, hid rfl, hid ⟨OutS.nil _ _ _, grefl _ _⟩⟩
 case round =>
  obtain ⟨i, k, rfl, hi, HK, HS⟩ := hrel
  by_cases hlt : i < rs.length
  ·obtain ⟨z, hz⟩ : ∃ z, rs[i] = z := ⟨_, rfl⟩
   have HZ := hid hz
   have HZl : Hid (z.length ≤ 16777216) := hid (by rw [← hz]; exact HRs.out _ (List.getElem_mem _))
   obtain ⟨s, HSf⟩ : ∃ s, Hid (f = flat (rs.take i) ++ (frameL z ++ s)) := ⟨flat (rs.drop (i + 1)) ++ t, hid (by rw [HF.out, flat_split hlt, hz]; simp [List.append_assoc])⟩
   have hfl : (flat (rs.take i)).length = k := HK.out
   have HDr : Hid (f.drop k = frameL z ++ s) := hid (by rw [HSf.out, ← hfl, List.drop_left])
   have HLe : Hid (k + (z.length + 13) + s.length = n) := hid (by rw [← HN.out, HSf.out, ← hfl]; simp [frameL_length]; omega)
   have hkn : k < n := by have := HLe.out; omega
   have hkn' : (k : Int) < (n : Int) := by omega
   have hk0 : ¬ (n < k) := by omega
   have hkc : ¬ (c - k = 0) := by omega
   obtain ⟨rfl, hb1, hb2⟩ := HA.out (by rw [HN.out]; omega)
   have HRd : Hid (Rd w F (.slice (some ⟨b, off + k, none⟩) (n - k) (c - k)) (frameL z ++ s)) := hid (by
    have q := Rd.part HA.out HC.out k (n - k) (c - k) (by rw [HN.out]; omega) (by omega) (by omega)
    rw [List.take_of_length_le (by rw [List.length_drop, HN.out]; omega), HDr.out] at q
    exact q)
   have hu := unfr_frame z s HZl.out
   have HUn : Hid (∀ u, w.grownBy u none → Calls Tryz.prog 115 #[.slice (some ⟨b, off + k, none⟩) (n - k) (c - k)] u fun e w' => ∃ v', e = .returned (.tuple #[v', .int .i64 ((z.length + 13 : Nat) : Int), .int .i64 0]) ∧ Out u.heap.size w' v' z ∧ u.grownBy w' none) := hid (fun u hg => by
    have q := unframeR_any (frameL z ++ s) F _ u (by simp [frameL_length]; have := HLe.out; have := HL.out.1; omega) (HRd.out.keep hg)
    unfold unfB at q
    rw [hu.1, hu.2.1, hu.2.2] at q
    exact q)
   obtain ⟨zz, hzz⟩ : ∃ x : Nat, z.length + 13 = x := ⟨_, rfl⟩
   rw [hzz] at HUn
   have HZz : Hid (z.length + 13 = zz) := hid hzz
   have hk1 : k ≤ 268435456 := by have := HLe.out; have := HL.out.1; omega
   have hz1 : zz ≤ 268435456 := by have := HLe.out; have := HL.out.1; omega
   clear hz hfl hu hzz hnn
   go_upto_region 9 with (go_at_call 115; (with_reducible refine (HUn.out _ HS.out.2).mono ?_); rintro e w2 ⟨v2, rfl, hO, hg⟩; have HO2 := hid hO; have HG2 := hid hg; obtain ⟨va, vc, hv2⟩ := hO.len; clear hO hg)
   obtain ⟨zl, hzl⟩ : ∃ x, z.length = x := ⟨_, rfl⟩
   rw [hzl] at hv2 ⊢
   subst hv2
   have HOw : Hid (∀ q, u5.ownBlock = some q → w.heap.size ≤ q) := hid (fun q hq => by obtain ⟨xs, h1, -⟩ := HS.out.1.ex; exact own_low h1 q hq)
   have HB2 := hid (Blk.new w2 [Value.slice va zl vc] 74)
   have HG2' := hid (gtrans HS.out.2 HG2.out)
   have HOS : Hid (OutS w.heap.size 0 (w2.alloc (.cells #[Value.slice va zl vc] 74)) u5 (rs.take i)) := hid ((HS.out.1.keep HG2.out).keep (galloc _ _ _))
   have HRB : Hid (Rb w.heap.size 0 (w2.alloc (.cells #[Value.slice va zl vc] 74)) (.slice va zl vc) z) := hid (.inr (owns_base (HO2.out.keep (galloc _ _ _)) HS.out.2.size))
   have HSz : Hid (w.heap.size ≤ (w2.alloc (.cells #[Value.slice va zl vc] 74)).heap.size) := hid (gtrans HG2'.out (galloc _ _ _)).size
   have HTk : Hid ((rs.take i).length ≤ 1000000) := hid (by rw [List.length_take]; have := HL.out.2; omega)
   go_wp2_with (at_builtin; refine wpList_append_row rfl _ _ rfl w.heap.size 0 _ (rs.take i) _ z HOS.out rfl HB2.out HRB.out HTk.out HSz.out (Nat.zero_le _) ?_; intro v4 w4 hO4 hg4 _; have HO4 := hid hO4; have HG4 := hid hg4; clear hO4 hg4)
   have HGn : Hid (w.grownBy w4 none) := hid ((gtrans HG2'.out (galloc _ _ none)).andThen HG4.out (fun q hq => .inl (HOw.out q hq)))
   have hsum : (k : Int) + (zz : Int) = ((k + zz : Nat) : Int) := by omega
   rw [hsum]
   go_roundw
   ·refine ⟨i + 1, k + zz, rfl, by omega, hid ?_, hid ⟨?_, HGn.out⟩⟩
    ·rw [flen_at hlt, HK.out, HZ.out, HZz.out]
    ·rw [List.take_succ_eq_append_getElem hlt, HZ.out]; exact HO4.out
   ·simp [intOf]; have := HZz.out; omega
  ·have hie : i = rs.length := by omega
   subst hie
   rw [List.take_length] at HK HS
   by_cases ht0 : t = []
   ·have hkn : k = n := by have := HLn.out; rw [ht0] at this; have := HK.out; simp at *; omega
    have hD : D := by rw [← HD.out]; exact .inl ht0
    subst hkn
    go_wp2_with fail
    go_ret3
    exact ⟨HS.out.2, fun _ => ⟨_, by rw [HK.out]; rfl, HS.out.1⟩, fun h => absurd hD h⟩
   ·have htl : 0 < t.length := List.length_pos_iff.2 ht0
    have hkn : k < n := by have := HLn.out; have := HK.out; omega
    have hkn' : (k : Int) < (n : Int) := by omega
    have hk0 : ¬ (n < k) := by omega
    have hkc : ¬ (c - k = 0) := by omega
    obtain ⟨rfl, hb1, hb2⟩ := HA.out (by rw [HN.out]; omega)
    have HDr : Hid (f.drop k = t) := hid (by rw [HF.out, ← HK.out]; exact List.drop_left ..)
    have HRd : Hid (Rd w F (.slice (some ⟨b, off + k, none⟩) (n - k) (c - k)) t) := hid (by
     have q := Rd.part HA.out HC.out k (n - k) (c - k) (by rw [HN.out]; omega) (by omega) (by omega)
     rw [List.take_of_length_le (by rw [List.length_drop, HN.out]; omega), HDr.out] at q
     exact q)
    obtain ⟨E, hE⟩ : ∃ x, unfrE t = x := ⟨_, rfl⟩
    have hnz : E ≠ 0 := by rw [← hE]; exact HNz.out ht0
    have HUn : Hid (∀ u, w.grownBy u none → Calls Tryz.prog 115 #[.slice (some ⟨b, off + k, none⟩) (n - k) (c - k)] u fun e w' => ∃ v', e = .returned (.tuple #[v', .int .i64 0, .int .i64 E]) ∧ u.grownBy w' none) := hid (fun u hg => by
     have q := unframeR_any t F _ u (by have := HLn.out; have := HL.out.1; omega) (HRd.out.keep hg)
     rw [hE, if_neg hnz] at q
     exact q.mono fun e w' ⟨v', q1, _, q3⟩ => ⟨v', q1, q3⟩)
    have HDE : Hid (D ↔ E = 30) := hid (by rw [← HD.out, hE]; exact ⟨fun h => h.resolve_left ht0, .inr⟩)
    clear HD hE htl hnn ht0
    by_cases hE3 : E = 30
    ·have hD : D := HDE.out.2 hE3
     subst hE3
     go_wp2_with (go_at_call 115; (with_reducible refine (HUn.out _ HS.out.2).mono ?_); rintro e w2 ⟨v2, rfl, hg⟩; have HG2 := hid hg; clear hg)
     go_ret3
     exact ⟨gtrans HS.out.2 HG2.out, fun _ => ⟨_, by rw [HK.out]; rfl, HS.out.1.keep HG2.out⟩, fun h => absurd hD h⟩
    ·have hD : ¬ D := fun q => hE3 (HDE.out.1 q)
     go_wp2_with (go_at_call 115; (with_reducible refine (HUn.out _ HS.out.2).mono ?_); rintro e w2 ⟨v2, rfl, hg⟩; have HG2 := hid hg; clear hg)
     go_ret3
     exact ⟨gtrans HS.out.2 HG2.out, fun h => absurd h hD, fun _ => rfl⟩

/-- What unframes is a frame and what is behind it. -/
theorem unfr_is (f : List UInt8) (h : unfrE f = 0) : f = frameL (bodyL f) ++ f.drop (cnt f + 13) ∧ (bodyL f).length = cnt f ∧ cnt f ≤ 16777216 ∧ cnt f + 13 ≤ f.length := by
 have hh : headE f = 0 := Classical.byContradiction fun q => q (by rw [← unfrE_head f q]; exact h)
 have hc := headE_cnt f hh
 have hs : ¬ f.length < cnt f + 13 := fun q => by rw [unfrE_short f hh q] at h; cases h
 have h4 : numL ((f.drop (9 + cnt f)).take 4) = sumL (bodyL f) := Classical.byContradiction fun q => by rw [unfrE_rest f hh hs, if_pos q] at h; cases h
 have hbl : (bodyL f).length = cnt f := by unfold bodyL; rw [List.length_take, List.length_drop]; omega
 obtain ⟨r, hr, h5⟩ : ∃ r, f = 201 :: r ∧ numL ((f.drop 5).take 4) = sumL (f.take 5) := by
  match f, hh, hc with
  | [], hh, _ => cases hh
  | x :: r, hh, hc =>
   by_cases hx : x = 201
   ·subst hx
    refine ⟨r, rfl, Classical.byContradiction fun q => ?_⟩
    rw [headE_long r (by have := hc.2; simp at this; omega), if_pos q] at hh
    cases hh
   ·rw [headE_form x r hx] at hh; cases hh
 have e1 : f.take 5 = head5 (bodyL f).length := by
  unfold head5
  rw [hbl, hr, List.take_succ_cons]
  unfold cnt
  rw [layL_numL 4 _ (by rw [List.length_take, List.length_drop]; have := hc.2; rw [hr] at this; omega)]
  rfl
 have e2 : (f.drop 5).take 4 = layL (sumL (head5 (bodyL f).length)) 4 := by
  rw [← e1, ← h5, layL_numL 4 _ (by rw [List.length_take, List.length_drop]; omega)]
 have e3 : (f.drop (9 + cnt f)).take 4 = layL (sumL (bodyL f)) 4 := by
  rw [← h4, layL_numL 4 _ (by rw [List.length_take, List.length_drop]; omega)]
 refine ⟨?_, hbl, hc.1, by omega⟩
 unfold frameL
 rw [← e2, ← e1, ← e3]
 unfold bodyL
 have a1 : f = f.take 5 ++ f.drop 5 := (List.take_append_drop 5 f).symm
 have a2 : f.drop 5 = (f.drop 5).take 4 ++ f.drop 9 := by
  have q := (List.take_append_drop 4 (f.drop 5)).symm
  rw [List.drop_drop] at q
  exact q
 have a3 : f.drop 9 = (f.drop 9).take (cnt f) ++ f.drop (9 + cnt f) := by
  have q := (List.take_append_drop (cnt f) (f.drop 9)).symm
  rw [List.drop_drop] at q
  exact q
 have a4 : f.drop (9 + cnt f) = (f.drop (9 + cnt f)).take 4 ++ f.drop (cnt f + 13) := by
  have q := (List.take_append_drop 4 (f.drop (9 + cnt f))).symm
  rw [List.drop_drop, show 9 + cnt f + 4 = cnt f + 13 by omega] at q
  exact q
 rw [List.append_assoc, ← a4, List.append_assoc, ← a3, List.append_assoc, ← a2]
 exact a1

/-- Any bytes are some frames and an end. -/
theorem frames_ex : ∀ (n : Nat) (f : List UInt8), f.length ≤ n → ∃ (rs : List (List UInt8)) (t : List UInt8), f = flat rs ++ t ∧ (∀ r ∈ rs, r.length ≤ 16777216) ∧ (t ≠ [] → unfrE t ≠ 0) ∧ 13 * rs.length ≤ f.length := by
 intro n
 induction n with
 | zero => intro f hf; exact ⟨[], [], by have : f = [] := List.length_eq_zero_iff.1 (by omega); rw [this]; rfl, by simp, fun h => absurd rfl h, by simp⟩
 | succ n ih =>
  intro f hf
  by_cases h : f ≠ [] → unfrE f ≠ 0
  ·exact ⟨[], f, rfl, by simp, h, by simp⟩
  ·have h2 : unfrE f = 0 := Classical.byContradiction fun q => h (fun _ => q)
   obtain ⟨q1, q2, q3, q4⟩ := unfr_is f h2
   obtain ⟨rs, t, r1, r2, r3, r4⟩ := ih (f.drop (cnt f + 13)) (by rw [List.length_drop]; omega)
   refine ⟨bodyL f :: rs, t, ?_, ?_, r3, ?_⟩
   ·conv => lhs; rw [q1, r1]
    simp [flat]
   ·intro r hr
    rcases List.mem_cons.1 hr with rfl | hr
    ·omega
    ·exact r2 r hr
   ·rw [List.length_drop] at r4
    simp only [List.length_cons]
    omega
end Go.Proofs.YtpbiofnncdneoaaGreatDoor

namespace Go.Proofs.YtpbiofnncdneoaaGreatDoor.Bq
open Go Go.RowKit Go.Proofs.YtpbiofnncdneoaaGreatDoor.Bk
open Go.RowKit (wrap32 wrap64)
end Go.Proofs.YtpbiofnncdneoaaGreatDoor.Bq

namespace Go.Proofs.YtpbiofnncdneoaaGreatDoor
open Go Go.RowKit
open Go.RowKit (wrap32 wrap64)
/-- A row of slices of the call's own, each its own; their blocks lie below H. -/
structure OutD (B H : Nat) (w : World) (v : Value) (ls : List (List UInt8)) : Prop where
 ex : ∃ vs, w.ownsRow B 74 1 v ls.length vs ∧ Each (Out B w) vs ls ∧ vs.Pairwise Bk.Apart ∧ (∀ x ∈ vs, ∀ b, x.ownBlock = some b → b < H) ∧ ∀ b, v.ownBlock = some b → b < H
theorem OutD.nil (B H : Nat) (w : World) : OutD B H w (.slice none 0 0) [] := ⟨[], ⟨rfl, .inl ⟨rfl, rfl⟩⟩, .nil, .nil, fun x hx => (by cases hx), fun b hb => (by cases hb)⟩
theorem OutD.keep {B H : Nat} {w w' : World} {v : Value} {ls : List (List UInt8)} (h : OutD B H w v ls) (hg : w.grownBy w' none) : OutD B H w' v ls := by
 obtain ⟨vs, h1, h2, h3⟩ := h.ex
 exact ⟨vs, World.ownsRow.kept h1 hg (by cases v.ownBlock <;> simp), h2.mono (fun v l h => h.keep hg), h3⟩
theorem OutD.up {B H H' : Nat} {w : World} {v : Value} {ls : List (List UInt8)} (h : OutD B H w v ls) (hh : H ≤ H') : OutD B H' w v ls := by
 obtain ⟨vs, h1, h2, h3, h4⟩ := h.ex
 exact ⟨vs, h1, h2, h3, fun x hx b hb => Nat.lt_of_lt_of_le (h4.1 x hx b hb) hh, fun b hb => Nat.lt_of_lt_of_le (h4.2 b hb) hh⟩
theorem OutD.s {B H : Nat} {w : World} {v : Value} {ls : List (List UInt8)} (h : OutD B H w v ls) : OutS B 0 w v ls := by
 obtain ⟨vs, h1, h2, _⟩ := h.ex
 exact ⟨vs, h1, h2.mono (fun _ _ q => .inr q)⟩
theorem OutD.base {B B' H : Nat} {w : World} {v : Value} {ls : List (List UInt8)} (h : OutD B H w v ls) (hb : B' ≤ B) : OutD B' H w v ls := by
 obtain ⟨vs, h1, h2, h3⟩ := h.ex
 exact ⟨vs, owns_base h1 hb, h2.mono (fun _ _ q => owns_base q hb), h3⟩
theorem own_lt {w : World} {B e q n : Nat} {v : Value} {xs : List Value} (h : w.ownsRow B e q v n xs) : ∀ k, v.ownBlock = some k → k < w.heap.size := fun k hk => by
 rcases h.2 with ⟨rfl, _⟩ | ⟨b, cap, cur, rfl, _, hg, _⟩
 ·cases hk
 ·injection hk with hk; subst hk; exact (Array.getElem?_eq_some_iff.1 hg).1
set_option maxRecDepth 100000 in
/-- append of one slice. -/
theorem app_rowD {w : World} {B H g : Nat} {vs : Value} {ls : List (List UInt8)} {v : Value} {l : List UInt8} (h : OutD B H w vs ls) (hb : Blk w g [v] 74) (ho : Out H w v l) (hE : ls.length ≤ 1000000) (hB : B ≤ w.heap.size) (hC : B ≤ H) (ty : TypeId) :
  ∃ v' w', (Builtin.append_ #[37, 37] ty #[vs, .slice (some ⟨g, 0, none⟩) 1 1]).run Tryz.prog w = .ok v' w' ∧ OutD B w'.heap.size w' v' (ls ++ [l]) ∧ w.grownBy w' vs.ownBlock ∧ (v'.ownBlock = vs.ownBlock ∨ v'.ownBlock = some w.heap.size) := by
 obtain ⟨inf, hi, hz0, hz1, hz2⟩ := info_parts Tryz.info74
 obtain ⟨xs, hrow, heach, hap, hlow, -⟩ := h.ex
 obtain ⟨ba, bc, hbv⟩ := ho.len
 obtain ⟨v', w', h1, h2, h3, _, h4⟩ := run_append_own_at (P := Tryz.prog) w B 37 ty 74 inf (.slice none 0 0) 1 24 Tryz.underlying37 hi hz0 hz1 hz2 rfl (by decide) vs _ _ hrow ⟨g, 0, none⟩ 1 1 [v] rfl (by
  intro j u hu
  rw [Addr.add_lit, Nat.zero_add]
  rcases (show j = 0 ∨ 1 ≤ j by omega) with rfl | h2
  ·injection hu with hu; subst hu; exact hb.cell 0
  ·have : ([v] : List Value)[j]? = none := by simp; omega
   rw [this] at hu; cases hu) (by rw [hbv]; intro x hx; rw [List.mem_singleton.1 hx]; rfl) (by unfold maxLen; omega) (by omega) hB
 have hx : ∀ v l, Out B w v l → Out B w' v l := fun v l hr => hr.on h3 (fun k hk => own_ne hrow hr (by decide) k hk)
 have ho' : Out B w v l := owns_base ho hC
 refine ⟨v', w', h1, ⟨xs ++ [v], by rw [List.length_append]; exact h2, (heach.mono hx).app (hx _ _ ho'), ?_, ?_, own_lt h2⟩, h3, h4⟩
 ·rw [List.pairwise_append]
  refine ⟨hap, by simp, fun a ha b hb' => ?_⟩
  rw [List.mem_singleton.1 hb']
  exact Bq.apart_new (hlow a ha) (own_low ho)
 ·intro x hx' b hbx
  rcases List.mem_append.1 hx' with q | q
  ·obtain ⟨j, hj, rfl⟩ := List.getElem_of_mem q
   obtain ⟨y, hy, hyo⟩ := heach.get j (by rw [← heach.len]; exact hj)
   rw [List.getElem?_eq_getElem hj] at hy
   injection hy with hy
   rw [← hy] at hyo
   exact Nat.lt_of_lt_of_le (own_lt hyo b hbx) h3.size
  ·rw [List.mem_singleton.1 q] at hbx
   exact Nat.lt_of_lt_of_le (own_lt ho b hbx) h3.size
theorem wpList_append_rowD {w : World} {ops : Array Oper} {rest : List Oper} {o : Oper} {a : Act} {Q : Exit → Act → World → Prop} (hgd : o.guard = none) (s x : Operand) (ho : o.op = .call { callee := .builtin .append, args := #[s, x], argTypes := #[37, 37] })
  (B H g : Nat) (ls : List (List UInt8)) (v : Value) (l : List UInt8) (hown : OutD B H w (a.eval s) ls) (hx : a.eval x = .slice (some ⟨g, 0, none⟩) 1 1) (hb : Blk w g [v] 74) (hr : Out H w v l) (hE : ls.length ≤ 1000000) (hB : B ≤ w.heap.size) (hC : B ≤ H)
  (h : ∀ v' w', OutD B w'.heap.size w' v' (ls ++ [l]) → w.grownBy w' (a.eval s).ownBlock → (v'.ownBlock = (a.eval s).ownBlock ∨ v'.ownBlock = some w.heap.size) → wpList Tryz.prog ops Q rest (a.put o.dst v') w') : wpList Tryz.prog ops Q (o :: rest) a w :=
 wpList_plain hgd fun _ hK => by
  obtain ⟨v', w', h1, h2, h3, h4⟩ := app_rowD hown hb hr hE hB hC o.type
  have hK' := hK _ _ (h v' w' h2 h3 h4)
  unfold Oper.wp
  simp [execOp, ho, resolve, invoke, builtin, hx, h1, Result.andThen]
  exact hK'
end Go.Proofs.YtpbiofnncdneoaaGreatDoor
