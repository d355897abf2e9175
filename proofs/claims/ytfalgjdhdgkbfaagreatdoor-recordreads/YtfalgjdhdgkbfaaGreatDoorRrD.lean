/- The reference's Unframe. -/
import Derived.Test.YtfalgjdhdgkbfaaGreatDoorRrC
namespace Go.Proofs.YtfalgjdhdgkbfaaGreatDoor
open Go Go.RowKit
open Go.RowKit (wrap32 wrap64)

theorem sum_dec (S : Nat) (hS : S < 4294967296) (x : List UInt8) (hx : x.length = 4) : decide (layL S 4 = x) = decide (numL x = S) := by
  by_cases h : numL x = S
  · rw [decide_eq_true h]
    exact decide_eq_true (by rw [← h]; exact layL_numL 4 x hx)
  · rw [decide_eq_false h]
    exact decide_eq_false (fun e => h (by rw [← e]; exact numL_layL 4 S (by omega)))

/-- sum's and Eq's contracts on two parts of a row, in any world grown from w. -/
theorem sumC {w : World} {F : Nat → Prop} {v : Value} {x : List UInt8} (hx : x.length ≤ 140737488355328) (hr : Rd w F v x) : ∀ u : World, w.grownBy u none → Calls Tryz.prog 118 #[v] u fun e w' => ∃ v', e = .returned v' ∧ Rd w' (fun g => w.heap.size ≤ g) v' (layL (sumL x) 4) ∧ w.grownBy w' none := fun u hu =>
  (ssumR_any x F v u hx (hr.keep hu)).mono (by rintro e w' ⟨v', rfl, hO, hg⟩; exact ⟨v', rfl, (hO.below hu.size).rd, gtrans hu hg⟩)
theorem eqC {w : World} {F : Nat → Prop} {v : Value} {x : List UInt8} (S : Nat) (hS : S < 4294967296) (hx : x.length = 4) (hr : Rd w F v x) : ∀ u : World, w.grownBy u none → ∀ v', Rd u (fun g => w.heap.size ≤ g) v' (layL S 4) → Calls Tryz.prog 119 #[v', v] u fun e w' => e = .returned (.bool (decide (numL x = S))) ∧ w.grownBy w' none := fun u hu v' hv' =>
  (eqR_any u v' v _ F _ _ hv' (hr.keep hu) (by rw [layL_length]; decide)).mono (by rintro e w' ⟨rfl, k, rfl⟩; exact ⟨by rw [sum_dec S hS x hx], gtrans hu (gdrew _ _ _)⟩)
theorem ofC {w : World} {F : Nat → Prop} {v : Value} {x : List UInt8} (hx : x.length ≤ 8) (hr : Rd w F v x) : ∀ u : World, w.grownBy u none → Calls Tryz.prog 114 #[v] u fun e w' => e = .returned (.int .u64 (numL x)) ∧ w.grownBy w' none := fun u hu =>
  (ofR_any x F v u hx (hr.keep hu)).mono (by rintro e w' ⟨rfl, rfl⟩; exact ⟨rfl, hu⟩)
theorem copyC {w : World} {F : Nat → Prop} {v : Value} {x : List UInt8} (hx : x.length ≤ 17592186044416) (hr : Rd w F v x) : ∀ u : World, w.grownBy u none → Calls Tryz.prog 51 #[v] u fun e w' => ∃ v', e = .returned v' ∧ Out w.heap.size w' v' x ∧ w.grownBy w' none := fun u hu =>
  (copy_any x F v u hx (hr.keep hu)).mono (by rintro e w' ⟨v', rfl, hO, hg⟩; exact ⟨v', rfl, hO.below hu.size, gtrans hu hg⟩)

theorem unfrE_long (r : List UInt8) (h : 8 ≤ r.length) : unfrE (201 :: r) = if numL (((201 :: r).drop 5).take 4) ≠ sumL ((201 :: r).take 5) then 32 else if 16777216 < cnt (201 :: r) then 31 else if (201 :: r).length < cnt (201 :: r) + 13 then 30 else if numL (((201 :: r).drop (9 + cnt (201 :: r))).take 4) ≠ sumL (bodyL (201 :: r)) then 32 else 0 := by
  have e := headE_long r h
  by_cases h1 : numL (((201 :: r).drop 5).take 4) ≠ sumL ((201 :: r).take 5)
  · rw [if_pos h1] at e ⊢
    rw [unfrE_head _ (by rw [e]; decide), e]
  · rw [if_neg h1] at e ⊢
    by_cases h2 : 16777216 < cnt (201 :: r)
    · rw [if_pos h2] at e ⊢
      rw [unfrE_head _ (by rw [e]; decide), e]
    · rw [if_neg h2] at e ⊢
      by_cases h3 : (201 :: r).length < cnt (201 :: r) + 13
      · rw [if_pos h3, unfrE_short _ e h3]
      · rw [if_neg h3, unfrE_rest _ e h3]

set_option maxRecDepth 100000 in
set_option maxHeartbeats 4000000 in
theorem unframeR_any (l : List UInt8) (F : Nat → Prop) (v : Value) (w : World) (hl : l.length ≤ 140737488355328) (hr : Rd w F v l) :
    Calls Tryz.prog 65 #[v] w fun e w' => ∃ v', e = .returned (.tuple #[v', .int .i64 (if unfrE l = 0 then ((cnt l + 13 : Nat) : Int) else 0), .int .i64 (unfrE l)]) ∧ Out w.heap.size w' v' (unfB l) ∧ w.grownBy w' none := by
  obtain ⟨a, b, off, c, rfl, hc, hn, ha, hcell⟩ := hr
  match l, hl, hc, ha, hcell with
  | [], hl, hc, ha, hcell =>
    have he : unfrE [] = 30 := by rw [unfrE_head [] (by rw [headE_nil]; decide), headE_nil]
    have hB : unfB [] = [] := by unfold unfB; rw [he, if_neg (by decide)]
    rw [he, hB, if_neg (by decide)]
    clear ha hcell hn he hB
    go_enter Tryz.func65, Tryz.ntmps65
    go_wp2_with fail
    go_ret3
    exact ⟨_, rfl, Out.nil _ _, grefl _ _⟩
  | x :: r, hl, hc, ha, hcell =>
    obtain ⟨rfl, hb, hF⟩ := ha (by simp)
    have h0 := hcell 0 (by simp)
    simp only [List.getElem_cons_zero, Nat.add_zero] at h0
    have HC := hid hcell
    have HA := hid ha
    clear hcell hn ha
    have hxb := u8_bd x
    obtain ⟨n, HN⟩ : ∃ n, Hid ((x :: r).length = n) := ⟨_, hid rfl⟩
    have hrn : r.length + 1 = n := by have := HN.out; simp at this; omega
    have HRN := hid hrn
    have hn0 : 1 ≤ n := by omega
    rw [HN.out] at hl hc ⊢
    clear hrn
    by_cases hx : x = 201
    · subst hx
      change w.cell? ⟨b, off, none⟩ = some (.int .u8 201) at h0
      by_cases h9 : n < 9
      · have he : unfrE (201 :: r) = 30 := by rw [unfrE_head _ (by rw [headE_short r (by have := HRN.out; omega)]; decide), headE_short r (by have := HRN.out; omega)]
        have hB : unfB (201 :: r) = [] := by unfold unfB; rw [he, if_neg (by decide)]
        rw [he, hB, if_neg (by decide)]
        clear he hB
        go_enter Tryz.func65, Tryz.ntmps65
        go_wp2_with fail
        go_ret3
        exact ⟨_, rfl, Out.nil _ _, grefl _ _⟩
      · have hlong := unfrE_long r (by have := HRN.out; omega)
        have HP : ∀ (i m cc : Nat), i + m ≤ n → 0 < m → m ≤ cc → Rd w F (.slice (some ⟨b, off + i, none⟩) m cc) (((201 :: r).drop i).take m) := fun i m cc h1 h2 h3 => Rd.part HA.out HC.out i m cc (by rw [HN.out]; exact h1) h2 h3
        have HLn : ∀ (i m : Nat), i + m ≤ n → (((201 :: r).drop i).take m).length = m := fun i m h => by rw [List.length_take, List.length_drop, HN.out]; omega
        have HS5 : Hid (∀ u : World, w.grownBy u none → Calls Tryz.prog 118 #[.slice (some ⟨b, off, none⟩) 5 c] u fun e w' => ∃ v', e = .returned v' ∧ Rd w' (fun g => w.heap.size ≤ g) v' (layL (sumL ((201 :: r).take 5)) 4) ∧ w.grownBy w' none) := hid (sumC (by have := HLn 0 5 (by omega); rw [List.drop_zero] at this; rw [this]; decide) (HP 0 5 c (by omega) (by decide) (by omega)))
        have HE5 : Hid (∀ u : World, w.grownBy u none → ∀ v', Rd u (fun g => w.heap.size ≤ g) v' (layL (sumL ((201 :: r).take 5)) 4) → Calls Tryz.prog 119 #[v', .slice (some ⟨b, off + 5, none⟩) 4 (c - 5)] u fun e w' => e = .returned (.bool (decide (numL (((201 :: r).drop 5).take 4) = sumL ((201 :: r).take 5)))) ∧ w.grownBy w' none) := hid (eqC _ (by have := sumL_lt ((201 :: r).take 5); omega) (HLn 5 4 (by omega)) (HP 5 4 (c - 5) (by omega) (by decide) (by omega)))
        have HOf : Hid (∀ u : World, w.grownBy u none → Calls Tryz.prog 114 #[.slice (some ⟨b, off + 1, none⟩) 4 (c - 1)] u fun e w' => e = .returned (.int .u64 (cnt (201 :: r))) ∧ w.grownBy w' none) := hid (ofC (by rw [HLn 1 4 (by omega)]; decide) (HP 1 4 (c - 1) (by omega) (by decide) (by omega)))
        have hcl : cnt (201 :: r) < 4294967296 := numL_lt 4 _ (HLn 1 4 (by omega))
        have HB : Hid (unfrE (201 :: r) ≠ 0 → unfB (201 :: r) = []) := hid (fun h => by unfold unfB; rw [if_neg h])
        rw [HN.out] at hlong
        generalize numL (((201 :: r).drop 5).take 4) = X at hlong HE5
        generalize hY : sumL ((201 :: r).take 5) = Y at hlong HE5 HS5
        clear hY
        generalize layL Y 4 = YL at HE5 HS5
        have i1 : (5 : Int) ≤ (c : Int) := by omega
        have i2 : (9 : Int) ≤ (c : Int) := by omega
        have i3 : 5 ≤ c := by omega
        have i4 : 9 ≤ c := by omega
        by_cases hxy : X = Y
        · rw [decide_eq_true hxy] at HE5
          rw [if_neg (by simpa using hxy)] at hlong
          clear hxy
          by_cases hC : 16777216 < cnt (201 :: r)
          · rw [if_pos hC] at hlong
            rw [hlong, HB.out (by rw [hlong]; decide), if_neg (by decide)]
            clear HP HLn hlong HB
            generalize cnt (201 :: r) = C at *
            have hd : decide ((16777216 : Int) < (C : Int)) = true := decide_eq_true (by omega)
            have HcC := hid hC
            clear hC hcl
            go_enter Tryz.func65, Tryz.ntmps65
            go_wp2_with fail
            go_region_held3 (fun _ => True) (trivial) (first
              | (go_at_call 118; refine (HS5.out _ (by first | exact grefl _ _ | exact gdrew1 _ _)).mono ?_; rintro e w2 ⟨v2, rfl, hR2, hg2⟩; have HR2 := hid hR2; have HG2 := hid hg2; clear hR2 hg2)
              | (go_at_call 119; refine (HE5.out _ (by first | exact HG2.out | exact gtrans HG2.out (gdrew1 _ _)) _ (by first | exact HR2.out | exact HR2.out.keep (gdrew1 _ _))).mono ?_; rintro e w3 ⟨rfl, hg3⟩; have HG3 := hid hg3; clear hg3))
            go_wp2_with (go_at_call 114; refine (HOf.out _ HG3.out).mono ?_; rintro e w4 ⟨rfl, hg4⟩; have HG4 := hid hg4; clear hg4)
            go_ret3
            exact ⟨_, rfl, Out.nil _ _, HG4.out⟩
          · rw [if_neg hC] at hlong
            by_cases hs : n < cnt (201 :: r) + 13
            · rw [if_pos hs] at hlong
              rw [hlong, HB.out (by rw [hlong]; decide), if_neg (by decide)]
              clear HP HLn hlong HB
              generalize cnt (201 :: r) = C at *
              have hd : decide ((16777216 : Int) < (C : Int)) = false := decide_eq_false (by omega)
              have p1 : IntKind.u64.wrap (n : Int) = (n : Int) := by rw [IntKind.wrap_u64]; omega
              have p2 : IntKind.u64.wrap ((C : Int) + 13) = (C : Int) + 13 := by rw [IntKind.wrap_u64]; omega
              have hd2 : decide ((n : Int) < (C : Int) + 13) = true := decide_eq_true (by omega)
              clear hC hcl hs
              go_enter Tryz.func65, Tryz.ntmps65
              go_wp2_with fail
              go_region_held3 (fun _ => True) (trivial) (first
                | (go_at_call 118; refine (HS5.out _ (by first | exact grefl _ _ | exact gdrew1 _ _)).mono ?_; rintro e w2 ⟨v2, rfl, hR2, hg2⟩; have HR2 := hid hR2; have HG2 := hid hg2; clear hR2 hg2)
                | (go_at_call 119; refine (HE5.out _ (by first | exact HG2.out | exact gtrans HG2.out (gdrew1 _ _)) _ (by first | exact HR2.out | exact HR2.out.keep (gdrew1 _ _))).mono ?_; rintro e w3 ⟨rfl, hg3⟩; have HG3 := hid hg3; clear hg3))
              go_wp2_with (go_at_call 114; refine (HOf.out _ HG3.out).mono ?_; rintro e w4 ⟨rfl, hg4⟩; have HG4 := hid hg4; clear hg4)
              go_ret3
              exact ⟨_, rfl, Out.nil _ _, HG4.out⟩
            · rw [if_neg hs] at hlong
              have hbl : (bodyL (201 :: r)).length = cnt (201 :: r) := HLn 9 _ (by omega)
              have hbody : Rd w F (.slice (some ⟨b, off + 9, none⟩) (cnt (201 :: r)) (c - 9)) (bodyL (201 :: r)) := by
                by_cases hz : cnt (201 :: r) = 0
                · have : bodyL (201 :: r) = [] := List.eq_nil_of_length_eq_zero (by omega)
                  rw [this, hz]
                  exact ⟨some ⟨b, off + 9, none⟩, 0, 0, c - 9, rfl, Nat.zero_le _, (fun h => by cases h), (fun h => by simp at h), fun i h => by simp at h⟩
                · exact HP 9 (cnt (201 :: r)) (c - 9) (by omega) (by omega) (by omega)
              have HS9 := hid (sumC (by rw [hbl]; omega) hbody)
              have HE9 := hid (eqC (sumL (bodyL (201 :: r))) (by have := sumL_lt (bodyL (201 :: r)); omega) (HLn (9 + cnt (201 :: r)) 4 (by omega)) (HP (9 + cnt (201 :: r)) 4 (c - (9 + cnt (201 :: r))) (by omega) (by decide) (by omega)))
              have HCp := hid (copyC (by rw [hbl]; omega) hbody)
              have HB0 : Hid (unfrE (201 :: r) = 0 → unfB (201 :: r) = bodyL (201 :: r)) := hid (fun h => by unfold unfB; rw [if_pos h])
              clear HP HLn hbl hbody
              generalize unfrE (201 :: r) = E at *
              generalize unfB (201 :: r) = UB at *
              generalize bodyL (201 :: r) = Bd at *
              generalize cnt (201 :: r) = C at *
              generalize numL (((201 :: r).drop (9 + C)).take 4) = X2 at *
              generalize sumL Bd = Y2 at *
              generalize layL Y2 4 = YL2 at *
              have hd : decide ((16777216 : Int) < (C : Int)) = false := decide_eq_false (by omega)
              have p1 : IntKind.u64.wrap (n : Int) = (n : Int) := by rw [IntKind.wrap_u64]; omega
              have p2 : IntKind.u64.wrap ((C : Int) + 13) = (C : Int) + 13 := by rw [IntKind.wrap_u64]; omega
              have hd2 : decide ((n : Int) < (C : Int) + 13) = false := decide_eq_false (by omega)
              have p3 : IntKind.i64.wrap (C : Int) = (C : Int) := by rw [IntKind.wrap_i64]; omega
              obtain ⟨En, hEn⟩ : ∃ z, 9 + C = z := ⟨_, rfl⟩
              have e9 : 9 + (C : Int) = (En : Int) := by omega
              have hC9 : C = En - 9 := by omega
              have j1 : (9 : Int) ≤ (En : Int) := by omega
              have j2 : (En : Int) ≤ (c : Int) := by omega
              have j3 : (En : Int) ≤ (En : Int) + 4 := by omega
              have j4 : (En : Int) + 4 ≤ (c : Int) := by omega
              have j6 : (0 : Int) ≤ (En : Int) + 4 := by omega
              have w4' : IntKind.i64.wrap (9 + (C : Int)) = 9 + (C : Int) := by rw [IntKind.wrap_i64]; omega
              have w5' : IntKind.i64.wrap ((En : Int) + 4) = (En : Int) + 4 := by rw [IntKind.wrap_i64]; omega
              have nc1 : ¬ c = 9 := by omega
              have nc2 : ¬ c = En := by omega
              have HFin : Hid (((C + 13 : Nat) : Int) = (En : Int) + 4) := hid (by omega)
              rw [hEn] at HE9
              replace HE9 : Hid (∀ u : World, w.grownBy u none → ∀ v', Rd u (fun g => w.heap.size ≤ g) v' YL2 → Calls Tryz.prog 119 #[v', .slice (some ⟨b, off + En, none⟩) (((En : Int) + 4).toNat - En) (c - En)] u fun e w' => e = .returned (.bool (decide (X2 = Y2))) ∧ w.grownBy w' none) := hid (by rw [show ((En : Int) + 4).toNat - En = 4 by omega]; exact HE9.out)
              rw [show #[Value.slice (some ⟨b, off + 9, none⟩) C (c - 9)] = #[Value.slice (some ⟨b, off + 9, none⟩) (En - 9) (c - 9)] by rw [hC9]] at HS9 HCp
              have HE9e := hid e9
              clear hEn hC9 e9
              by_cases hxy : X2 = Y2
              · rw [decide_eq_true hxy] at HE9
                rw [if_neg (by simpa using hxy)] at hlong
                subst hlong
                rw [if_pos rfl, HB0.out rfl]
                clear hxy HB HB0
                go_enter Tryz.func65, Tryz.ntmps65
                go_wp2_with fail
                go_region_held3 (fun _ => True) (trivial) (first
                  | (go_at_call 118; refine (HS5.out _ (by first | exact grefl _ _ | exact gdrew1 _ _)).mono ?_; rintro e w2 ⟨v2, rfl, hR2, hg2⟩; have HR2 := hid hR2; have HG2 := hid hg2; clear hR2 hg2)
                  | (go_at_call 119; refine (HE5.out _ (by first | exact HG2.out | exact gtrans HG2.out (gdrew1 _ _)) _ (by first | exact HR2.out | exact HR2.out.keep (gdrew1 _ _))).mono ?_; rintro e w3 ⟨rfl, hg3⟩; have HG3 := hid hg3; clear hg3))
                go_wp2_with (go_at_call 114; refine (HOf.out _ HG3.out).mono ?_; rintro e w4 ⟨rfl, hg4⟩; have HG4 := hid hg4; clear hg4)
                rw [HE9e.out]
                clear w4' p1 p2 p3 hd hd2
                go_region_held3 (fun _ => True) (trivial) (first
                  | (go_at_call 118; (with_reducible refine (HS9.out _ (by first | exact HG4.out | exact gtrans HG4.out (gdrew1 _ _))).mono ?_); rintro e w5 ⟨v5, rfl, hR5, hg5⟩; have HR5 := hid hR5; have HG5 := hid hg5; clear hR5 hg5)
                  | (go_at_call 119; (with_reducible refine (HE9.out _ (by first | exact HG5.out | exact gtrans HG5.out (gdrew1 _ _)) _ (by first | exact HR5.out | exact HR5.out.keep (gdrew1 _ _))).mono ?_); rintro e w6 ⟨rfl, hg6⟩; have HG6 := hid hg6; clear hg6))
                go_wp2_with (go_at_call 51; refine (HCp.out _ HG6.out).mono ?_; rintro e w7 ⟨v7, rfl, hO7, hg7⟩; have HO7 := hid hO7; have HG7 := hid hg7; clear hO7 hg7)
                go_ret3
                exact ⟨_, by first | rfl | (rw [HFin.out]; rfl), HO7.out, HG7.out⟩
              · rw [decide_eq_false hxy] at HE9
                rw [if_pos hxy] at hlong
                subst hlong
                rw [if_neg (by decide), HB.out (by decide)]
                clear hxy HB HB0
                go_enter Tryz.func65, Tryz.ntmps65
                go_wp2_with fail
                go_region_held3 (fun _ => True) (trivial) (first
                  | (go_at_call 118; refine (HS5.out _ (by first | exact grefl _ _ | exact gdrew1 _ _)).mono ?_; rintro e w2 ⟨v2, rfl, hR2, hg2⟩; have HR2 := hid hR2; have HG2 := hid hg2; clear hR2 hg2)
                  | (go_at_call 119; refine (HE5.out _ (by first | exact HG2.out | exact gtrans HG2.out (gdrew1 _ _)) _ (by first | exact HR2.out | exact HR2.out.keep (gdrew1 _ _))).mono ?_; rintro e w3 ⟨rfl, hg3⟩; have HG3 := hid hg3; clear hg3))
                go_wp2_with (go_at_call 114; refine (HOf.out _ HG3.out).mono ?_; rintro e w4 ⟨rfl, hg4⟩; have HG4 := hid hg4; clear hg4)
                rw [HE9e.out]
                clear w4' p1 p2 p3 hd hd2
                go_region_held3 (fun _ => True) (trivial) (first
                  | (go_at_call 118; (with_reducible refine (HS9.out _ (by first | exact HG4.out | exact gtrans HG4.out (gdrew1 _ _))).mono ?_); rintro e w5 ⟨v5, rfl, hR5, hg5⟩; have HR5 := hid hR5; have HG5 := hid hg5; clear hR5 hg5)
                  | (go_at_call 119; (with_reducible refine (HE9.out _ (by first | exact HG5.out | exact gtrans HG5.out (gdrew1 _ _)) _ (by first | exact HR5.out | exact HR5.out.keep (gdrew1 _ _))).mono ?_); rintro e w6 ⟨rfl, hg6⟩; have HG6 := hid hg6; clear hg6))
                go_wp2_with fail
                go_ret3
                exact ⟨_, rfl, Out.nil _ _, HG6.out⟩
        · rw [decide_eq_false hxy] at HE5
          rw [if_pos hxy] at hlong
          rw [hlong, HB.out (by rw [hlong]; decide), if_neg (by decide)]
          clear hxy HP HLn hlong HB hcl
          go_enter Tryz.func65, Tryz.ntmps65
          go_wp2_with fail
          go_region_held3 (fun _ => True) (trivial) (first
            | (go_at_call 118; refine (HS5.out _ (by first | exact grefl _ _ | exact gdrew1 _ _)).mono ?_; rintro e w2 ⟨v2, rfl, hR2, hg2⟩; have HR2 := hid hR2; have HG2 := hid hg2; clear hR2 hg2)
            | (go_at_call 119; refine (HE5.out _ (by first | exact HG2.out | exact gtrans HG2.out (gdrew1 _ _)) _ (by first | exact HR2.out | exact HR2.out.keep (gdrew1 _ _))).mono ?_; rintro e w3 ⟨rfl, hg3⟩; have HG3 := hid hg3; clear hg3))
          go_wp2_with fail
          go_ret3
          exact ⟨_, rfl, Out.nil _ _, HG3.out⟩
    · have he : unfrE (x :: r) = 34 := by rw [unfrE_head _ (by rw [headE_form x r hx]; decide), headE_form x r hx]
      have hB : unfB (x :: r) = [] := by unfold unfB; rw [he, if_neg (by decide)]
      rw [he, hB, if_neg (by decide)]
      obtain ⟨e1, e2⟩ := byte_ne (k := 201) hx
      change ((x.toNat : Int) != 201) = true at e1
      change (x.toNat != 201) = true at e2
      clear hx he hB
      go_enter Tryz.func65, Tryz.ntmps65
      go_wp2_with fail
      go_ret3
      exact ⟨_, rfl, Out.nil _ _, grefl _ _⟩
end Go.Proofs.YtfalgjdhdgkbfaaGreatDoor
