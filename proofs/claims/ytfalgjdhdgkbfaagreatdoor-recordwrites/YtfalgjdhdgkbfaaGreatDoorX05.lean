/- Eq; the reference's Head and Frame. -/
import Derived.Test.YtfalgjdhdgkbfaaGreatDoorX04
import Derived.Laws.OwnMore
import Derived.Deep.OwnRows
import Derived.Laws.IdiomStrings
namespace Go.Proofs.YtfalgjdhdgkbfaaGreatDoor
open Go Go.RowKit
open Go.RowKit (wrap32 wrap64)

theorem u8_neq {x y : UInt8} (h : ¬ x = y) : ¬ (x.toNat : Int) = (y.toNat : Int) := fun e => h (UInt8.toNat_inj.1 (by omega))
theorem take_step {x y : List UInt8} {i : Nat} (hl : x.length = y.length) (hi : i < x.length) (h : x.take i = y.take i) (he : x[i] = y[i]'(by omega)) : x.take (i + 1) = y.take (i + 1) := by
  rw [List.take_succ_eq_append_getElem hi, List.take_succ_eq_append_getElem (by omega), h, he]

set_option maxRecDepth 100000 in
set_option maxHeartbeats 800000 in
theorem eqR_any (w : World) (va vb : Value) (F G : Nat → Prop) (x y : List UInt8) (hx : Rd w F va x) (hy : Rd w G vb y) (hxl : x.length ≤ 140737488355328) :
    Calls Tryz.prog 119 #[va, vb] w fun e w' => e = .returned (.bool (decide (x = y))) ∧ ∃ k, w' = w.drewN k := by
  obtain ⟨a, b0, off, c, rfl, _, _, ha, hca⟩ := hx
  obtain ⟨a', b0', off', c', rfl, _, _, ha', hcb⟩ := hy
  by_cases hl : x.length = y.length
  · have HL := hid hl
    have HA := hid ha
    have HA' := hid ha'
    have HCA := hid hca
    have HCB := hid hcb
    obtain ⟨n, HN⟩ : ∃ n, Hid (x.length = n) := ⟨_, hid rfl⟩
    obtain ⟨D, HD⟩ : ∃ D, Hid (decide (x = y) = D) := ⟨_, hid rfl⟩
    rw [HD.out, ← hl, HN.out]
    rw [HN.out] at hxl
    clear hl ha ha' hca hcb
    go_enter Tryz.func119, Tryz.ntmps119
    go_wp2_with fail
    go_loopw [5] (fun iv wr => ∃ i : Nat, iv = .int .i64 i ∧ i ≤ n ∧ Hid (x.take i = y.take i) ∧ ∃ k, Hid (wr = w.drewN k)) (fun iv _ => n - (intOf iv).toNat)
    case atStart => exact ⟨0, rfl, Nat.zero_le _, hid rfl, 0, hid rfl⟩
    case round =>
      obtain ⟨i, rfl, hi, HT, d, HDr⟩ := hrel
      by_cases hlt : i < n
      · have hix : i < x.length := by rw [HN.out]; exact hlt
        have hiy : i < y.length := by rw [← HL.out]; exact hix
        obtain ⟨rfl, r1, _⟩ := HA.out (by omega)
        obtain ⟨rfl, r2, _⟩ := HA'.out (by omega)
        obtain ⟨xi, HXI⟩ : ∃ z, Hid (x[i] = z) := ⟨_, hid rfl⟩
        obtain ⟨yi, HYI⟩ : ∃ z, Hid (y[i] = z) := ⟨_, hid rfl⟩
        have q1 : wr.cell? ⟨b0, off + i, none⟩ = some (.int .u8 xi.toNat) := by rw [HDr.out, ← HXI.out]; exact HCA.out i hix
        have q2 : wr.cell? ⟨b0', off' + i, none⟩ = some (.int .u8 yi.toNat) := by rw [HDr.out, ← HYI.out]; exact HCB.out i hiy
        have s1 : b0 < wr.heap.size := by rw [HDr.out]; exact r1
        have s2 : b0' < wr.heap.size := by rw [HDr.out]; exact r2
        have hlt' : (i : Int) < (n : Int) := by omega
        clear r1 r2
        by_cases he : xi = yi
        · have HTN : Hid (x.take (i + 1) = y.take (i + 1)) := hid (take_step HL.out hix HT.out (by rw [HXI.out, HYI.out]; exact he))
          subst he
          obtain ⟨z, HZ⟩ : ∃ z : Int, Hid ((xi.toNat : Int) = z) := ⟨_, hid rfl⟩
          rw [HZ.out] at q1 q2
          clear HXI HYI hix hiy
          go_wp2_with fail
          go_quiet (fail)
          rename_i nq
          go_wp2_with fail
          go_roundw
          case rel => exact ⟨i + 1, by go_num, by omega, HTN, d + nq, hid (by rw [HDr.out, World.drewN_drewN])⟩
          case measure => simp [intOf]; omega
        · have hne := u8_neq he
          have HDf : Hid (D = false) := hid (by rw [← HD.out]; exact decide_eq_false (fun e => he (by rw [← HXI.out, ← HYI.out]; simp only [e])))
          obtain ⟨z, HZ⟩ : ∃ z : Int, Hid ((xi.toNat : Int) = z) := ⟨_, hid rfl⟩
          obtain ⟨z', HZ'⟩ : ∃ z : Int, Hid ((yi.toNat : Int) = z) := ⟨_, hid rfl⟩
          rw [HZ.out] at q1 hne
          rw [HZ'.out] at q2 hne
          clear HXI HYI he hix hiy
          go_wp2_with fail
          go_quiet (fail)
          rename_i nq
          go_wp2_with fail
          go_ret
          exact ⟨by rw [HDf.out]; rfl, d + nq, by rw [HDr.out, World.drewN_drewN]⟩
      · have he : i = n := by omega
        subst he
        have HDt : Hid (D = true) := hid (by
          rw [← HD.out]
          refine decide_eq_true ?_
          have := HT.out
          rw [List.take_of_length_le (by rw [HN.out]; exact Nat.le_refl _), List.take_of_length_le (by rw [← HL.out, HN.out]; exact Nat.le_refl _)] at this
          exact this)
        go_wp2_with fail
        go_ret
        exact ⟨by rw [HDt.out]; rfl, d, HDr.out⟩
  · have hb : ¬ (x.length : Int) = (y.length : Int) := by omega
    have HDf : Hid (decide (x = y) = false) := hid (decide_eq_false (fun e => hl (by rw [e])))
    rw [HDf.out]
    obtain ⟨n, HN⟩ : ∃ n, Hid (x.length = n) := ⟨_, hid rfl⟩
    obtain ⟨m, HM⟩ : ∃ n, Hid (y.length = n) := ⟨_, hid rfl⟩
    rw [HN.out, HM.out] at hb ⊢
    clear hl ha ha' hca hcb
    go_enter Tryz.func119, Tryz.ntmps119
    go_wp2_with fail
    go_ret
    exact ⟨rfl, 0, rfl⟩


theorem Out.lit1 (w : World) (B : Nat) (c : UInt8) (hB : B ≤ w.heap.size) : Out B (w.alloc (.cells #[.int .u8 c.toNat] 5)) (.slice (some ⟨w.heap.size, 0, none⟩) 1 1) [c] :=
  ⟨rfl, .inr ⟨w.heap.size, 1, #[.int .u8 c.toNat], rfl, hB, heap_new w _ _, Nat.le_refl _, by decide, rfl, rfl⟩⟩

set_option maxRecDepth 100000 in
set_option maxHeartbeats 2000000 in
theorem headR_any (w : World) (n : Nat) (hn : n ≤ 16777216) :
    Calls Tryz.prog 117 #[.int .i64 n] w fun e w' => ∃ v', e = .returned v' ∧ Out w.heap.size w' v' (head5 n ++ layL (sumL (head5 n)) 4) ∧ w.grownBy w' none := by
  have HNu0 := numbR_any w n 4 (by omega) (by decide)
  rw [show (((4 : Nat) : Int)) = 4 from rfl] at HNu0
  have HNu := hid HNu0; clear HNu0
  have HL5 : Hid (([201] ++ layL n 4 : List UInt8).length = 5) := hid (by rw [List.length_append, layL_length]; rfl)
  have w1 : IntKind.u64.wrap (n : Int) = (n : Int) := by rw [IntKind.wrap_u64]; omega
  have HH5 : Hid ([201] ++ layL n 4 = head5 n) := hid rfl
  obtain ⟨NI, HNI⟩ : ∃ z : Int, Hid ((n : Int) = z) := ⟨_, hid rfl⟩
  obtain ⟨L4, HL4⟩ : ∃ z, Hid (layL n 4 = z) := ⟨_, hid rfl⟩
  have HK4 : Hid (L4.length = 4) := hid (by rw [← HL4.out]; exact layL_length n 4)
  rw [HL4.out, HNI.out] at HNu
  rw [HL4.out] at HL5 HH5
  rw [HNI.out] at w1 ⊢
  rw [← HH5.out]
  clear hn
  go_enter Tryz.func117, Tryz.ntmps117
  go_wp2_with (first
    | (go_at_call 71; (with_reducible refine HNu.out.mono ?_); rintro e w2 ⟨v2, rfl, hO2, hg2⟩; have HO2 := hid hO2; have HB2 := hid (gbelow hg2); have hz2 := hg2.size; clear hO2 hg2)
    | (at_builtin; refine wpList_append_rd rfl _ _ rfl w.heap.size _ [201] L4 (Out.lit1 w2 w.heap.size 201 hz2) (HO2.out.keep (galloc w2 _ none)).rd (by rw [HK4.out]; decide) (by simp; omega) ?_; intro v3 w3 hO3 hg3 _; have HO3 := hid hO3; have HB3 := hid ((HB2.out.trans ((Below.refl _ _).alloc hz2 _)).trans (below_grown hg3 (by simp; omega) (fun j hj => (Out.lit1 w2 w.heap.size 201 hz2).block j hj))); have hz3 := HB3.out.size; clear hO3 hg3)
    | (go_at_call 118; refine (ssumR_any ([201] ++ L4) _ _ _ (by rw [HL5.out]; decide) HO3.out.rd).mono ?_; rintro e w4 ⟨v4, rfl, hO4, hg4⟩; have HO4 := hid (hO4.below hz3); have HO3' := hid (HO3.out.keep hg4); have HB4 := hid (HB3.out.trans (below_grown hg4 hz3 (fun j hj => by cases hj))); have hz4 := HB4.out.size; clear hO4 hg4)
    | (at_builtin; refine wpList_append_rd rfl _ _ rfl w.heap.size _ ([201] ++ L4) _ HO3'.out HO4.out.rd (by rw [HL5.out, layL_length]; decide) hz4 ?_; intro v5 w5 hO5 hg5 _; have HO5 := hid hO5; have HB5 := hid (HB4.out.trans (below_grown hg5 hz4 (fun j hj => HO3'.out.block j hj))); clear hO5 hg5))
  go_ret
  exact ⟨_, rfl, HO5.out, gof HB5.out none⟩

set_option maxRecDepth 100000 in
set_option maxHeartbeats 2000000 in
theorem frameR_ok (l : List UInt8) (F : Nat → Prop) (v : Value) (w : World) (hl : l.length ≤ 16777216) (hr : Rd w F v l) :
    Calls Tryz.prog 62 #[v] w fun e w' => ∃ v', e = .returned (.tuple #[v', .int .i64 0]) ∧ Out w.heap.size w' v' (frameL l) ∧ w.grownBy w' none := by
  have HR : Hid (∀ u : World, Below w.heap.size w u → Rd u F v l) := fun u hu => hr.keep (gof hu none)
  have HHd := hid (headR_any w l.length hl)
  have hd : decide ((16777216 : Int) < (l.length : Int)) = false := decide_eq_false (by omega)
  obtain ⟨H9, HH9⟩ : ∃ z, Hid (head5 l.length ++ layL (sumL (head5 l.length)) 4 = z) := ⟨_, hid rfl⟩
  have HFL : Hid (frameL l = H9 ++ l ++ layL (sumL l) 4) := hid (by rw [← HH9.out]; rfl)
  have HK9 : Hid (H9.length = 9) := hid (by rw [← HH9.out]; simp [head5, layL_length])
  have HLl := hid hl
  rw [HH9.out] at HHd
  obtain ⟨a, b, off, c, rfl, -⟩ := hr
  clear hl
  go_enter Tryz.func62, Tryz.ntmps62
  go_wp2_with (first
    | (go_at_call 117; (with_reducible refine HHd.out.mono ?_); rintro e w2 ⟨v2, rfl, hO2, hg2⟩; have HO2 := hid hO2; have HB2 := hid (gbelow hg2); have hz2 := hg2.size; clear hO2 hg2)
    | (at_builtin; refine wpList_append_rd rfl _ _ rfl w.heap.size F H9 l HO2.out (HR.out _ HB2.out) (by have := HK9.out; have := HLl.out; omega) hz2 ?_; intro v3 w3 hO3 hg3 _; have HO3 := hid hO3; have HB3 := hid (HB2.out.trans (below_grown hg3 hz2 (fun j hj => HO2.out.block j hj))); have hz3 := HB3.out.size; clear hO3 hg3)
    | (go_at_call 118; refine (ssumR_any l F _ _ (by have := HLl.out; omega) (HR.out _ HB3.out)).mono ?_; rintro e w4 ⟨v4, rfl, hO4, hg4⟩; have HO4 := hid (hO4.below hz3); have HO3' := hid (HO3.out.keep hg4); have HB4 := hid (HB3.out.trans (below_grown hg4 hz3 (fun j hj => by cases hj))); have hz4 := HB4.out.size; clear hO4 hg4)
    | (at_builtin; refine wpList_append_rd rfl _ _ rfl w.heap.size _ (H9 ++ l) _ HO3'.out HO4.out.rd (by rw [List.length_append, layL_length]; have := HK9.out; have := HLl.out; omega) hz4 ?_; intro v5 w5 hO5 hg5 _; have HO5 := hid hO5; have HB5 := hid (HB4.out.trans (below_grown hg5 hz4 (fun j hj => HO3'.out.block j hj))); clear hO5 hg5))
  go_ret2
  exact ⟨_, rfl, by rw [HFL.out]; exact HO5.out, gof HB5.out none⟩

set_option maxHeartbeats 400000 in
theorem frameR_no (v : Value) (n c : Nat) (a : Option Addr) (w : World) (hv : v = .slice a n c) (hn : 16777216 < n) (hn2 : n ≤ 140737488355328) :
    Calls Tryz.prog 62 #[v] w fun e w' => e = .returned (.tuple #[.slice none 0 0, .int .i64 31]) ∧ w' = w := by
  subst hv
  have hd : decide ((16777216 : Int) < (n : Int)) = true := decide_eq_true (by omega)
  go_enter Tryz.func62, Tryz.ntmps62
  go_wp2_with fail
  go_ret2
  exact ⟨rfl, rfl⟩
end Go.Proofs.YtfalgjdhdgkbfaaGreatDoor

namespace Go.Proofs.YtfalgjdhdgkbfaaGreatDoor
open Go Go.RowKit
open Go.RowKit (wrap32 wrap64)

theorem sum_dec (S : Nat) (hS : S < 4294967296) (x : List UInt8) (hx : x.length = 4) : decide (layL S 4 = x) = decide (numL x = S) := by
  by_cases h : numL x = S
  · rw [decide_eq_true h]
    exact decide_eq_true (by rw [← h]; exact layL_numL 4 x hx)
  · rw [decide_eq_false h]
    exact decide_eq_false (fun e => h (by rw [← e]; exact numL_layL 4 S (by omega)))

/-- sum's and Eq's contracts on two parts of a row, in any world grown from w. -/
theorem sumC {w : World} {F : Nat → Prop} {v : Value} {x : List UInt8} (hx : x.length ≤ 140737488355328) (hr : Rd w F v x) : ∀ u : World, w.grownBy u none → Calls Tryz.prog 118 #[v] u fun e w' => ∃ v', e = .returned v' ∧ Rd w' (fun g => w.heap.size ≤ g) v' (layL (sumL x) 4) ∧ w.grownBy w' none := fun u hu =>
  (ssumR_any x F v u hx (hr.keep hu)).mono (by rintro e w' ⟨v', rfl, hO, hg⟩; exact ⟨v', rfl, (hO.below hu.size).rd, gtrans hu hg⟩)
theorem eqC {w : World} {F : Nat → Prop} {v : Value} {x : List UInt8} (S : Nat) (hS : S < 4294967296) (hx : x.length = 4) (hr : Rd w F v x) : ∀ u : World, w.grownBy u none → ∀ v', Rd u (fun g => w.heap.size ≤ g) v' (layL S 4) → Calls Tryz.prog 119 #[v', v] u fun e w' => e = .returned (.bool (decide (numL x = S))) ∧ w.grownBy w' none := fun u hu v' hv' =>
  (eqR_any u v' v _ F _ _ hv' (hr.keep hu) (by rw [layL_length]; decide)).mono (by rintro e w' ⟨rfl, k, rfl⟩; exact ⟨by rw [sum_dec S hS x hx], gtrans hu (gdrew _ _ _)⟩)
theorem ofC {w : World} {F : Nat → Prop} {v : Value} {x : List UInt8} (hx : x.length ≤ 8) (hr : Rd w F v x) : ∀ u : World, w.grownBy u none → Calls Tryz.prog 114 #[v] u fun e w' => e = .returned (.int .u64 (numL x)) ∧ w.grownBy w' none := fun u hu =>
  (ofR_any x F v u hx (hr.keep hu)).mono (by rintro e w' ⟨rfl, rfl⟩; exact ⟨rfl, hu⟩)
theorem copyC {w : World} {F : Nat → Prop} {v : Value} {x : List UInt8} (hx : x.length ≤ 17592186044416) (hr : Rd w F v x) : ∀ u : World, w.grownBy u none → Calls Tryz.prog 51 #[v] u fun e w' => ∃ v', e = .returned v' ∧ Out w.heap.size w' v' x ∧ w.grownBy w' none := fun u hu =>
  (copy_any x F v u hx (hr.keep hu)).mono (by rintro e w' ⟨v', rfl, hO, hg⟩; exact ⟨v', rfl, hO.below hu.size, gtrans hu hg⟩)

theorem unfrE_long (r : List UInt8) (h : 8 ≤ r.length) : unfrE (201 :: r) = if numL (((201 :: r).drop 5).take 4) ≠ sumL ((201 :: r).take 5) then 32 else if 16777216 < cnt (201 :: r) then 31 else if (201 :: r).length < cnt (201 :: r) + 13 then 30 else if numL (((201 :: r).drop (9 + cnt (201 :: r))).take 4) ≠ sumL (bodyL (201 :: r)) then 32 else 0 := by
  have e := headE_long r h
  by_cases h1 : numL (((201 :: r).drop 5).take 4) ≠ sumL ((201 :: r).take 5)
  · rw [if_pos h1] at e ⊢
    rw [unfrE_head _ (by rw [e]; decide), e]
  · rw [if_neg h1] at e ⊢
    by_cases h2 : 16777216 < cnt (201 :: r)
    · rw [if_pos h2] at e ⊢
      rw [unfrE_head _ (by rw [e]; decide), e]
    · rw [if_neg h2] at e ⊢
      by_cases h3 : (201 :: r).length < cnt (201 :: r) + 13
      · rw [if_pos h3, unfrE_short _ e h3]
      · rw [if_neg h3, unfrE_rest _ e h3]

set_option maxRecDepth 100000 in
set_option maxHeartbeats 4000000 in
theorem unframeR_any (l : List UInt8) (F : Nat → Prop) (v : Value) (w : World) (hl : l.length ≤ 140737488355328) (hr : Rd w F v l) :
    Calls Tryz.prog 65 #[v] w fun e w' => ∃ v', e = .returned (.tuple #[v', .int .i64 (if unfrE l = 0 then ((cnt l + 13 : Nat) : Int) else 0), .int .i64 (unfrE l)]) ∧ Out w.heap.size w' v' (unfB l) ∧ w.grownBy w' none := by
  obtain ⟨a, b, off, c, rfl, hc, hn, ha, hcell⟩ := hr
  match l, hl, hc, ha, hcell with
  | [], hl, hc, ha, hcell =>
    have he : unfrE [] = 30 := by rw [unfrE_head [] (by rw [headE_nil]; decide), headE_nil]
    have hB : unfB [] = [] := by unfold unfB; rw [he, if_neg (by decide)]
    rw [he, hB, if_neg (by decide)]
    clear ha hcell hn he hB
    go_enter Tryz.func65, Tryz.ntmps65
    go_wp2_with fail
    go_ret3
    exact ⟨_, rfl, Out.nil _ _, grefl _ _⟩
  | x :: r, hl, hc, ha, hcell =>
    obtain ⟨rfl, hb, hF⟩ := ha (by simp)
    have h0 := hcell 0 (by simp)
    simp only [List.getElem_cons_zero, Nat.add_zero] at h0
    have HC := hid hcell
    have HA := hid ha
    clear hcell hn ha
    have hxb := u8_bd x
    obtain ⟨n, HN⟩ : ∃ n, Hid ((x :: r).length = n) := ⟨_, hid rfl⟩
    have hrn : r.length + 1 = n := by have := HN.out; simp at this; omega
    have HRN := hid hrn
    have hn0 : 1 ≤ n := by omega
    rw [HN.out] at hl hc ⊢
    clear hrn
    by_cases hx : x = 201
    · subst hx
      change w.cell? ⟨b, off, none⟩ = some (.int .u8 201) at h0
      by_cases h9 : n < 9
      · have he : unfrE (201 :: r) = 30 := by rw [unfrE_head _ (by rw [headE_short r (by have := HRN.out; omega)]; decide), headE_short r (by have := HRN.out; omega)]
        have hB : unfB (201 :: r) = [] := by unfold unfB; rw [he, if_neg (by decide)]
        rw [he, hB, if_neg (by decide)]
        clear he hB
        go_enter Tryz.func65, Tryz.ntmps65
        go_wp2_with fail
        go_ret3
        exact ⟨_, rfl, Out.nil _ _, grefl _ _⟩
      · have hlong := unfrE_long r (by have := HRN.out; omega)
        have HP : ∀ (i m cc : Nat), i + m ≤ n → 0 < m → m ≤ cc → Rd w F (.slice (some ⟨b, off + i, none⟩) m cc) (((201 :: r).drop i).take m) := fun i m cc h1 h2 h3 => Rd.part HA.out HC.out i m cc (by rw [HN.out]; exact h1) h2 h3
        have HLn : ∀ (i m : Nat), i + m ≤ n → (((201 :: r).drop i).take m).length = m := fun i m h => by rw [List.length_take, List.length_drop, HN.out]; omega
        have HS5 : Hid (∀ u : World, w.grownBy u none → Calls Tryz.prog 118 #[.slice (some ⟨b, off, none⟩) 5 c] u fun e w' => ∃ v', e = .returned v' ∧ Rd w' (fun g => w.heap.size ≤ g) v' (layL (sumL ((201 :: r).take 5)) 4) ∧ w.grownBy w' none) := hid (sumC (by have := HLn 0 5 (by omega); rw [List.drop_zero] at this; rw [this]; decide) (HP 0 5 c (by omega) (by decide) (by omega)))
        have HE5 : Hid (∀ u : World, w.grownBy u none → ∀ v', Rd u (fun g => w.heap.size ≤ g) v' (layL (sumL ((201 :: r).take 5)) 4) → Calls Tryz.prog 119 #[v', .slice (some ⟨b, off + 5, none⟩) 4 (c - 5)] u fun e w' => e = .returned (.bool (decide (numL (((201 :: r).drop 5).take 4) = sumL ((201 :: r).take 5)))) ∧ w.grownBy w' none) := hid (eqC _ (by have := sumL_lt ((201 :: r).take 5); omega) (HLn 5 4 (by omega)) (HP 5 4 (c - 5) (by omega) (by decide) (by omega)))
        have HOf : Hid (∀ u : World, w.grownBy u none → Calls Tryz.prog 114 #[.slice (some ⟨b, off + 1, none⟩) 4 (c - 1)] u fun e w' => e = .returned (.int .u64 (cnt (201 :: r))) ∧ w.grownBy w' none) := hid (ofC (by rw [HLn 1 4 (by omega)]; decide) (HP 1 4 (c - 1) (by omega) (by decide) (by omega)))
        have hcl : cnt (201 :: r) < 4294967296 := numL_lt 4 _ (HLn 1 4 (by omega))
        have HB : Hid (unfrE (201 :: r) ≠ 0 → unfB (201 :: r) = []) := hid (fun h => by unfold unfB; rw [if_neg h])
        rw [HN.out] at hlong
        generalize numL (((201 :: r).drop 5).take 4) = X at hlong HE5
        generalize hY : sumL ((201 :: r).take 5) = Y at hlong HE5 HS5
        clear hY
        generalize layL Y 4 = YL at HE5 HS5
        have i1 : (5 : Int) ≤ (c : Int) := by omega
        have i2 : (9 : Int) ≤ (c : Int) := by omega
        have i3 : 5 ≤ c := by omega
        have i4 : 9 ≤ c := by omega
        by_cases hxy : X = Y
        · rw [decide_eq_true hxy] at HE5
          rw [if_neg (by simpa using hxy)] at hlong
          clear hxy
          by_cases hC : 16777216 < cnt (201 :: r)
          · rw [if_pos hC] at hlong
            rw [hlong, HB.out (by rw [hlong]; decide), if_neg (by decide)]
            clear HP HLn hlong HB
            generalize cnt (201 :: r) = C at *
            have hd : decide ((16777216 : Int) < (C : Int)) = true := decide_eq_true (by omega)
            have HcC := hid hC
            clear hC hcl
            go_enter Tryz.func65, Tryz.ntmps65
            go_wp2_with fail
            go_region_held3 (fun _ => True) (trivial) (first
              | (go_at_call 118; refine (HS5.out _ (by first | exact grefl _ _ | exact gdrew1 _ _)).mono ?_; rintro e w2 ⟨v2, rfl, hR2, hg2⟩; have HR2 := hid hR2; have HG2 := hid hg2; clear hR2 hg2)
              | (go_at_call 119; refine (HE5.out _ (by first | exact HG2.out | exact gtrans HG2.out (gdrew1 _ _)) _ (by first | exact HR2.out | exact HR2.out.keep (gdrew1 _ _))).mono ?_; rintro e w3 ⟨rfl, hg3⟩; have HG3 := hid hg3; clear hg3))
            go_wp2_with (go_at_call 114; refine (HOf.out _ HG3.out).mono ?_; rintro e w4 ⟨rfl, hg4⟩; have HG4 := hid hg4; clear hg4)
            go_ret3
            exact ⟨_, rfl, Out.nil _ _, HG4.out⟩
          · rw [if_neg hC] at hlong
            by_cases hs : n < cnt (201 :: r) + 13
            · rw [if_pos hs] at hlong
              rw [hlong, HB.out (by rw [hlong]; decide), if_neg (by decide)]
              clear HP HLn hlong HB
              generalize cnt (201 :: r) = C at *
              have hd : decide ((16777216 : Int) < (C : Int)) = false := decide_eq_false (by omega)
              have p1 : IntKind.u64.wrap (n : Int) = (n : Int) := by rw [IntKind.wrap_u64]; omega
              have p2 : IntKind.u64.wrap ((C : Int) + 13) = (C : Int) + 13 := by rw [IntKind.wrap_u64]; omega
              have hd2 : decide ((n : Int) < (C : Int) + 13) = true := decide_eq_true (by omega)
              clear hC hcl hs
              go_enter Tryz.func65, Tryz.ntmps65
              go_wp2_with fail
              go_region_held3 (fun _ => True) (trivial) (first
                | (go_at_call 118; refine (HS5.out _ (by first | exact grefl _ _ | exact gdrew1 _ _)).mono ?_; rintro e w2 ⟨v2, rfl, hR2, hg2⟩; have HR2 := hid hR2; have HG2 := hid hg2; clear hR2 hg2)
                | (go_at_call 119; refine (HE5.out _ (by first | exact HG2.out | exact gtrans HG2.out (gdrew1 _ _)) _ (by first | exact HR2.out | exact HR2.out.keep (gdrew1 _ _))).mono ?_; rintro e w3 ⟨rfl, hg3⟩; have HG3 := hid hg3; clear hg3))
              go_wp2_with (go_at_call 114; refine (HOf.out _ HG3.out).mono ?_; rintro e w4 ⟨rfl, hg4⟩; have HG4 := hid hg4; clear hg4)
              go_ret3
              exact ⟨_, rfl, Out.nil _ _, HG4.out⟩
            · rw [if_neg hs] at hlong
              have hbl : (bodyL (201 :: r)).length = cnt (201 :: r) := HLn 9 _ (by omega)
              have hbody : Rd w F (.slice (some ⟨b, off + 9, none⟩) (cnt (201 :: r)) (c - 9)) (bodyL (201 :: r)) := by
                by_cases hz : cnt (201 :: r) = 0
                · have : bodyL (201 :: r) = [] := List.eq_nil_of_length_eq_zero (by omega)
                  rw [this, hz]
                  exact ⟨some ⟨b, off + 9, none⟩, 0, 0, c - 9, rfl, Nat.zero_le _, (fun h => by cases h), (fun h => by simp at h), fun i h => by simp at h⟩
                · exact HP 9 (cnt (201 :: r)) (c - 9) (by omega) (by omega) (by omega)
              have HS9 := hid (sumC (by rw [hbl]; omega) hbody)
              have HE9 := hid (eqC (sumL (bodyL (201 :: r))) (by have := sumL_lt (bodyL (201 :: r)); omega) (HLn (9 + cnt (201 :: r)) 4 (by omega)) (HP (9 + cnt (201 :: r)) 4 (c - (9 + cnt (201 :: r))) (by omega) (by decide) (by omega)))
              have HCp := hid (copyC (by rw [hbl]; omega) hbody)
              have HB0 : Hid (unfrE (201 :: r) = 0 → unfB (201 :: r) = bodyL (201 :: r)) := hid (fun h => by unfold unfB; rw [if_pos h])
              clear HP HLn hbl hbody
              generalize unfrE (201 :: r) = E at *
              generalize unfB (201 :: r) = UB at *
              generalize bodyL (201 :: r) = Bd at *
              generalize cnt (201 :: r) = C at *
              generalize numL (((201 :: r).drop (9 + C)).take 4) = X2 at *
              generalize sumL Bd = Y2 at *
              generalize layL Y2 4 = YL2 at *
              have hd : decide ((16777216 : Int) < (C : Int)) = false := decide_eq_false (by omega)
              have p1 : IntKind.u64.wrap (n : Int) = (n : Int) := by rw [IntKind.wrap_u64]; omega
              have p2 : IntKind.u64.wrap ((C : Int) + 13) = (C : Int) + 13 := by rw [IntKind.wrap_u64]; omega
              have hd2 : decide ((n : Int) < (C : Int) + 13) = false := decide_eq_false (by omega)
              have p3 : IntKind.i64.wrap (C : Int) = (C : Int) := by rw [IntKind.wrap_i64]; omega
              obtain ⟨En, hEn⟩ : ∃ z, 9 + C = z := ⟨_, rfl⟩
              have e9 : 9 + (C : Int) = (En : Int) := by omega
              have hC9 : C = En - 9 := by omega
              have j1 : (9 : Int) ≤ (En : Int) := by omega
              have j2 : (En : Int) ≤ (c : Int) := by omega
              have j3 : (En : Int) ≤ (En : Int) + 4 := by omega
              have j4 : (En : Int) + 4 ≤ (c : Int) := by omega
              have j6 : (0 : Int) ≤ (En : Int) + 4 := by omega
              have w4' : IntKind.i64.wrap (9 + (C : Int)) = 9 + (C : Int) := by rw [IntKind.wrap_i64]; omega
              have w5' : IntKind.i64.wrap ((En : Int) + 4) = (En : Int) + 4 := by rw [IntKind.wrap_i64]; omega
              have nc1 : ¬ c = 9 := by omega
              have nc2 : ¬ c = En := by omega
              have HFin : Hid (((C + 13 : Nat) : Int) = (En : Int) + 4) := hid (by omega)
              rw [hEn] at HE9
              replace HE9 : Hid (∀ u : World, w.grownBy u none → ∀ v', Rd u (fun g => w.heap.size ≤ g) v' YL2 → Calls Tryz.prog 119 #[v', .slice (some ⟨b, off + En, none⟩) (((En : Int) + 4).toNat - En) (c - En)] u fun e w' => e = .returned (.bool (decide (X2 = Y2))) ∧ w.grownBy w' none) := hid (by rw [show ((En : Int) + 4).toNat - En = 4 by omega]; exact HE9.out)
              rw [show #[Value.slice (some ⟨b, off + 9, none⟩) C (c - 9)] = #[Value.slice (some ⟨b, off + 9, none⟩) (En - 9) (c - 9)] by rw [hC9]] at HS9 HCp
              have HE9e := hid e9
              clear hEn hC9 e9
              by_cases hxy : X2 = Y2
              · rw [decide_eq_true hxy] at HE9
                rw [if_neg (by simpa using hxy)] at hlong
                subst hlong
                rw [if_pos rfl, HB0.out rfl]
                clear hxy HB HB0
                go_enter Tryz.func65, Tryz.ntmps65
                go_wp2_with fail
                go_region_held3 (fun _ => True) (trivial) (first
                  | (go_at_call 118; refine (HS5.out _ (by first | exact grefl _ _ | exact gdrew1 _ _)).mono ?_; rintro e w2 ⟨v2, rfl, hR2, hg2⟩; have HR2 := hid hR2; have HG2 := hid hg2; clear hR2 hg2)
                  | (go_at_call 119; refine (HE5.out _ (by first | exact HG2.out | exact gtrans HG2.out (gdrew1 _ _)) _ (by first | exact HR2.out | exact HR2.out.keep (gdrew1 _ _))).mono ?_; rintro e w3 ⟨rfl, hg3⟩; have HG3 := hid hg3; clear hg3))
                go_wp2_with (go_at_call 114; refine (HOf.out _ HG3.out).mono ?_; rintro e w4 ⟨rfl, hg4⟩; have HG4 := hid hg4; clear hg4)
                rw [HE9e.out]
                clear w4' p1 p2 p3 hd hd2
                go_region_held3 (fun _ => True) (trivial) (first
                  | (go_at_call 118; (with_reducible refine (HS9.out _ (by first | exact HG4.out | exact gtrans HG4.out (gdrew1 _ _))).mono ?_); rintro e w5 ⟨v5, rfl, hR5, hg5⟩; have HR5 := hid hR5; have HG5 := hid hg5; clear hR5 hg5)
                  | (go_at_call 119; (with_reducible refine (HE9.out _ (by first | exact HG5.out | exact gtrans HG5.out (gdrew1 _ _)) _ (by first | exact HR5.out | exact HR5.out.keep (gdrew1 _ _))).mono ?_); rintro e w6 ⟨rfl, hg6⟩; have HG6 := hid hg6; clear hg6))
                go_wp2_with (go_at_call 51; refine (HCp.out _ HG6.out).mono ?_; rintro e w7 ⟨v7, rfl, hO7, hg7⟩; have HO7 := hid hO7; have HG7 := hid hg7; clear hO7 hg7)
                go_ret3
                exact ⟨_, by first | rfl | (rw [HFin.out]; rfl), HO7.out, HG7.out⟩
              · rw [decide_eq_false hxy] at HE9
                rw [if_pos hxy] at hlong
                subst hlong
                rw [if_neg (by decide), HB.out (by decide)]
                clear hxy HB HB0
                go_enter Tryz.func65, Tryz.ntmps65
                go_wp2_with fail
                go_region_held3 (fun _ => True) (trivial) (first
                  | (go_at_call 118; refine (HS5.out _ (by first | exact grefl _ _ | exact gdrew1 _ _)).mono ?_; rintro e w2 ⟨v2, rfl, hR2, hg2⟩; have HR2 := hid hR2; have HG2 := hid hg2; clear hR2 hg2)
                  | (go_at_call 119; refine (HE5.out _ (by first | exact HG2.out | exact gtrans HG2.out (gdrew1 _ _)) _ (by first | exact HR2.out | exact HR2.out.keep (gdrew1 _ _))).mono ?_; rintro e w3 ⟨rfl, hg3⟩; have HG3 := hid hg3; clear hg3))
                go_wp2_with (go_at_call 114; refine (HOf.out _ HG3.out).mono ?_; rintro e w4 ⟨rfl, hg4⟩; have HG4 := hid hg4; clear hg4)
                rw [HE9e.out]
                clear w4' p1 p2 p3 hd hd2
                go_region_held3 (fun _ => True) (trivial) (first
                  | (go_at_call 118; (with_reducible refine (HS9.out _ (by first | exact HG4.out | exact gtrans HG4.out (gdrew1 _ _))).mono ?_); rintro e w5 ⟨v5, rfl, hR5, hg5⟩; have HR5 := hid hR5; have HG5 := hid hg5; clear hR5 hg5)
                  | (go_at_call 119; (with_reducible refine (HE9.out _ (by first | exact HG5.out | exact gtrans HG5.out (gdrew1 _ _)) _ (by first | exact HR5.out | exact HR5.out.keep (gdrew1 _ _))).mono ?_); rintro e w6 ⟨rfl, hg6⟩; have HG6 := hid hg6; clear hg6))
                go_wp2_with fail
                go_ret3
                exact ⟨_, rfl, Out.nil _ _, HG6.out⟩
        · rw [decide_eq_false hxy] at HE5
          rw [if_pos hxy] at hlong
          rw [hlong, HB.out (by rw [hlong]; decide), if_neg (by decide)]
          clear hxy HP HLn hlong HB hcl
          go_enter Tryz.func65, Tryz.ntmps65
          go_wp2_with fail
          go_region_held3 (fun _ => True) (trivial) (first
            | (go_at_call 118; refine (HS5.out _ (by first | exact grefl _ _ | exact gdrew1 _ _)).mono ?_; rintro e w2 ⟨v2, rfl, hR2, hg2⟩; have HR2 := hid hR2; have HG2 := hid hg2; clear hR2 hg2)
            | (go_at_call 119; refine (HE5.out _ (by first | exact HG2.out | exact gtrans HG2.out (gdrew1 _ _)) _ (by first | exact HR2.out | exact HR2.out.keep (gdrew1 _ _))).mono ?_; rintro e w3 ⟨rfl, hg3⟩; have HG3 := hid hg3; clear hg3))
          go_wp2_with fail
          go_ret3
          exact ⟨_, rfl, Out.nil _ _, HG3.out⟩
    · have he : unfrE (x :: r) = 34 := by rw [unfrE_head _ (by rw [headE_form x r hx]; decide), headE_form x r hx]
      have hB : unfB (x :: r) = [] := by unfold unfB; rw [he, if_neg (by decide)]
      rw [he, hB, if_neg (by decide)]
      obtain ⟨e1, e2⟩ := byte_ne (k := 201) hx
      change ((x.toNat : Int) != 201) = true at e1
      change (x.toNat != 201) = true at e2
      clear hx he hB
      go_enter Tryz.func65, Tryz.ntmps65
      go_wp2_with fail
      go_ret3
      exact ⟨_, rfl, Out.nil _ _, grefl _ _⟩
end Go.Proofs.YtfalgjdhdgkbfaaGreatDoor

namespace Go.Proofs.YtfalgjdhdgkbfaaGreatDoor.Bk
open Go Go.RowKit
open Go.RowKit (wrap32 wrap64)

/-- Bytes as cells. -/
def cb (l : List UInt8) : List Value := l.map fun b => Value.int .u8 (b.toNat : Int)
theorem cb_append (l m : List UInt8) : cb (l ++ m) = cb l ++ cb m := by simp [cb]
theorem cb_length (l : List UInt8) : (cb l).length = l.length := by simp [cb]
theorem news_new (w : World) (cs : Array Value) (t : TypeId) : ∀ j u, cs.toList[j]? = some u → (w.alloc (.cells cs t)).cell? ((⟨w.heap.size, 0, none⟩ : Addr).add j) = some u :=
  World.news_of_block (B := w.heap.size) (cs := cs) (t := t) (fr := (0, 0)) (by show (w.heap.push _)[w.heap.size]? = _; simp)
/-- Bytes that a slice leads to, as a string. -/
theorem convert_sl (l : List UInt8) (a : Option Addr) (b off c : Nat) (w : World) (ha : 0 < l.length → a = some ⟨b, off, none⟩)
    (hcell : ∀ i (h : i < l.length), w.cell? ⟨b, off + i, none⟩ = some (.int .u8 l[i].toNat)) : (convert 28 9 (.slice a l.length c)).run Tryz.prog w = .ok (.string ⟨l.toArray⟩) w := by
  by_cases hl : 0 < l.length
  · rw [ha hl]
    have := run_convert_bytes_arg w 28 5 Tryz.underlying28 Tryz.underlying5 b off l.length c (l.map fun b => (b.toNat : Int)) (by simp) (fun i hi => by
      simp [hcell i hi, List.getD, List.getElem?_eq_getElem hi]) 9 Tryz.underlying9
    rw [this]
    have e : strOfNums (l.map fun b => (b.toNat : Int)) = ⟨l.toArray⟩ := by
      unfold strOfNums
      rw [List.map_map, show l.map ((fun n : Int => UInt8.ofNat n.toNat) ∘ fun b : UInt8 => (b.toNat : Int)) = l.map id from List.map_congr_left fun x _ => by simp, List.map_id]
    rw [e]
  · have : l = [] := by cases l with | nil => rfl | cons _ _ => simp at hl
    subst this
    rcases a with _ | ⟨b', o', sp⟩
    · exact run_convert_bytes_nil w 28 5 Tryz.underlying28 Tryz.underlying5 0 c 9 Tryz.underlying9
    · rw [run_convert_bytes_string w 28 9 5 _ _ _ Tryz.underlying28 Tryz.underlying5 Tryz.underlying9]
      have hl := run_loadCells_list (P := Tryz.prog) w ⟨b', o', sp⟩ [] (fun j v hj => by simp at hj)
      have := run_bytesToString (P := Tryz.prog) w ⟨b', o', sp⟩ 0 c [] (by simpa using hl)
      exact this
theorem Below.step {w w1 w2 : World} (h : Below w.heap.size w w1) (h' : Below w1.heap.size w1 w2) : Below w.heap.size w w2 := h.trans (h'.mono h.size)
/-- A slice of bytes that reads as l. -/
def Rd (w : World) (v : Value) (l : List UInt8) : Prop :=
  ∃ (a : Option Addr) (b off c : Nat), v = .slice a l.length c ∧ l.length ≤ c ∧ (a = none → c = 0) ∧ (0 < l.length → a = some ⟨b, off, none⟩ ∧ b < w.heap.size) ∧ ∀ i (h : i < l.length), w.cell? ⟨b, off + i, none⟩ = some (.int .u8 l[i].toNat)
theorem Rd.below {w w' : World} {v : Value} {l : List UInt8} (h : Rd w v l) (hb : Below w.heap.size w w') : Rd w' v l := by
  obtain ⟨a, b, off, c, hv, hc, hn, ha, hcell⟩ := h
  refine ⟨a, b, off, c, hv, hc, hn, fun hl => ⟨(ha hl).1, Nat.lt_of_lt_of_le (ha hl).2 hb.size⟩, fun i hi => ?_⟩
  rw [hb.cell (p := ⟨b, off + i, none⟩) (ha (by omega)).2]
  exact hcell i hi
theorem Rd.convert {w : World} {v : Value} {l : List UInt8} (h : Rd w v l) : (convert 28 9 v).run Tryz.prog w = .ok (.string ⟨l.toArray⟩) w := by
  obtain ⟨a, b, off, c, rfl, hc, _, ha, hcell⟩ := h
  exact convert_sl l a b off c w (fun hl => (ha hl).1) hcell
theorem Rd.own {w : World} {B n : Nat} {v : Value} {l : List UInt8} (hown : w.ownsRow B 5 1 v n (cb l)) : Rd w v l := by
  have hn : l.length = n := by have := hown.1; rw [cb_length] at this; omega
  rcases hown.2 with ⟨rfl, h0⟩ | ⟨g, cap, cur, rfl, hb, hg, hle, hm, hs, ht⟩
  · have : l = [] := by cases l with | nil => rfl | cons _ _ => simp at hn; omega
    subst this
    exact ⟨none, 0, 0, 0, rfl, Nat.le_refl _, fun _ => rfl, fun h => by simp at h, fun i h => by simp at h⟩
  · refine ⟨some ⟨g, 0, none⟩, g, 0, cap, by rw [hn], by omega, (fun h => by cases h), fun _ => ⟨rfl, (hown.lt g rfl).2⟩, fun i hi => ?_⟩
    have := hown.cells (g := g) rfl i (.int .u8 (l[i]'(by omega)).toNat) (by simp [cb, List.getElem?_eq_getElem (show i < l.length by omega)])
    rw [Addr.add_lit] at this
    exact this
theorem Rd.drewN {w : World} {v : Value} {l : List UInt8} (h : Rd w v l) (n : Nat) : Rd (w.drewN n) v l := h
theorem Rd.take {w : World} {a : Option Addr} {n c : Nat} {l : List UInt8} (h : Rd w (.slice a n c) l) (m : Nat) (hm : m ≤ l.length) : Rd w (.slice a m c) (l.take m) := by
  obtain ⟨a', b, off, c', hv, hc, hn, ha, hcell⟩ := h
  simp only [Value.slice.injEq] at hv
  obtain ⟨rfl, rfl, rfl⟩ := hv
  refine ⟨a, b, off, c, by rw [List.length_take, Nat.min_eq_left hm], by rw [List.length_take]; omega, hn, fun h => ha (by rw [List.length_take] at h; omega), fun i hi => ?_⟩
  rw [List.length_take] at hi
  rw [hcell i (by omega)]
  simp
/-- append of bytes that can be read onto a row that the call owns. -/
theorem wpList_append_rd {w : World} {ops : Array Oper} {rest : List Oper} {o : Oper} {a : Act} {Q : Exit → Act → World → Prop} (hgd : o.guard = none) (s x : Operand)
    (ho : o.op = .call { callee := .builtin .append, args := #[s, x], argTypes := #[28, 28] })
    (B : Nat) (v : Value) (n : Nat) (xs : List Value) (hs : a.eval s = v) (hown : w.ownsRow B 5 1 v n xs) (l : List UInt8) (hx : Rd w (a.eval x) l) (hn : n + l.length ≤ 1099511627776) (hB : B ≤ w.heap.size)
    (h : ∀ v' w', w'.ownsRow B 5 1 v' (n + l.length) (xs ++ cb l) → w.grownBy w' v.ownBlock → wpList Tryz.prog ops Q rest (a.put o.dst v') w') : wpList Tryz.prog ops Q (o :: rest) a w := by
  obtain ⟨inf, hi, hz0, hz1, hz2⟩ := info_parts Tryz.info5
  obtain ⟨ad, b, off, c, hv, hc, hnn, ha, hcell⟩ := hx
  cases ad with
  | none =>
    have hc0 := hnn rfl
    have hl : l = [] := by
      cases l with
      | nil => rfl
      | cons _ _ => have := (ha (by simp)).1; cases this
    subst hl
    subst hc0
    refine wpList_append_own_none hgd s x 28 ho B 5 inf 1 Tryz.underlying28 hi v n xs hs hown hv ?_
    exact h v w (by simpa [cb] using hown) (World.grownBy.refl _ _)
  | some ad =>
    refine wpList_append_own w hgd s x 28 ho B 5 inf (.int .u8 0) 1 1 Tryz.underlying28 hi hz0 hz1 hz2 rfl (by decide) v n xs hs hown ad l.length c (cb l) hv (by rw [cb_length]; omega) ?_ ?_ (by unfold maxLen; omega) (by omega) hB ?_
    · intro j u hu
      have hj : j < l.length := by have := (List.getElem?_eq_some_iff.1 hu).1; rwa [cb_length] at this
      have e1 : ad = ⟨b, off, none⟩ := Option.some.inj (ha (by omega)).1
      rw [e1, Addr.add_lit, hcell j hj]
      rw [← hu]
      simp [cb, List.getElem?_eq_getElem hj]
    · intro u hu
      unfold cb at hu
      obtain ⟨_, _, rfl⟩ := List.mem_map.1 hu
      rfl
    · intro v' w' h1 h2 _
      exact h v' w' h1 h2
theorem Below.drewN' (w : World) (m : Nat) : Below w.heap.size w (w.drewN m) := ⟨rfl, rfl, rfl, Nat.le_refl _, fun _ _ => rfl⟩
end Go.Proofs.YtfalgjdhdgkbfaaGreatDoor.Bk

namespace Go.Proofs.YtfalgjdhdgkbfaaGreatDoor.Bk
open Go Go.RowKit
open Go.RowKit (wrap32 wrap64)

/-- Byte k of the mark of list m. -/
def mark (m k : Nat) : UInt8 := if k % 2 = 0 then UInt8.ofNat (1 + m % 251) else UInt8.ofNat (1 + (7 * m + m / 251) % 251)
def markL (m n : Nat) : List UInt8 := (List.range n).map (mark m)

theorem markL_length (m n : Nat) : (markL m n).length = n := by simp [markL]
theorem markL_succ (m n : Nat) : markL m (n + 1) = markL m n ++ [mark m n] := by simp [markL, List.range_succ]

set_option maxRecDepth 100000 in
set_option maxHeartbeats 400000 in
theorem at_any (m k : Nat) (w : World) (hm : m ≤ 1099511627776) (hk : k ≤ 1099511627776) :
    Calls Tryz.prog 74 #[.int .i64 m, .int .i64 k] w fun e w' => e = .returned (.int .u8 (mark m k).toNat) ∧ w' = w := by
  by_cases h : k % 2 = 0
  · have e : ((mark m k).toNat : Int) = 1 + (m : Int) % 251 := by
      unfold mark
      rw [if_pos h, UInt8.toNat_ofNat']
      omega
    have h' : (k : Int) % 2 = 0 := by omega
    rw [e]
    clear e h
    go_enter Tryz.func74, Tryz.ntmps74
    go_wp2
    go_ret
    exact ⟨rfl, rfl⟩
  · have e : ((mark m k).toNat : Int) = 1 + (7 * (m : Int) + (m : Int) / 251) % 251 := by
      unfold mark
      rw [if_neg h, UInt8.toNat_ofNat']
      obtain ⟨q, hq⟩ : ∃ q, q = 7 * m + m / 251 := ⟨_, rfl⟩
      have hq2 : 7 * (m : Int) + (m : Int) / 251 = (q : Int) := by omega
      rw [← hq, hq2]
      omega
    have h' : ((k : Int) % 2 == 0) = false := beq_eq_false_iff_ne.2 (by omega)
    rw [e]
    clear e h
    go_enter Tryz.func74, Tryz.ntmps74
    go_wp2
    go_ret
    exact ⟨rfl, rfl⟩

/-- What the book's cells hold where it keeps lists of bytes alone. -/
def bkF (v0 v1 : Value) (A T D U : Int) (i : Nat) : Value :=
  if i = 0 then v0 else if i = 1 then v1 else if i = 2 then .int .i64 A else if i = 72 then .int .i64 T else if i = 73 then .int .i64 D else if i = 74 then .int .i64 U
  else if i % 3 = 2 then .int .i64 0 else .slice none 0 0

def Bkc (w : World) (bk : Nat) (v0 v1 : Value) (A T D U : Int) : Prop := w.rowIs bk 59 75 (bkF v0 v1 A T D U)

/-- All blocks but one are as they were. -/
structure But (w w' : World) (bk : Nat) : Prop where
  os : w'.os = w.os
  tape : w'.tape = w.tape
  output : w'.output = w.output
  size : w'.heap.size = w.heap.size
  block : ∀ k, k ≠ bk → w'.heap[k]? = w.heap[k]?

theorem But.refl (w : World) (bk : Nat) : But w w bk := ⟨rfl, rfl, rfl, rfl, fun _ _ => rfl⟩
theorem But.trans {a b c : World} {bk : Nat} (h : But a b bk) (k : But b c bk) : But a c bk :=
  ⟨k.os.trans h.os, k.tape.trans h.tape, k.output.trans h.output, k.size.trans h.size, fun i hi => (k.block i hi).trans (h.block i hi)⟩
theorem But.setCell (w : World) (bk i : Nat) (u : Value) : But w (w.setCell ⟨bk, i, none⟩ u) bk :=
  ⟨rfl, rfl, rfl, by simp [World.setCell], fun k hk => Below.heap_setCell _ _ _ _ hk⟩
theorem But.drewN (w : World) (bk n : Nat) : But w (w.drewN n) bk := ⟨rfl, rfl, rfl, rfl, fun _ _ => rfl⟩

theorem bkF_T (v0 v1 : Value) (A T D U T' : Int) (i : Nat) : (if i = 72 then Value.int .i64 T' else bkF v0 v1 A T D U i) = bkF v0 v1 A T' D U i := by
  unfold bkF
  by_cases h : i = 72
  · subst h; rfl
  · simp [h]
theorem bkF_D (v0 v1 : Value) (A T D U D' : Int) (i : Nat) : (if i = 73 then Value.int .i64 D' else bkF v0 v1 A T D U i) = bkF v0 v1 A T D' U i := by
  unfold bkF
  by_cases h : i = 73
  · subst h; rfl
  · simp [h]
theorem bkF_U (v0 v1 : Value) (A T D U U' : Int) (i : Nat) : (if i = 74 then Value.int .i64 U' else bkF v0 v1 A T D U i) = bkF v0 v1 A T D U' i := by
  unfold bkF
  by_cases h : i = 74
  · subst h; rfl
  · simp [h]
theorem bkF_A (v0 v1 : Value) (A T D U A' : Int) (i : Nat) : (if i = 2 then Value.int .i64 A' else bkF v0 v1 A T D U i) = bkF v0 v1 A' T D U i := by
  unfold bkF
  by_cases h : i = 2
  · subst h; rfl
  · simp [h]
theorem bkF_0 (v0 v1 : Value) (A T D U : Int) (v' : Value) (i : Nat) : (if i = 0 then v' else bkF v0 v1 A T D U i) = bkF v' v1 A T D U i := by
  unfold bkF
  by_cases h : i = 0
  · subst h; rfl
  · simp [h]
theorem bkF_1 (v0 v1 : Value) (A T D U : Int) (v' : Value) (i : Nat) : (if i = 1 then v' else bkF v0 v1 A T D U i) = bkF v0 v' A T D U i := by
  unfold bkF
  by_cases h : i = 1
  · subst h; rfl
  · simp [h]

set_option maxRecDepth 100000 in
set_option maxHeartbeats 400000 in
theorem tight_any (w : World) (bk : Nat) (v0 v1 : Value) (A T D U n : Int) (h : Bkc w bk v0 v1 A T D U) (hU0 : 0 ≤ U) (hU1 : U ≤ 16777216) (hn0 : 0 ≤ n) (hn1 : n ≤ 1099511627776) :
    Calls Tryz.prog 75 #[.pointer (some ⟨bk, 0, none⟩), .int .i64 n] w fun e w' => (e = .returned (.bool true) ∧ w' = w) ∨ (e = .returned (.bool false) ∧ Hid (U + n ≤ 16777216) ∧ Bkc w' bk v0 v1 A T D (U + n) ∧ But w w' bk) := by
  have hc := h.cell (i := 74) (by decide)
  have hc' : w.cell? ⟨bk, 74, none⟩ = some (.int .i64 U) := hc
  have hf := h.frozen 74
  have hlt := h.lt
  have H := hid h
  clear hc h
  by_cases hb : 16777216 < U + n
  · go_enter Tryz.func75, Tryz.ntmps75
    go_wp2
    go_ret
    exact .inl ⟨rfl, rfl⟩
  · have hb' : U + n ≤ 16777216 := by omega
    go_enter Tryz.func75, Tryz.ntmps75
    go_wp2
    go_ret
    exact .inr ⟨rfl, hid trivial, (H.out.set 74 _).congr (fun i _ => bkF_U v0 v1 A T D U (U + n) i), But.setCell _ _ _ _⟩
end Go.Proofs.YtfalgjdhdgkbfaaGreatDoor.Bk
