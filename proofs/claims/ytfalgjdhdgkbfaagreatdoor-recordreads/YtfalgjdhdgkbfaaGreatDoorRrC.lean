/- Eq; the reference's Head and Frame. -/
import Derived.Test.YtfalgjdhdgkbfaaGreatDoorRrB
import Derived.Laws.OwnMore
namespace Go.Proofs.YtfalgjdhdgkbfaaGreatDoor
open Go Go.RowKit
open Go.RowKit (wrap32 wrap64)

theorem u8_neq {x y : UInt8} (h : ¬ x = y) : ¬ (x.toNat : Int) = (y.toNat : Int) := fun e => h (UInt8.toNat_inj.1 (by omega))
theorem take_step {x y : List UInt8} {i : Nat} (hl : x.length = y.length) (hi : i < x.length) (h : x.take i = y.take i) (he : x[i] = y[i]'(by omega)) : x.take (i + 1) = y.take (i + 1) := by
  rw [List.take_succ_eq_append_getElem hi, List.take_succ_eq_append_getElem (by omega), h, he]

set_option maxRecDepth 100000 in
set_option maxHeartbeats 800000 in
theorem eqR_any (w : World) (va vb : Value) (F G : Nat → Prop) (x y : List UInt8) (hx : Rd w F va x) (hy : Rd w G vb y) (hxl : x.length ≤ 140737488355328) :
    Calls Tryz.prog 119 #[va, vb] w fun e w' => e = .returned (.bool (decide (x = y))) ∧ ∃ k, w' = w.drewN k := by
  obtain ⟨a, b0, off, c, rfl, _, _, ha, hca⟩ := hx
  obtain ⟨a', b0', off', c', rfl, _, _, ha', hcb⟩ := hy
  by_cases hl : x.length = y.length
  · have HL := hid hl
    have HA := hid ha
    have HA' := hid ha'
    have HCA := hid hca
    have HCB := hid hcb
    obtain ⟨n, HN⟩ : ∃ n, Hid (x.length = n) := ⟨_, hid rfl⟩
    obtain ⟨D, HD⟩ : ∃ D, Hid (decide (x = y) = D) := ⟨_, hid rfl⟩
    rw [HD.out, ← hl, HN.out]
    rw [HN.out] at hxl
    clear hl ha ha' hca hcb
    go_enter Tryz.func119, Tryz.ntmps119
    go_wp2_with fail
    go_loopw [5] (fun iv wr => ∃ i : Nat, iv = .int .i64 i ∧ i ≤ n ∧ Hid (x.take i = y.take i) ∧ ∃ k, Hid (wr = w.drewN k)) (fun iv _ => n - (intOf iv).toNat)
    case atStart => exact ⟨0, rfl, Nat.zero_le _, hid rfl, 0, hid rfl⟩
    case round =>
      obtain ⟨i, rfl, hi, HT, d, HDr⟩ := hrel
      by_cases hlt : i < n
      · have hix : i < x.length := by rw [HN.out]; exact hlt
        have hiy : i < y.length := by rw [← HL.out]; exact hix
        obtain ⟨rfl, r1, _⟩ := HA.out (by omega)
        obtain ⟨rfl, r2, _⟩ := HA'.out (by omega)
        obtain ⟨xi, HXI⟩ : ∃ z, Hid (x[i] = z) := ⟨_, hid rfl⟩
        obtain ⟨yi, HYI⟩ : ∃ z, Hid (y[i] = z) := ⟨_, hid rfl⟩
        have q1 : wr.cell? ⟨b0, off + i, none⟩ = some (.int .u8 xi.toNat) := by rw [HDr.out, ← HXI.out]; exact HCA.out i hix
        have q2 : wr.cell? ⟨b0', off' + i, none⟩ = some (.int .u8 yi.toNat) := by rw [HDr.out, ← HYI.out]; exact HCB.out i hiy
        have s1 : b0 < wr.heap.size := by rw [HDr.out]; exact r1
        have s2 : b0' < wr.heap.size := by rw [HDr.out]; exact r2
        have hlt' : (i : Int) < (n : Int) := by omega
        clear r1 r2
        by_cases he : xi = yi
        · have HTN : Hid (x.take (i + 1) = y.take (i + 1)) := hid (take_step HL.out hix HT.out (by rw [HXI.out, HYI.out]; exact he))
          subst he
          obtain ⟨z, HZ⟩ : ∃ z : Int, Hid ((xi.toNat : Int) = z) := ⟨_, hid rfl⟩
          rw [HZ.out] at q1 q2
          clear HXI HYI hix hiy
          go_wp2_with fail
          go_quiet (fail)
          rename_i nq
          go_wp2_with fail
          go_roundw
          case rel => exact ⟨i + 1, by go_num, by omega, HTN, d + nq, hid (by rw [HDr.out, World.drewN_drewN])⟩
          case measure => simp [intOf]; omega
        · have hne := u8_neq he
          have HDf : Hid (D = false) := hid (by rw [← HD.out]; exact decide_eq_false (fun e => he (by rw [← HXI.out, ← HYI.out]; simp only [e])))
          obtain ⟨z, HZ⟩ : ∃ z : Int, Hid ((xi.toNat : Int) = z) := ⟨_, hid rfl⟩
          obtain ⟨z', HZ'⟩ : ∃ z : Int, Hid ((yi.toNat : Int) = z) := ⟨_, hid rfl⟩
          rw [HZ.out] at q1 hne
          rw [HZ'.out] at q2 hne
          clear HXI HYI he hix hiy
          go_wp2_with fail
          go_quiet (fail)
          rename_i nq
          go_wp2_with fail
          go_ret
          exact ⟨by rw [HDf.out]; rfl, d + nq, by rw [HDr.out, World.drewN_drewN]⟩
      · have he : i = n := by omega
        subst he
        have HDt : Hid (D = true) := hid (by
          rw [← HD.out]
          refine decide_eq_true ?_
          have := HT.out
          rw [List.take_of_length_le (by rw [HN.out]; exact Nat.le_refl _), List.take_of_length_le (by rw [← HL.out, HN.out]; exact Nat.le_refl _)] at this
          exact this)
        go_wp2_with fail
        go_ret
        exact ⟨by rw [HDt.out]; rfl, d, HDr.out⟩
  · have hb : ¬ (x.length : Int) = (y.length : Int) := by omega
    have HDf : Hid (decide (x = y) = false) := hid (decide_eq_false (fun e => hl (by rw [e])))
    rw [HDf.out]
    obtain ⟨n, HN⟩ : ∃ n, Hid (x.length = n) := ⟨_, hid rfl⟩
    obtain ⟨m, HM⟩ : ∃ n, Hid (y.length = n) := ⟨_, hid rfl⟩
    rw [HN.out, HM.out] at hb ⊢
    clear hl ha ha' hca hcb
    go_enter Tryz.func119, Tryz.ntmps119
    go_wp2_with fail
    go_ret
    exact ⟨rfl, 0, rfl⟩


theorem Out.lit1 (w : World) (B : Nat) (c : UInt8) (hB : B ≤ w.heap.size) : Out B (w.alloc (.cells #[.int .u8 c.toNat] 5)) (.slice (some ⟨w.heap.size, 0, none⟩) 1 1) [c] :=
  ⟨rfl, .inr ⟨w.heap.size, 1, #[.int .u8 c.toNat], rfl, hB, heap_new w _ _, Nat.le_refl _, by decide, rfl, rfl⟩⟩

set_option maxRecDepth 100000 in
set_option maxHeartbeats 2000000 in
theorem headR_any (w : World) (n : Nat) (hn : n ≤ 16777216) :
    Calls Tryz.prog 117 #[.int .i64 n] w fun e w' => ∃ v', e = .returned v' ∧ Out w.heap.size w' v' (head5 n ++ layL (sumL (head5 n)) 4) ∧ w.grownBy w' none := by
  have HNu0 := numbR_any w n 4 (by omega) (by decide)
  rw [show (((4 : Nat) : Int)) = 4 from rfl] at HNu0
  have HNu := hid HNu0; clear HNu0
  have HL5 : Hid (([201] ++ layL n 4 : List UInt8).length = 5) := hid (by rw [List.length_append, layL_length]; rfl)
  have w1 : IntKind.u64.wrap (n : Int) = (n : Int) := by rw [IntKind.wrap_u64]; omega
  have HH5 : Hid ([201] ++ layL n 4 = head5 n) := hid rfl
  obtain ⟨NI, HNI⟩ : ∃ z : Int, Hid ((n : Int) = z) := ⟨_, hid rfl⟩
  obtain ⟨L4, HL4⟩ : ∃ z, Hid (layL n 4 = z) := ⟨_, hid rfl⟩
  have HK4 : Hid (L4.length = 4) := hid (by rw [← HL4.out]; exact layL_length n 4)
  rw [HL4.out, HNI.out] at HNu
  rw [HL4.out] at HL5 HH5
  rw [HNI.out] at w1 ⊢
  rw [← HH5.out]
  clear hn
  go_enter Tryz.func117, Tryz.ntmps117
  go_wp2_with (first
    | (go_at_call 71; (with_reducible refine HNu.out.mono ?_); rintro e w2 ⟨v2, rfl, hO2, hg2⟩; have HO2 := hid hO2; have HB2 := hid (gbelow hg2); have hz2 := hg2.size; clear hO2 hg2)
    | (at_builtin; refine wpList_append_rd rfl _ _ rfl w.heap.size _ [201] L4 (Out.lit1 w2 w.heap.size 201 hz2) (HO2.out.keep (galloc w2 _ none)).rd (by rw [HK4.out]; decide) (by simp; omega) ?_; intro v3 w3 hO3 hg3 _; have HO3 := hid hO3; have HB3 := hid ((HB2.out.trans ((Below.refl _ _).alloc hz2 _)).trans (below_grown hg3 (by simp; omega) (fun j hj => (Out.lit1 w2 w.heap.size 201 hz2).block j hj))); have hz3 := HB3.out.size; clear hO3 hg3)
    | (go_at_call 118; refine (ssumR_any ([201] ++ L4) _ _ _ (by rw [HL5.out]; decide) HO3.out.rd).mono ?_; rintro e w4 ⟨v4, rfl, hO4, hg4⟩; have HO4 := hid (hO4.below hz3); have HO3' := hid (HO3.out.keep hg4); have HB4 := hid (HB3.out.trans (below_grown hg4 hz3 (fun j hj => by cases hj))); have hz4 := HB4.out.size; clear hO4 hg4)
    | (at_builtin; refine wpList_append_rd rfl _ _ rfl w.heap.size _ ([201] ++ L4) _ HO3'.out HO4.out.rd (by rw [HL5.out, layL_length]; decide) hz4 ?_; intro v5 w5 hO5 hg5 _; have HO5 := hid hO5; have HB5 := hid (HB4.out.trans (below_grown hg5 hz4 (fun j hj => HO3'.out.block j hj))); clear hO5 hg5))
  go_ret
  exact ⟨_, rfl, HO5.out, gof HB5.out none⟩

set_option maxRecDepth 100000 in
set_option maxHeartbeats 2000000 in
theorem frameR_ok (l : List UInt8) (F : Nat → Prop) (v : Value) (w : World) (hl : l.length ≤ 16777216) (hr : Rd w F v l) :
    Calls Tryz.prog 62 #[v] w fun e w' => ∃ v', e = .returned (.tuple #[v', .int .i64 0]) ∧ Out w.heap.size w' v' (frameL l) ∧ w.grownBy w' none := by
  have HR : Hid (∀ u : World, Below w.heap.size w u → Rd u F v l) := fun u hu => hr.keep (gof hu none)
  have HHd := hid (headR_any w l.length hl)
  have hd : decide ((16777216 : Int) < (l.length : Int)) = false := decide_eq_false (by omega)
  obtain ⟨H9, HH9⟩ : ∃ z, Hid (head5 l.length ++ layL (sumL (head5 l.length)) 4 = z) := ⟨_, hid rfl⟩
  have HFL : Hid (frameL l = H9 ++ l ++ layL (sumL l) 4) := hid (by rw [← HH9.out]; rfl)
  have HK9 : Hid (H9.length = 9) := hid (by rw [← HH9.out]; simp [head5, layL_length])
  have HLl := hid hl
  rw [HH9.out] at HHd
  obtain ⟨a, b, off, c, rfl, -⟩ := hr
  clear hl
  go_enter Tryz.func62, Tryz.ntmps62
  go_wp2_with (first
    | (go_at_call 117; (with_reducible refine HHd.out.mono ?_); rintro e w2 ⟨v2, rfl, hO2, hg2⟩; have HO2 := hid hO2; have HB2 := hid (gbelow hg2); have hz2 := hg2.size; clear hO2 hg2)
    | (at_builtin; refine wpList_append_rd rfl _ _ rfl w.heap.size F H9 l HO2.out (HR.out _ HB2.out) (by have := HK9.out; have := HLl.out; omega) hz2 ?_; intro v3 w3 hO3 hg3 _; have HO3 := hid hO3; have HB3 := hid (HB2.out.trans (below_grown hg3 hz2 (fun j hj => HO2.out.block j hj))); have hz3 := HB3.out.size; clear hO3 hg3)
    | (go_at_call 118; refine (ssumR_any l F _ _ (by have := HLl.out; omega) (HR.out _ HB3.out)).mono ?_; rintro e w4 ⟨v4, rfl, hO4, hg4⟩; have HO4 := hid (hO4.below hz3); have HO3' := hid (HO3.out.keep hg4); have HB4 := hid (HB3.out.trans (below_grown hg4 hz3 (fun j hj => by cases hj))); have hz4 := HB4.out.size; clear hO4 hg4)
    | (at_builtin; refine wpList_append_rd rfl _ _ rfl w.heap.size _ (H9 ++ l) _ HO3'.out HO4.out.rd (by rw [List.length_append, layL_length]; have := HK9.out; have := HLl.out; omega) hz4 ?_; intro v5 w5 hO5 hg5 _; have HO5 := hid hO5; have HB5 := hid (HB4.out.trans (below_grown hg5 hz4 (fun j hj => HO3'.out.block j hj))); clear hO5 hg5))
  go_ret2
  exact ⟨_, rfl, by rw [HFL.out]; exact HO5.out, gof HB5.out none⟩

set_option maxHeartbeats 400000 in
theorem frameR_no (v : Value) (n c : Nat) (a : Option Addr) (w : World) (hv : v = .slice a n c) (hn : 16777216 < n) (hn2 : n ≤ 140737488355328) :
    Calls Tryz.prog 62 #[v] w fun e w' => e = .returned (.tuple #[.slice none 0 0, .int .i64 31]) ∧ w' = w := by
  subst hv
  have hd : decide ((16777216 : Int) < (n : Int)) = true := decide_eq_true (by omega)
  go_enter Tryz.func62, Tryz.ntmps62
  go_wp2_with fail
  go_ret2
  exact ⟨rfl, rfl⟩
end Go.Proofs.YtfalgjdhdgkbfaaGreatDoor
