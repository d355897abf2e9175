/- The walk of FrameBack. -/
import Derived.Test.YtfalgjdhdgkbfaaDoorBackA
import Derived.Deep.CutRange
import Derived.Deep.CutBlock
namespace Go.Proofs.YtfalgjdhdgkbfaaDoor
open Go Go.RowKit
open Go.RowKit (wrap32 wrap64)

/-- Bodies, tails and numbers, as the walk reads them. -/
def ArgF (W : World) (a : Option Addr) (b o n : Nat) (VB VT : Nat → Value) (B T : Nat → List UInt8) (A Z : Nat → Int) : Prop :=
  (0 < n → a = some ⟨b, o, none⟩ ∧ b < W.heap.size) ∧ ∀ i, i < n → (W.cell? ⟨b, o + i * 4, none⟩ = some (VB i) ∧ W.cell? ⟨b, o + i * 4 + 1, none⟩ = some (VT i) ∧ W.cell? ⟨b, o + i * 4 + 2, none⟩ = some (.int .i64 (A i)) ∧ W.cell? ⟨b, o + i * 4 + 3, none⟩ = some (.int .i64 (Z i))) ∧
    Rd W (fun _ => True) (VB i) (B i) ∧ Rd W (fun _ => True) (VT i) (T i) ∧ (B i).length ≤ 140737488355328 ∧ (T i).length ≤ 140737488355328
theorem ArgF.on {W u : World} {a : Option Addr} {b o n : Nat} {VB VT : Nat → Value} {B T : Nat → List UInt8} {A Z : Nat → Int} (h : ArgF W a b o n VB VT B T A Z) (hg : W.grownBy u none) : ArgF u a b o n VB VT B T A Z :=
  ⟨fun h0 => ⟨(h.1 h0).1, Nat.lt_of_lt_of_le (h.1 h0).2 hg.size⟩, fun i hi => by
    have hb := (h.1 (by omega)).2
    obtain ⟨⟨c0, c1, c2, c3⟩, r1, r2, l1, l2⟩ := h.2 i hi
    exact ⟨⟨(cell_at hg hb (by simp)).trans c0, (cell_at hg hb (by simp)).trans c1, (cell_at hg hb (by simp)).trans c2, (cell_at hg hb (by simp)).trans c3⟩, r1.keep hg, r2.keep hg, l1, l2⟩⟩
theorem cells4 {w : World} {k : Nat} {a b c d : Value} {t : TypeId} (h : w.heap[k]? = some (.cells #[a, b, c, d] t (0, 0))) : (w.cell? ⟨k, 0, none⟩ = some a ∧ w.cell? ⟨k, 1, none⟩ = some b ∧ w.cell? ⟨k, 2, none⟩ = some c ∧ w.cell? ⟨k, 3, none⟩ = some d) ∧ ∀ o, w.frozen? ⟨k, o, none⟩ = false :=
  ⟨⟨by simp [World.cell?, h], by simp [World.cell?, h], by simp [World.cell?, h], by simp [World.cell?, h]⟩, fun o => by simp [World.frozen?, h]⟩
theorem take_le (l : List UInt8) (k : Nat) : (l.take k).length ≤ l.length := by rw [List.length_take]; omega

set_option maxRecDepth 100000 in
set_option maxHeartbeats 16000000 in
theorem back_walk (w : World) (a : Option Addr) (b o n c : Nat) (VB VT : Nat → Value) (B T : Nat → List UInt8) (A Z : Nat → Int) (ht : Tab w) (hn : n ≤ 140737488355328) (hA : ArgF w a b o n VB VT B T A Z) :
    Calls Tryd.prog 4 #[.slice a n c] w fun e w' => e = .returned (.bool true) ∧ w.grownBy w' none := by
  have HT : Hid (∀ u, w.grownBy u none → Tab u) := fun u hu => ht.keep hu
  have HA : Hid (∀ u, w.grownBy u none → ArgF u a b o n VB VT B T A Z) := fun u hu => hA.on hu
  have HWk : Hid (∀ u, w.grownBy u none → Calls Tryd.prog 10 #[] u fun e w' => e = .returned (.bool true) ∧ u.grownBy w' none) := fun u hu => works_any u (HT.out u hu)
  have HNB := hid hn
  clear ht hA hn
  go_enter Tryd.func4, Tryd.ntmps4
  go_wp2_with fail
  go_loopw [3, 4] (fun sv iv wr => ∃ (i s : Nat), iv = .int .i64 i ∧ sv = .int .i64 s ∧ i ≤ n ∧ s ≤ 65536 ∧ i ≤ s ∧ Hid (w.grownBy wr none)) (fun _ iv _ => n - (intOf iv).toNat)
  case atStart => exact ⟨0, 0, rfl, rfl, Nat.zero_le _, Nat.zero_le _, Nat.le_refl _, grefl _ _⟩
  case round =>
    obtain ⟨i, s, rfl, rfl, hin, hs, his, HG⟩ := hrel
    have HS := hid hs
    obtain ⟨Sx, hSx⟩ : ∃ x : Int, (s : Int) = x := ⟨_, rfl⟩
    have s0 : 0 ≤ Sx := by omega
    have s1 : Sx ≤ 65536 := by omega
    have HIS : Hid (i ≤ 65536) := hid (by omega)
    by_cases hlt : i < n
    · obtain ⟨⟨rfl, hbb⟩, _⟩ := And.intro ((HA.out wr HG.out).1 (by omega)) trivial
      obtain ⟨⟨c0, c1, c2, c3⟩, r1, r2, l1, l2⟩ := (HA.out wr HG.out).2 i hlt
      have HR1 := hid r1
      have HR2 := hid r2
      obtain ⟨a1, b1, o1, q1, e1, -⟩ := r1
      obtain ⟨a2, b2, o2, q2, e2, -⟩ := r2
      rw [e1] at c0 HR1
      rw [e2] at c1 HR2
      obtain ⟨LB, HLB⟩ : ∃ x, Hid ((B i).length = x) := ⟨_, hid rfl⟩
      obtain ⟨LT, HLT⟩ : ∃ x, Hid ((T i).length = x) := ⟨_, hid rfl⟩
      rw [HLB.out] at c0 HR1 l1
      rw [HLT.out] at c1 HR2 l2
      obtain ⟨Y, hy⟩ : ∃ x : Int, (LB : Int) = x := ⟨_, rfl⟩
      have y0 : 0 ≤ Y := by omega
      have y1 : Y ≤ 140737488355328 := by omega
      have HL1 := hid l1
      have HL2 := hid l2
      obtain ⟨aB, hAB⟩ : ∃ x, A i = x := ⟨_, rfl⟩
      obtain ⟨zB, hZB⟩ : ∃ x, Z i = x := ⟨_, rfl⟩
      rw [hAB] at c2
      rw [hZB] at c3
      have i1 : (i : Int) < (n : Int) := by omega
      have hne : ¬ b = wr.heap.size := by omega
      clear l1 l2 hs
      by_cases hbig : 65536 < s + LB + 1
      · have hb2 : (65536 : Int) < Sx + Y + 1 := by omega
        clear hbig
        go_wp2_with (go_at_call 10; refine (HWk.out _ (gtrans HG.out (galloc _ _ _))).mono ?_; rintro e w9 ⟨rfl, hg9⟩)
        go_ret
        exact ⟨rfl, gtrans (gtrans HG.out (galloc _ _ _)) hg9⟩
      · have hb2 : ¬ (65536 : Int) < Sx + Y + 1 := by omega
        have HBG := hid hbig
        clear hbig
        obtain ⟨W1, hW1⟩ : ∃ x, wr.alloc (.cells #[.slice a1 LB q1, .slice a2 LT q2, .int .i64 aB, .int .i64 zB] 48) = x := ⟨_, rfl⟩
        have hP := heap_new wr #[.slice a1 LB q1, .slice a2 LT q2, .int .i64 aB, .int .i64 zB] 48
        rw [hW1] at hP
        have HP : Hid (∀ u, W1.grownBy u none → u.heap[wr.heap.size]? = some (.cells #[.slice a1 LB q1, .slice a2 LT q2, .int .i64 aB, .int .i64 zB] 48 (0, 0))) := hid (fun u hu => heap_at hu (by simp) hP)
        have HW1 : Hid (wr.grownBy W1 none) := hid (by rw [← hW1]; exact galloc _ _ _)
        obtain ⟨⟨x0, x1, x2, x3⟩, xf⟩ := cells4 hP
        have HRB : Hid (∀ u, W1.grownBy u none → Rd u (fun _ => True) (.slice a1 LB q1) (B i)) := hid (fun u hu => HR1.out.keep (gtrans HW1.out hu))
        have HRT : Hid (∀ u, W1.grownBy u none → Rd u (fun _ => True) (.slice a2 LT q2) (T i)) := hid (fun u hu => HR2.out.keep (gtrans HW1.out hu))
        have HTb : Hid (∀ u, W1.grownBy u none → Tab u) := hid (fun u hu => HT.out u (gtrans HG.out (gtrans HW1.out hu)))
        have hlb : (B i).length ≤ 65536 := by have := HBG.out; have := HLB.out; omega
        obtain ⟨f, HF⟩ : ∃ f, Hid (frameL (B i) = f) := ⟨_, hid rfl⟩
        obtain ⟨NF, HNF⟩ : ∃ x, Hid (f.length = x) := ⟨_, hid rfl⟩
        have hnf : NF = LB + 13 := by rw [← HNF.out, ← HF.out, frameL_length, HLB.out]
        have HNFE := hid hnf
        have hm : (NF : Int) = Y + 13 := by omega
        have y2 : Y ≤ 65536 := by omega
        have HCp : Hid (∀ (u : World) (F : Nat → Prop) (v : Value) (l : List UInt8), l.length ≤ 131072 → Rd u F v l → Calls Tryd.prog 6 #[v] u fun e w' => ∃ v', e = .returned v' ∧ Out u.heap.size w' v' l ∧ u.grownBy w' none) := fun u F v l hl hv => copy_any l F v u (by omega) hv
        have HFm : Hid (∀ (u : World) (C : Nat) (v : Value), W1.grownBy u none → Out C u v (B i) → Calls Tryd.prog 16 #[v] u fun e w' => ∃ v', e = .returned (.tuple #[v', .int .i64 0]) ∧ Out u.heap.size w' v' f ∧ u.grownBy w' none) := fun u C v hu hv => by
          have := frame_ok (B i) _ v u (by omega) hv.rd (HTb.out u hu)
          rw [HF.out] at this
          exact this
        have HHd : Hid (∀ u, W1.grownBy u none → Calls Tryd.prog 18 #[.slice a2 LT q2] u fun e w' => ∃ v', e = .returned v' ∧ Rd u (fun _ => True) v' ((T i).take 1048576) ∧ w' = u) := fun u hu => head_any (T i) _ _ u (by rw [HLT.out]; exact HL2.out) (HRT.out u hu)
        have hfl : f.length ≤ 65549 := by rw [HNF.out]; omega
        have HFL := hid hfl
        have HB65 := hid hlb
        have HTL : Hid (((T i).take 1048576).length ≤ 1048576) := hid (by rw [List.length_take]; omega)
        obtain ⟨tl, HTLE⟩ : ∃ x, Hid ((T i).take 1048576 = x) := ⟨_, hid rfl⟩
        rw [HTLE.out] at HHd HTL
        have HUn : Hid (∀ (u : World) (C : Nat) (v : Value), W1.grownBy u none → Out C u v (f ++ tl) → Calls Tryd.prog 17 #[v] u fun e w' => ∃ v', e = .returned (.tuple #[v', .int .i64 (Y + 13), .int .i64 0]) ∧ Out u.heap.size w' v' (B i) ∧ u.grownBy w' none) := fun u C v hu hv => by
          have h1 := unframe_any (f ++ tl) _ v u (by rw [List.length_append]; have := HFL.out; have := HTL.out; omega) hv.rd (HTb.out u hu)
          obtain ⟨e1, e2, e3⟩ := unfr_frame (B i) tl (by have := HB65.out; omega)
          rw [HF.out] at e1 e2 e3
          have e4 : unfB (f ++ tl) = B i := by unfold unfB; rw [if_pos e1, e3]
          rw [e1, e2, e4, if_pos rfl, show (((B i).length + 13 : Nat) : Int) = Y + 13 by have := HLB.out; omega] at h1
          exact h1
        clear hnf hlb hfl hP
        go_upto_region 11 with (first
          | (go_at_call 6; refine (HCp.out _ _ _ _ (by have := HB65.out; omega) (HRB.out _ (grefl _ _))).mono ?_; rintro e u1 ⟨v1, rfl, hO1, hg1⟩; have HO1 := hid hO1; have HU1 := hid hg1; clear hO1 hg1; obtain ⟨⟨x0, x1, x2, x3⟩, xf⟩ := cells4 (HP.out u1 HU1.out))
          | (go_at_call 16; refine (HFm.out _ _ _ HU1.out HO1.out).mono ?_; rintro e u2 ⟨v2, rfl, hO2, hg2⟩; have HO2 := hid hO2; have HU2 := hid (gtrans HU1.out hg2); obtain ⟨g2, k2, e2', hk2, hg2b, hg2l, hg2c⟩ := hO2.form (by rw [HNF.out, HNFE.out]; omega); subst e2'; have HC2 := hid hg2c; have HK2 := hid hk2; clear hO2 hg2 hg2c; rw [HNF.out] at HO2 ⊢; obtain ⟨⟨x0, x1, x2, x3⟩, xf⟩ := cells4 (HP.out u2 HU2.out))
          | (go_at_call 9; refine (num_any _ _).mono ?_; rintro e w' ⟨rfl, hw⟩; have hw' := hw.symm; clear hw; subst hw'))
        have hS2 := x1
        go_region_held3 (fun u => u.cell? ⟨wr.heap.size, 1, none⟩ = some (.slice a2 LT q2)) (first | assumption) (first
          | (go_at_call 6; refine (HCp.out _ _ _ _ (by have := HFL.out; omega) (HO2.out.keep (gdrew1 _ _)).rd).mono ?_; rintro e u3 ⟨v3, rfl, hO3, hg3⟩; have HO3 := hid hO3; have HU3 := hid (gtrans HU2.out (gtrans (gdrew1 _ _) hg3)); have hS3 := (cells4 (HP.out u3 HU3.out)).1.2.1; have hz3 := hg3.size; have HD2 := hid ((HO2.out.keep (gdrew1 _ _)).keep hg3); clear hO3 hg3)
          | (go_at_call 18; refine (HHd.out _ HU3.out).mono ?_; rintro e w' ⟨v4, rfl, hr4, hw⟩; have hw' := hw.symm; clear hw; subst hw'; have HR4 := hid hr4; clear hr4)
          | (refine step_append_rd rfl _ _ rfl _ _ f tl HO3.out HR4.out (by have := HFL.out; have := HTL.out; omega) hz3 ?_; intro v5 u5 hO5 hg5; have HO5 := hid hO5; have HU5 := hid (HU3.out.andThen hg5 (fun j hj => .inl (Nat.le_trans HU2.out.size (HO3.out.block j hj)))); have HE2 := hid (HD2.out.on hg5 (fun k hk hk2 => by have h1 := HO3.out.block k hk; have h2 := (HO2.out.lt k hk2).2; simp at h1; omega)); have hS5 := (cells4 (HP.out u5 HU5.out)).1.2.1; clear hO5 hg5)
          | (go_at_call 17; refine (HUn.out _ _ _ HU5.out HO5.out).mono ?_; rintro e u6 ⟨v6, rfl, hO6, hg6⟩; have HO6 := hid hO6; have HU6 := hid (gtrans HU5.out hg6); have HF6 := hid (HE2.out.keep hg6); have hS6 := (cells4 (HP.out u6 HU6.out)).1.2.1; clear hO6 hg6))
        obtain ⟨⟨x0, x1, x2, x3⟩, xf⟩ := cells4 (HP.out u6 HU6.out)
        have hcv6 := HO6.out.rd.convert
        have hcvb := (HRB.out u6 HU6.out).convert
        generalize (⟨(B i).toArray⟩ : ByteArray) = S6 at hcv6 hcvb
        clear HO5 HU5 HE2 HO3 HU3 HD2 HR4 HO2 HO1 HU1 hS2 hS3 hS5 hS6 HRT HTLE
        go_wp2_with (go_at_call 9; refine (num_any _ _).mono ?_; rintro e w' ⟨rfl, hw⟩; have hw' := hw.symm; clear hw; subst hw')
        obtain ⟨wo, hwo⟩ : ∃ x, x = wr := ⟨_, rfl⟩
        subst hwo
        go_loopw [11] (fun kv W => ∃ k : Nat, kv = .int .i64 k ∧ k ≤ NF ∧ Hid (u6.grownBy W none)) (fun kv _ => NF - (intOf kv).toNat)
        case atStart => exact ⟨0, rfl, Nat.zero_le _, grefl _ _⟩
        case round =>
          obtain ⟨k, rfl, hk, HK⟩ := hrel
          have HUk := hid (gtrans HU6.out HK.out)
          have HOk := hid (HF6.out.keep HK.out)
          have HKN := hid hk
          by_cases hkn : k < NF
          · have k1 : (k : Int) < Y + 13 := by omega
            have HUS : Hid (Calls Tryd.prog 17 #[.slice (some ⟨g2, 0, none⟩) k k] wr fun e w' => ∃ v', e = .returned (.tuple #[v', .int .i64 0, .int .i64 30]) ∧ wr.grownBy w' none) := hid (by
              have h1 := unframe_any (f.take k) _ _ wr (by have := take_le f k; have := HFL.out; omega) (Rd.pre HOk.out.rd k (by rw [HNF.out]; omega)) (HTb.out wr HUk.out)
              have h2 := unfr_short (B i) (by have := HB65.out; omega) k (by rw [HLB.out]; have := HNFE.out; omega)
              rw [HF.out] at h2
              rw [h2, if_neg (by decide)] at h1
              refine h1.mono ?_
              rintro e w' ⟨v', he, _, hg⟩
              exact ⟨v', he, hg⟩)
            have hkk : k ≤ k2 := by have := HK2.out; rw [HNF.out] at this; omega
            clear hk
            by_cases h100 : 100 < k
            · by_cases h200 : k + 100 < NF
              · have j1 : (100 : Int) < (k : Int) := by omega
                have j2 : (k : Int) < Y + 13 - 100 := by omega
                clear h100 h200 hkn
                go_wp2_with fail
                refine ⟨⟨k + 1, by go_num, by have := HKN.out; have := HNFE.out; omega, HK⟩, by simp only [intOf]; have := HNFE.out; omega⟩
              · have j1 : (100 : Int) < (k : Int) := by omega
                have j2 : ¬ (k : Int) < Y + 13 - 100 := by omega
                clear h100 h200 hkn
                go_wp2_with (first
                  | (go_at_call 17; refine (HUS.out).mono ?_; rintro e w7 ⟨v7, rfl, hg7⟩; have HK7 := hid (gtrans HK.out hg7); clear hg7)
                  | (go_at_call 9; refine (num_any _ _).mono ?_; rintro e w' ⟨rfl, hw⟩; have hw' := hw.symm; clear hw; subst hw'))
                refine ⟨⟨k + 1, by go_num, by have := HKN.out; have := HNFE.out; omega, HK7⟩, by simp only [intOf]; have := HNFE.out; omega⟩
            · have j1 : ¬ (100 : Int) < (k : Int) := by omega
              clear h100 hkn
              go_wp2_with (first
                | (go_at_call 17; refine (HUS.out).mono ?_; rintro e w7 ⟨v7, rfl, hg7⟩; have HK7 := hid (gtrans HK.out hg7); clear hg7)
                | (go_at_call 9; refine (num_any _ _).mono ?_; rintro e w' ⟨rfl, hw⟩; have hw' := hw.symm; clear hw; subst hw'))
              refine ⟨⟨k + 1, by go_num, by have := HKN.out; have := HNFE.out; omega, HK7⟩, by simp only [intOf]; have := HNFE.out; omega⟩
          · have k1 : ¬ (k : Int) < Y + 13 := by omega
            clear hkn hk
            have HWi : Hid (∀ u : World, Calls Tryd.prog 19 #[.int .i64 aB, .int .i64 (Y + 13)] u fun e w' => (∃ r : Nat, r < NF ∧ e = .returned (.int .i64 r)) ∧ w' = u) := hid (fun u => by
              have := within_any aB NF (by have := HNFE.out; omega) (by have := HNFE.out; omega) u
              rw [hm] at this
              exact this)
            go_upto_region 23 with (first
              | (go_at_call 6; refine (HCp.out _ _ _ _ (by have := HFL.out; omega) HOk.out.rd).mono ?_; rintro e w8 ⟨v8, rfl, hO8, hg8⟩; have HO8 := hid hO8; have HU8 := hid (gtrans HUk.out hg8); have HW8 := hid hg8.size; obtain ⟨g8, k8, e8, hk8, hg8b, hg8l, hg8c⟩ := hO8.form (by rw [HNF.out, HNFE.out]; omega); subst e8; have HC8 := hid hg8c; have HB8 := hid hg8b; have HL8 := hid hg8l; have HK8 := hid hk8; clear hO8 hg8 hg8c hg8b hg8l hk8; rw [HNF.out] at HO8 HK8 ⊢; obtain ⟨⟨x0, x1, x2, x3⟩, xf⟩ := cells4 (HP.out w8 HU8.out))
              | (go_at_call 19; refine (HWi.out _).mono ?_; rintro e w' ⟨⟨r, hr, rfl⟩, hw⟩; have hw' := hw.symm; clear hw; subst hw'))
            have HRR := hid hr
            have hrf : r < f.length := by rw [HNF.out]; exact hr
            have hc8 := HC8.out r hrf
            have hz8 : ∀ j, w8.frozen? ⟨g8, j, none⟩ = false := fun j => HO8.out.free j
            obtain ⟨fx, HFX⟩ : ∃ x, Hid (f[r] = x) := ⟨_, hid rfl⟩
            rw [HFX.out] at hc8
            have hfb := u8_bd fx
            have r1' : (r : Int) < Y + 13 := by omega
            have HW2 : Hid (∀ u : World, Calls Tryd.prog 19 #[.int .i64 zB, .int .i64 255] u fun e w' => (∃ r : Nat, r < 255 ∧ e = .returned (.int .i64 r)) ∧ w' = u) := hid (fun u => within_any zB 255 (by decide) (by decide) u)
            go_cut [] from 20 to 159 (fun wc => ∃ y : UInt8, Hid (y ≠ fx) ∧ Hid (W1.grownBy wc none) ∧ Hid (Out wr.heap.size wc (.slice (some ⟨g8, 0, none⟩) NF k8) (f.set r y)))
            case first =>
              go_region_with (go_at_call 19; refine (HW2.out _).mono ?_; rintro e w' ⟨⟨r2, hr2, rfl⟩, hw⟩; have hw' := hw.symm; clear hw; subst hw'; have hxb := (xorb fx r2 hr2).1; have HXB := hid (xorb fx r2 hr2).2; have hr3 : (r2 : Int) < 255 := (by omega); clear hr2)
              all_goals
                rw [wrap_small r2 hr3, hxb]
                go_wp2_with fail
                go_meet
                refine ⟨_, HXB, ?_, ?_⟩
                · exact hid (gtrans (HU8.out.andThen (gset w8 ⟨g8, r, none⟩ _) (fun j hj => .inl (by have hj' : g8 = j := Option.some.inj hj; have := HB8.out; have := HUk.out.size; omega))) (gdrew1 _ _))
                · exact hid ((HO8.out.set r _).keep (gdrew1 _ _))
            case rest =>
              obtain ⟨y, HXB, HU9, HO9⟩ := hcut
              obtain ⟨W9, hW9⟩ : ∃ x, x = wc := ⟨_, rfl⟩
              subst hW9
              have HNE : Hid (∀ t, unfrE (f.set r y ++ t) = 32 ∨ unfrE (f.set r y ++ t) = 34) := hid (fun t => by
                have h1 := unfr_bent (B i) t (by have := HB65.out; omega) r y
                simp only [HF.out] at h1
                exact h1 (by rw [HNF.out]; exact HRR.out) (by rw [HFX.out]; exact HXB.out))
              have HFS : Hid ((f.set r y).length ≤ 65549) := hid (by rw [List.length_set]; exact HFL.out)
              obtain ⟨fs, HFSE⟩ : ∃ x, Hid (f.set r y = x) := ⟨_, hid rfl⟩
              rw [HFSE.out] at HO9 HNE HFS
              have HUb : Hid (∀ (u : World) (C : Nat) (v : Value), W1.grownBy u none → Out C u v (fs ++ tl) → Calls Tryd.prog 17 #[v] u fun e w' => ∃ (a' : Option Addr) (c' : Nat) (E : Int), e = .returned (.tuple #[.slice a' 0 c', .int .i64 0, .int .i64 E]) ∧ ((E == 0) = false ∧ (E == 30) = false) ∧ u.grownBy w' none) := fun u C v hu hv => by
                have h1 := unframe_any (fs ++ tl) _ v u (by rw [List.length_append]; have := HFS.out; have := HTL.out; omega) hv.rd (HTb.out u hu)
                refine h1.mono ?_
                rintro e w' ⟨v', he, hO, hg⟩
                have hne : unfrE (fs ++ tl) ≠ 0 := by rcases HNE.out tl with h | h <;> rw [h] <;> decide
                have hB0 : unfB (fs ++ tl) = [] := by unfold unfB; rw [if_neg hne]
                rw [hB0] at hO
                obtain ⟨a', b', off', c', e', -⟩ := hO.rd
                rw [if_neg hne] at he
                refine ⟨a', c', (unfrE (fs ++ tl) : Int), by rw [he, e']; rfl, ?_, hg⟩
                rcases HNE.out tl with h | h <;> rw [h] <;> decide
              obtain ⟨⟨x0, x1, x2, x3⟩, xf⟩ := cells4 (HP.out W9 HU9.out)
              clear hc8 hz8 HC8 HO8 HU8 hcv6 hcvb HUn
              go_wp2_with fail
              have hS9 := x1
              go_region_held3 (fun u => u.cell? ⟨wo.heap.size, 1, none⟩ = some (.slice a2 LT q2)) (first | assumption) (first
                | (go_at_call 6; refine (HCp.out _ _ _ _ (by have := HFS.out; omega) (HO9.out.keep (gdrew1 _ _)).rd).mono ?_; rintro e t3 ⟨v3, rfl, hO3, hg3⟩; have HO3 := hid hO3; have HT3 := hid (gtrans HU9.out (gtrans (gdrew1 _ _) hg3)); have hS3 := (cells4 (HP.out t3 HT3.out)).1.2.1; have hz3 := hg3.size; clear hO3 hg3)
                | (go_at_call 18; refine (HHd.out _ HT3.out).mono ?_; rintro e w' ⟨v4, rfl, hr4, hw⟩; have hw' := hw.symm; clear hw; subst hw'; have HR4 := hid hr4; clear hr4)
                | (refine step_append_rd rfl _ _ rfl _ _ fs tl HO3.out HR4.out (by have := HFS.out; have := HTL.out; omega) hz3 ?_; intro v5 t5 hO5 hg5; have HO5 := hid hO5; have HT5 := hid (HT3.out.andThen hg5 (fun j hj => .inl (Nat.le_trans HU9.out.size (HO3.out.block j hj)))); have hS5 := (cells4 (HP.out t5 HT5.out)).1.2.1; clear hO5 hg5)
                | (go_at_call 17; refine (HUb.out _ _ _ HT5.out HO5.out).mono ?_; rintro e t6 ⟨a6, c6, E6, rfl, ⟨q6, q7⟩, hg6⟩; have HT6 := hid (gtrans HT5.out hg6); have hS6 := (cells4 (HP.out t6 HT6.out)).1.2.1; clear hg6))
              all_goals
                go_wp2_with (go_at_call 9; refine (num_any _ _).mono ?_; rintro e w' ⟨rfl, hw⟩; have hw' := hw.symm; clear hw; subst hw')
                refine ⟨⟨i + 1, s + LB + 1, by go_num, congrArg (Value.int .i64) (by omega), by omega, by have := HBG.out; omega, by omega, hid (gtrans HG.out (gtrans HW1.out HT6.out))⟩, by simp only [intOf]; omega⟩
    · have i1 : ¬ (i : Int) < (n : Int) := by omega
      go_wp2_with (go_at_call 10; refine (HWk.out _ HG.out).mono ?_; rintro e w9 ⟨rfl, hg9⟩)
      go_ret
      exact ⟨rfl, gtrans HG.out hg9⟩
end Go.Proofs.YtfalgjdhdgkbfaaDoor
