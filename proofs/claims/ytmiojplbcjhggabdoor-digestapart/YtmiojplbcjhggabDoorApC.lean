/- The walk of DigestApart. -/
import Derived.Test.YtmiojplbcjhggabDoorWd
namespace Go.Proofs.YtmiojplbcjhggabDoor
open Go Go.RowKit
open Go.RowKit (wrap32 wrap64)

theorem neq3 (x y : Operand) (u : World) : (do eqGuard .neq 3 x y (.int .i64 0) (.int .i64 0); binOp .neq 3 (.int .i64 0) (.int .i64 0) : Sem Value).run Tryd.prog u = .ok (.bool false) u := by kernel_rfl
def fstL (salt text : List UInt8) : List UInt8 := salt ++ be text.length 8 ++ text
theorem fst_inj {s t s' t' : List UInt8} (hs : s.length = 16) (hs' : s'.length = 16) (h : fstL s t = fstL s' t') : s = s' ∧ t = t' := by
  unfold fstL at h
  rw [List.append_assoc, List.append_assoc] at h
  obtain ⟨h1, h2⟩ := List.append_inj h (by omega)
  obtain ⟨_, h4⟩ := List.append_inj h2 (by rw [be_len, be_len])
  exact ⟨h1, h4⟩
theorem rd16 {w : World} {b : Nat} {S : List Value} {l : List UInt8} (h : w.rangeAt b 0 S) (hb : b < w.heap.size) (hS : Lib.byteCells l = S) (hl : l.length = 16) : Rd w (fun k => k = b) (.slice (some ⟨b, 0, none⟩) 16 16) l := by
  subst hS
  refine ⟨_, b, 0, 16, by rw [hl], by rw [hl]; exact Nat.le_refl _, (fun h => by cases h), fun _ => ⟨rfl, hb, rfl⟩, fun i hi => ?_⟩
  refine h i _ ?_
  simp [Lib.byteCells, List.getElem?_eq_getElem hi]
theorem nxt_ne {c d s s' : List UInt8} (hc : c.length = 32) (hd : d.length = 32) (h : c ≠ d) : c ++ s ≠ d ++ s' := fun e => h (List.append_inj e (by omega)).1

set_option maxRecDepth 100000 in
set_option maxHeartbeats 3200000 in
theorem apart_walk (w : World) (a : Option Addr) (b o n c : Nat) (S0 : Nat → List UInt8) (T0 : Nat → ByteArray) (R0 : Nat → Int) (hG : Glob w) (hn : n ≤ 140737488355328)
    (hA : RowsWd w a b o n S0 T0 R0) :
    Calls Tryd.prog 5 #[.slice a n c] w fun e w' => e = .returned (.bool true) ∧ w.grownBy w' none := by
  have HWk : Hid (∀ u, w.grownBy u none → Calls Tryd.prog 12 #[] u fun e w' => e = .returned (.bool true) ∧ u.grownBy w' none) := fun u hu => wakes_any u (hG.keep hu)
  have HA : Hid (∀ u, w.grownBy u none → RowsWd u a b o n S0 T0 R0) := fun u hu => hA.on hu
  have HGl : Hid (∀ u, w.grownBy u none → Glob u) := fun u hu => hG.keep hu
  have HNum : Hid (∀ u : World, Calls Tryd.prog 19 #[.int .i64 0] u fun e w' => e = .returned (.int .i64 0) ∧ u.grownBy w' none) := fun u => (num_any 0 u).mono fun e w' ⟨he, hw⟩ => ⟨he, by rw [hw]; exact grefl _ _⟩
  clear hA hG
  go_enter Tryd.func5, Tryd.ntmps5
  go_wp2_with fail
  go_loopw [3] (fun iv wr => ∃ (i : Nat), iv = .int .i64 ((i + 1 : Nat) : Int) ∧ i ≤ 7 ∧ Hid (w.grownBy wr none)) (fun iv _ => 9 - (intOf iv).toNat)
  case atStart => exact ⟨0, rfl, by omega, hid (grefl _ _)⟩
  case round =>
    obtain ⟨i, rfl, hi, HG⟩ := hrel
    obtain ⟨J, hJ⟩ : ∃ J, i + 1 = J := ⟨_, rfl⟩
    rw [hJ]
    by_cases hlt : J < n ∧ J < 8
    · obtain ⟨hlt1, hlt2⟩ := hlt
      have i1 : (J : Int) < (n : Int) := by omega
      have i2 : (J : Int) < 8 := by omega
      have i3 : (J : Int) - 1 = (i : Int) := by omega
      have i4 : (i : Int) < (n : Int) := by omega
      obtain ⟨rfl, hb0⟩ := (HA.out w (grefl _ _)).1 (by omega)
      obtain ⟨hslA, htlA, hrA0, hrA1, -⟩ := (HA.out w (grefl _ _)).2 i (by omega)
      obtain ⟨hslB, htlB, hrB0, hrB1, -⟩ := (HA.out w (grefl _ _)).2 J hlt1
      have HRgA : Hid (∀ u, w.grownBy u none → u.rangeAt b (o + i * 18) (wdc (S0 i) (T0 i) (R0 i))) := fun u hu => ((HA.out u hu).2 i (by omega)).2.2.2.2
      have HRgB : Hid (∀ u, w.grownBy u none → u.rangeAt b (o + J * 18) (wdc (S0 J) (T0 J) (R0 J))) := fun u hu => ((HA.out u hu).2 J hlt1).2.2.2.2
      obtain ⟨sA, HsA⟩ : ∃ x, Hid (S0 i = x) := ⟨_, hid rfl⟩
      obtain ⟨tA, HtA⟩ : ∃ x, Hid (T0 i = x) := ⟨_, hid rfl⟩
      obtain ⟨rA, HrA⟩ : ∃ x, Hid (R0 i = x) := ⟨_, hid rfl⟩
      obtain ⟨sB, HsB⟩ : ∃ x, Hid (S0 J = x) := ⟨_, hid rfl⟩
      obtain ⟨tB, HtB⟩ : ∃ x, Hid (T0 J = x) := ⟨_, hid rfl⟩
      obtain ⟨rB, HrB⟩ : ∃ x, Hid (R0 J = x) := ⟨_, hid rfl⟩
      rw [HsA.out] at hslA
      rw [HsB.out] at hslB
      rw [HtA.out] at htlA
      rw [HtB.out] at htlB
      rw [HsA.out, HtA.out, HrA.out] at HRgA
      rw [HsB.out, HtB.out, HrB.out] at HRgB
      clear HsA HtA HrA HsB HtB HrB hrA0 hrA1 hrB0 hrB1
      obtain ⟨csA, HcsA⟩ : ∃ x, Hid (wdc sA tA rA = x) := ⟨_, hid rfl⟩
      obtain ⟨csB, HcsB⟩ : ∃ x, Hid (wdc sB tB rB = x) := ⟨_, hid rfl⟩
      have HWLA : Hid (csA.length = 18) := hid (by rw [← HcsA.out]; exact wdc_length sA tA rA hslA)
      have HWLB : Hid (csB.length = 18) := hid (by rw [← HcsB.out]; exact wdc_length sB tB rB hslB)
      have HW1A : Hid (∀ v ∈ csA, v.oneCell' = true) := hid (by rw [← HcsA.out]; exact wdc_one sA tA rA)
      have HW1B : Hid (∀ v ∈ csB, v.oneCell' = true) := hid (by rw [← HcsB.out]; exact wdc_one sB tB rB)
      rw [HcsA.out] at HRgA
      rw [HcsB.out] at HRgB
      obtain ⟨SA, HSA⟩ : ∃ x, Hid (Lib.byteCells sA = x) := ⟨_, hid rfl⟩
      obtain ⟨SB, HSB⟩ : ∃ x, Hid (Lib.byteCells sB = x) := ⟨_, hid rfl⟩
      have HSAl : Hid (SA.length = 16) := hid (by rw [← HSA.out, byteCells_length]; exact hslA)
      have HSBl : Hid (SB.length = 16) := hid (by rw [← HSB.out, byteCells_length]; exact hslB)
      have HcA : Hid (∀ (u : World) (bb : Nat), Blk u bb csA 47 → u.cell? ⟨bb, 16, none⟩ = some (.string tA) ∧ u.rangeAt bb 0 SA) := hid (fun u bb h => by
        rw [← HcsA.out] at h
        exact ⟨by rw [h.cell]; exact wdc_16 _ _ _ hslA, by rw [← HSA.out]; exact h.range [] (Lib.byteCells sA) [.string tA, .int .i64 rA] 0 rfl rfl⟩)
      have HcB : Hid (∀ (u : World) (bb : Nat), Blk u bb csB 47 → u.cell? ⟨bb, 16, none⟩ = some (.string tB) ∧ u.rangeAt bb 0 SB) := hid (fun u bb h => by
        rw [← HcsB.out] at h
        exact ⟨by rw [h.cell]; exact wdc_16 _ _ _ hslB, by rw [← HSB.out]; exact h.range [] (Lib.byteCells sB) [.string tB, .int .i64 rB] 0 rfl rfl⟩)
      obtain ⟨NA, HNA⟩ : ∃ N, Hid (tA.size = N) := ⟨_, hid rfl⟩
      obtain ⟨NB, HNB⟩ : ∃ N, Hid (tB.size = N) := ⟨_, hid rfl⟩
      have hNA : tA.size = NA := HNA.out
      have hNB : tB.size = NB := HNB.out
      obtain ⟨YA, hYA⟩ : ∃ x : Int, (NA : Int) = x := ⟨_, rfl⟩
      obtain ⟨YB, hYB⟩ : ∃ x : Int, (NB : Int) = x := ⟨_, rfl⟩
      have hYA0 : 0 ≤ YA := by omega
      have hYB0 : 0 ≤ YB := by omega
      have HslA := hid hslA
      have HslB := hid hslB
      clear hslA hslB htlA htlB
      have HEs : Hid (∀ (x y : Operand) (u : World), (do eqGuard .eql 45 x y (.agg SA.toArray) (.agg SB.toArray); binOp .eql 45 (.agg SA.toArray) (.agg SB.toArray) : Sem Value).run Tryd.prog u = .ok (.bool (sA == sB)) u) := fun x y u => by
        rw [← HSA.out, ← HSB.out]
        exact eql_16 sA sB HslA.out HslB.out u
      obtain ⟨es, Hes⟩ : ∃ x, Hid ((sA == sB) = x) := ⟨_, hid rfl⟩
      rw [Hes.out] at HEs
      go_upto_region 5 with (first
        | (refine wpList_load_part rfl 47 _ rfl b (o + i * 18) csA _ rfl (HRgA.out _ HG.out) Tryd.underlying47 rfl (by rw [HWLA.out]; exact Tryd.size47) ?_)
        | (refine wpList_alloc_row rfl 47 rfl zwd Tryd.zero47 ?_; intro u2 B2 s2 g2; have HA2 := hid B2; have HU2 := hid (gtrans HG.out g2); clear B2 g2 s2)
        | (refine wpList_store_all rfl 47 _ _ rfl wr.heap.size zwd csA 47 rfl rfl HA2.out (by rw [HWLA.out]; rfl) (by rw [HWLA.out]; exact Tryd.size47) HW1A.out ?_; intro u3 B3 g3 s3; have HA3 := hid B3; have HU3 := hid (HU2.out.andThen g3 (fun j hj => .inl (by injection hj with hj; have := HG.out.size; omega))); clear B3 g3 s3))
      obtain ⟨b4, hb4⟩ : ∃ x, wr.heap.size = x := ⟨_, rfl⟩
      rw [hb4] at HA3 ⊢
      have HB4w := hid hb4
      clear hb4
      go_upto_region 6 with (first
        | (refine wpList_load_part rfl 47 _ rfl b (o + J * 18) csB _ rfl (HRgB.out _ HU3.out) Tryd.underlying47 rfl (by rw [HWLB.out]; exact Tryd.size47) ?_)
        | (refine wpList_alloc_row rfl 47 rfl zwd Tryd.zero47 ?_; intro u4 B4 s4 g4; have HB4 := hid B4; have HA4 := hid (HA3.out.keep g4); have HU4 := hid (gtrans HU3.out g4); clear B4 g4 s4)
        | (refine wpList_store_all rfl 47 _ _ rfl u3.heap.size zwd csB 47 rfl rfl HB4.out (by rw [HWLB.out]; rfl) (by rw [HWLB.out]; exact Tryd.size47) HW1B.out ?_; intro u5 B5 g5 s5; have HB5 := hid B5; have HU5 := hid (HU4.out.andThen g5 (fun j hj => .inl (by injection hj with hj; have := HU3.out.size; omega))); have HA5 := hid (HA4.out.on g5 (fun e => by have e' : u3.heap.size = b4 := Option.some.inj e; have := HA3.out.lt; omega)); clear B5 g5 s5; obtain ⟨y16, HyA⟩ := HcA.out _ _ HA5.out; obtain ⟨z16, HyB⟩ := HcB.out _ _ HB5.out; replace HyA := hid HyA; replace HyB := hid HyB))
      obtain ⟨b5, hb5⟩ : ∃ x, u3.heap.size = x := ⟨_, rfl⟩
      rw [hb5] at HB5 z16 HyB ⊢
      have HB5w : Hid (b5 = u3.heap.size) := hid hb5.symm
      have HBn : Hid (b4 ≠ b5 ∧ w.heap.size ≤ b4 ∧ w.heap.size ≤ b5) := hid ⟨fun e => by have := HA3.out.lt; rw [e, ← hb5] at this; omega, by rw [← HB4w.out]; exact HG.out.size, by rw [← hb5]; exact HU3.out.size⟩
      clear hb5 HA2 HA3 HA4 HB4 HU2 HU3 HU4 HRgA HRgB
      by_cases hbA : 4000 < YA
      · go_wp2_with fail
        go_roundw
        case rel => exact ⟨i + 1, by rw [← hJ]; go_num, by omega, HU5⟩
        case measure => simp [intOf]; omega
      · by_cases hbB : 4000 < YB
        · go_wp2_with fail
          go_roundw
          case rel => exact ⟨i + 1, by rw [← hJ]; go_num, by omega, HU5⟩
          case measure => simp [intOf]; omega
        · cases htt : (tA.toList == tB.toList) with
          | true =>
            cases es with
            | true =>
              go_wp2_with (first
                | (with_reducible refine wpList_load_partW (by with_unfolding_all rfl) 45 _ (by with_unfolding_all rfl) b4 0 SA _ (by with_unfolding_all rfl) HyA.out Tryd.underlying45 (by with_unfolding_all rfl) (by rw [HSAl.out]; exact Tryd.size45) ?_)
                | (with_reducible refine wpList_load_partW (by with_unfolding_all rfl) 45 _ (by with_unfolding_all rfl) b5 0 SB _ (by with_unfolding_all rfl) HyB.out Tryd.underlying45 (by with_unfolding_all rfl) (by rw [HSBl.out]; exact Tryd.size45) ?_)
                | (with_reducible refine wpList_binW (by with_unfolding_all rfl) .eql 45 _ _ _ (by with_unfolding_all rfl) _ _ _ (by with_unfolding_all rfl) (by with_unfolding_all rfl) (HEs.out _ _ _) ?_))
              go_roundw
              case rel => exact ⟨i + 1, by rw [← hJ]; go_num, by omega, HU5⟩
              case measure => simp [intOf]; omega
            | false =>
              have HNE : Hid (¬ (sA = sB ∧ tA = tB)) := hid (fun h => by have := Hes.out; rw [h.1] at this; simp at this)
              obtain ⟨TA, HTA⟩ : ∃ x, Hid (tA.data.toList = x) := ⟨_, hid rfl⟩
              obtain ⟨TB, HTB⟩ : ∃ x, Hid (tB.data.toList = x) := ⟨_, hid rfl⟩
              have HNA4 : Hid (NA ≤ 4000 ∧ NB ≤ 4000) := hid ⟨by omega, by omega⟩
              have HFa : Hid (∀ u, w.grownBy u none → Calls Tryd.prog 17 #[.agg csA.toArray] u fun e w' => ∃ v', e = .returned v' ∧ Rd w' (fun _ => True) v' (fstL sA TA) ∧ u.grownBy w' none) := fun u hu => by
                rw [← HcsA.out, ← HTA.out]
                exact (first_any u sA tA rA HslA.out (by rw [HNA.out]; have := HNA4.out; omega)).mono fun e w' ⟨v', he, ho, hg⟩ => ⟨v', he, ho.rd.mono (fun _ _ _ => trivial), hg⟩
              have HFb : Hid (∀ u, w.grownBy u none → Calls Tryd.prog 17 #[.agg csB.toArray] u fun e w' => ∃ v', e = .returned v' ∧ Rd w' (fun _ => True) v' (fstL sB TB) ∧ u.grownBy w' none) := fun u hu => by
                rw [← HcsB.out, ← HTB.out]
                exact (first_any u sB tB rB HslB.out (by rw [HNB.out]; have := HNA4.out; omega)).mono fun e w' ⟨v', he, ho, hg⟩ => ⟨v', he, ho.rd.mono (fun _ _ _ => trivial), hg⟩
              have HXne : Hid (fstL sA TA ≠ fstL sB TB) := hid (fun e => HNE.out (by
                obtain ⟨h1, h2⟩ := fst_inj HslA.out HslB.out e
                refine ⟨h1, ?_⟩
                rw [← HTA.out, ← HTB.out] at h2
                exact ByteArray.ext (Array.toList_inj.1 h2)))
              have HXlen : Hid ((fstL sA TA).length ≤ 4024 ∧ (fstL sB TB).length ≤ 4024) := hid (by
                have h1 : TA.length = NA := by rw [← HTA.out, ← HNA.out]; exact Array.length_toList
                have h2 : TB.length = NB := by rw [← HTB.out, ← HNB.out]; exact Array.length_toList
                have := HNA4.out
                unfold fstL
                rw [List.length_append, List.length_append, be_len, HslA.out, List.length_append, List.length_append, be_len, HslB.out]
                omega)
              go_wp2_with (first
                | (with_reducible refine wpList_load_partW (by with_unfolding_all rfl) 45 _ (by with_unfolding_all rfl) b4 0 SA _ (by with_unfolding_all rfl) HyA.out Tryd.underlying45 (by with_unfolding_all rfl) (by rw [HSAl.out]; exact Tryd.size45) ?_)
                | (with_reducible refine wpList_load_partW (by with_unfolding_all rfl) 45 _ (by with_unfolding_all rfl) b5 0 SB _ (by with_unfolding_all rfl) HyB.out Tryd.underlying45 (by with_unfolding_all rfl) (by rw [HSBl.out]; exact Tryd.size45) ?_)
                | (with_reducible refine wpList_binW (by with_unfolding_all rfl) .eql 45 _ _ _ (by with_unfolding_all rfl) _ _ _ (by with_unfolding_all rfl) (by with_unfolding_all rfl) (HEs.out _ _ _) ?_)
                | (have := HU6; clear this; refine wpList_load_part rfl 47 _ rfl b5 0 csB _ rfl HB6.out.whole Tryd.underlying47 rfl (by rw [HWLB.out]; exact Tryd.size47) ?_)
                | (have := HU6; clear this; go_at_call 17; (with_reducible refine (HFb.out _ HU6.out).mono ?_); rintro e e7 ⟨v7, rfl, hO7, hg7⟩; have HY7 := hid hO7; have HU7 := hid (gtrans HU6.out hg7); have HX7 := hid (HX6.out.keep hg7); have HA7 := hid (HA6.out.keep hg7); have HB7 := hid (HB6.out.keep hg7); clear hO7 hg7)
                | (refine wpList_load_part rfl 47 _ rfl b4 0 csA _ rfl HA5.out.whole Tryd.underlying47 rfl (by rw [HWLA.out]; exact Tryd.size47) ?_)
                | (go_at_call 17; (with_reducible refine (HFa.out _ HU5.out).mono ?_); rintro e e6 ⟨v6, rfl, hO6, hg6⟩; have HX6 := hid hO6; have HU6 := hid (gtrans HU5.out hg6); have HA6 := hid (HA5.out.keep hg6); have HB6 := hid (HB5.out.keep hg6); clear hO6 hg6))
              clear HX6 HU6 HA6 HB6 HA5 HB5 y16 z16 HyA HyB HFa HFb
              obtain ⟨wo, hwo⟩ : ∃ x, x = wr := ⟨_, rfl⟩
              subst hwo
              go_wp2_with fail
              go_loopw [6, 7, 8] (fun xv yv kv wq => ∃ (k : Nat) (xl yl : List UInt8), kv = .int .i64 ((k + 1 : Nat) : Int) ∧ k ≤ 5 ∧ Hid (Rd wq (fun _ => True) xv xl) ∧ Hid (Rd wq (fun _ => True) yv yl) ∧ Hid (xl ≠ yl) ∧ Hid (sumL xl = passN sA TA k) ∧ Hid (sumL yl = passN sB TB k) ∧ Hid (xl.length ≤ 4024 ∧ yl.length ≤ 4024) ∧ Hid (Blk wq b4 csA 47) ∧ Hid (Blk wq b5 csB 47) ∧ Hid (w.grownBy wq none)) (fun _ _ kv _ => 7 - (intOf kv).toNat)
              case atStart => exact ⟨0, fstL sA TA, fstL sB TB, rfl, by omega, HX7, HY7, HXne, hid rfl, hid rfl, HXlen, HA7, HB7, HU7⟩
              case round =>
                clear HX7 HY7 HXne HXlen HA7 HB7 HU7
                obtain ⟨k, xl, yl, rfl, hk, HXr, HYr, HXY, HSx, HSy, HXL, HBA, HBB, HW⟩ := hrel
                obtain ⟨xa, _, _, xc, hxe, -⟩ := HXr.out
                obtain ⟨ya, _, _, yc, hye, -⟩ := HYr.out
                obtain ⟨xn, hxn⟩ : ∃ n, xl.length = n := ⟨_, rfl⟩
                obtain ⟨yn, hyn⟩ : ∃ n, yl.length = n := ⟨_, rfl⟩
                rw [hxn] at hxe
                rw [hyn] at hye
                rw [hxe] at HXr ⊢
                rw [hye] at HYr ⊢
                clear hxn hyn hxe hye
                obtain ⟨K1, hK1⟩ : ∃ K1, k + 1 = K1 := ⟨_, rfl⟩
                rw [hK1]
                have HK1 := hid hK1
                by_cases hlt : k < 5
                · have hlt' : (K1 : Int) ≤ 5 := by omega
                  clear hK1
                  obtain ⟨DA, HDA⟩ : ∃ x, Hid (passN sA TA k = x) := ⟨_, hid rfl⟩
                  obtain ⟨DB, HDB⟩ : ∃ x, Hid (passN sB TB k = x) := ⟨_, hid rfl⟩
                  have HDAl : Hid (DA.length = 32) := hid (by rw [← HDA.out]; exact passN_length _ _ _)
                  have HDBl : Hid (DB.length = 32) := hid (by rw [← HDB.out]; exact passN_length _ _ _)
                  have HNx : Hid (sumL (DA ++ sA) = passN sA TA (k + 1)) := hid (by rw [← HDA.out]; rfl)
                  have HNy : Hid (sumL (DB ++ sB) = passN sB TB (k + 1)) := hid (by rw [← HDB.out]; rfl)
                  rw [HDA.out] at HSx
                  rw [HDB.out] at HSy
                  obtain ⟨CA, HCA⟩ : ∃ x, Hid (Lib.byteCells DA = x) := ⟨_, hid rfl⟩
                  obtain ⟨CB, HCB⟩ : ∃ x, Hid (Lib.byteCells DB = x) := ⟨_, hid rfl⟩
                  have HCAl : Hid (CA.length = 32) := hid (by rw [← HCA.out, byteCells_length]; exact HDAl.out)
                  have HCBl : Hid (CB.length = 32) := hid (by rw [← HCB.out, byteCells_length]; exact HDBl.out)
                  have HCA1 : Hid (∀ v ∈ CA, v.oneCell' = true) := hid (by rw [← HCA.out]; exact bcs_one _)
                  have HCB1 : Hid (∀ v ∈ CB, v.oneCell' = true) := hid (by rw [← HCB.out]; exact bcs_one _)
                  have HPa : Hid (∀ u, w.grownBy u none → Calls Tryd.prog 18 #[.agg SA.toArray, .string tA, .int .i64 (K1 : Nat)] u fun e w' => e = .returned (.tuple #[.agg CA.toArray, .int .i64 0]) ∧ u.grownBy w' none) := fun u hu => by
                    have := pass_ok u sA tA K1 (by have := HK1.out; omega) (by have := HK1.out; omega) HslA.out (HGl.out u hu) (by rw [HNA.out]; have := HNA4.out; omega)
                    rw [HTA.out, ← HK1.out, Nat.add_sub_cancel, HDA.out, HCA.out, HSA.out] at this
                    rw [← HK1.out]
                    exact this
                  have HPb : Hid (∀ u, w.grownBy u none → Calls Tryd.prog 18 #[.agg SB.toArray, .string tB, .int .i64 (K1 : Nat)] u fun e w' => e = .returned (.tuple #[.agg CB.toArray, .int .i64 0]) ∧ u.grownBy w' none) := fun u hu => by
                    have := pass_ok u sB tB K1 (by have := HK1.out; omega) (by have := HK1.out; omega) HslB.out (HGl.out u hu) (by rw [HNB.out]; have := HNA4.out; omega)
                    rw [HTB.out, ← HK1.out, Nat.add_sub_cancel, HDB.out, HCB.out, HSB.out] at this
                    rw [← HK1.out]
                    exact this
                  obtain ⟨y16, HyA⟩ := HcA.out _ _ HBA.out
                  replace HyA := hid HyA
                  go_upto_region 13 with (first
                    | (refine wpList_load_part rfl 45 _ rfl b4 0 SA _ rfl HyA.out Tryd.underlying45 rfl (by rw [HSAl.out]; exact Tryd.size45) ?_)
                    | (go_at_call 18; (with_reducible refine (HPa.out _ HW.out).mono ?_); rintro e q1 ⟨rfl, hg1⟩; have HW1 := hid (gtrans HW.out hg1); have HG1 := hid hg1; clear hg1)
                    | (refine wpList_alloc_row rfl 26 rfl y32 Tryd.zero26 ?_; intro q2 B2 s2 g2; have HD2 := hid B2; have HW2 := hid (gtrans HW1.out g2); have HG2 := hid (gtrans HG1.out g2); clear B2 g2 s2)
                    | (refine wpList_store_all rfl 26 _ _ rfl q1.heap.size y32 CA 26 rfl rfl HD2.out (by rw [HCAl.out]; rfl) (by rw [HCAl.out]; exact Tryd.size26) HCA1.out ?_; intro q3 B3 g3 s3; have HD3 := hid B3; have HW3 := hid (HW2.out.andThen g3 (fun j hj => .inl (by injection hj with hj; have := HW1.out.size; omega))); have HG3 := hid (HG2.out.andThen g3 (fun j hj => .inl (by injection hj with hj; have := HG1.out.size; omega))); clear B3 g3 s3))
                  obtain ⟨p9, hp9⟩ : ∃ x, q1.heap.size = x := ⟨_, rfl⟩
                  rw [hp9] at HD3 ⊢
                  have HP9 : Hid (wr.heap.size ≤ p9) := hid (by rw [← hp9]; exact HG1.out.size)
                  clear hp9 HD2 HW2 HG2 HW1 HG1 y16 HyA
                  obtain ⟨z16, HyB⟩ := HcB.out _ _ (HBB.out.keep HG3.out)
                  replace HyB := hid HyB
                  go_upto_region 14 with (first
                    | (refine wpList_load_part rfl 45 _ rfl b5 0 SB _ rfl HyB.out Tryd.underlying45 rfl (by rw [HSBl.out]; exact Tryd.size45) ?_)
                    | (go_at_call 18; (with_reducible refine (HPb.out _ HW3.out).mono ?_); rintro e q4 ⟨rfl, hg1⟩; have HW4 := hid (gtrans HW3.out hg1); have HG4 := hid hg1; clear hg1)
                    | (refine wpList_alloc_row rfl 26 rfl y32 Tryd.zero26 ?_; intro q5 B2 s2 g2; have HD5 := hid B2; have HW5 := hid (gtrans HW4.out g2); have HG5 := hid (gtrans HG4.out g2); clear B2 g2 s2)
                    | (refine wpList_store_all rfl 26 _ _ rfl q4.heap.size y32 CB 26 rfl rfl HD5.out (by rw [HCBl.out]; rfl) (by rw [HCBl.out]; exact Tryd.size26) HCB1.out ?_; intro wd B3 g3 s3; have HB11' := hid B3; have HWd := hid (HW5.out.andThen g3 (fun j hj => .inl (by injection hj with hj; have := HW4.out.size; omega))); have HG6 := hid (HG5.out.andThen g3 (fun j hj => .inl (by injection hj with hj; have := HG4.out.size; omega))); clear B3 g3 s3))
                  obtain ⟨p11, hp11⟩ : ∃ x, q4.heap.size = x := ⟨_, rfl⟩
                  rw [hp11] at HB11' ⊢
                  have HB11 := HB11'
                  have HB9 := hid (HD3.out.keep HG6.out)
                  have HXd := hid ((HXr.out.keep HG3.out).keep HG6.out)
                  have HYd := hid ((HYr.out.keep HG3.out).keep HG6.out)
                  have HAd := hid ((HBA.out.keep HG3.out).keep HG6.out)
                  have HBd := hid ((HBB.out.keep HG3.out).keep HG6.out)
                  clear hp11 HD5 HW5 HG5 HW4 HG4 z16 HyB HB11' HD3 HXr HYr HBA HBB HG3 HG6 HW3 HW HPa HPb
                  have HCpx : Hid (∀ u, wd.grownBy u none → Calls Tryd.prog 8 #[.slice xa xn xc] u fun e w' => ∃ v', e = .returned v' ∧ Out u.heap.size w' v' xl ∧ u.grownBy w' none) := fun u hu => copyR_any u _ _ _ (HXd.out.keep hu) (by have := HXL.out; omega)
                  have HCpy : Hid (∀ u, wd.grownBy u none → Calls Tryd.prog 8 #[.slice ya yn yc] u fun e w' => ∃ v', e = .returned v' ∧ Out u.heap.size w' v' yl ∧ u.grownBy w' none) := fun u hu => copyR_any u _ _ _ (HYd.out.keep hu) (by have := HXL.out; omega)
                  have HSmx : Hid (∀ (u : World) (v : Value), wd.grownBy u none → Rd u (fun _ => True) v xl → Calls Tryd.prog 9 #[v] u fun e w' => e = .returned (.agg CA.toArray) ∧ u.grownBy w' none) := fun u v hu h => by
                    rw [← HCA.out, ← HSx.out]
                    exact dsum_any u v _ xl h (HGl.out u (gtrans HWd.out hu)) (by have := HXL.out; omega)
                  have HSmy : Hid (∀ (u : World) (v : Value), wd.grownBy u none → Rd u (fun _ => True) v yl → Calls Tryd.prog 9 #[v] u fun e w' => e = .returned (.agg CB.toArray) ∧ u.grownBy w' none) := fun u v hu h => by
                    rw [← HCB.out, ← HSy.out]
                    exact dsum_any u v _ yl h (HGl.out u (gtrans HWd.out hu)) (by have := HXL.out; omega)
                  have HNeA : Hid (∀ (x y : Operand) (u : World), (do eqGuard .neq 26 x y (.agg CA.toArray) (.agg CA.toArray); binOp .neq 26 (.agg CA.toArray) (.agg CA.toArray) : Sem Value).run Tryd.prog u = .ok (.bool false) u) := fun x y u => by
                    rw [← HCA.out, neqG_32]
                    exact neq_self _ HDAl.out u
                  have HNeB : Hid (∀ (x y : Operand) (u : World), (do eqGuard .neq 26 x y (.agg CB.toArray) (.agg CB.toArray); binOp .neq 26 (.agg CB.toArray) (.agg CB.toArray) : Sem Value).run Tryd.prog u = .ok (.bool false) u) := fun x y u => by
                    rw [← HCB.out, neqG_32]
                    exact neq_self _ HDBl.out u
                  refine wp_region_list (by kernel_rfl) [fun v _ => v = (Value.int .i64 0), fun v _ => v = (Value.int .i64 0), fun v _ => v = (Value.bool false), fun v _ => v = (Value.bool false), fun v _ => v = (Value.int .i64 0), fun v _ => v = (Value.int .i64 0), fun v _ => v = (Value.bool false), fun v _ => v = (Value.bool false), fun v _ => v = (Value.bool false), fun v _ => v = (Value.agg CA.toArray), fun v _ => v = (Value.slice xa xn xc), fun v u => ∃ z, v = z ∧ Rd u (fun _ => True) z xl, fun v _ => v = (Value.agg CA.toArray), fun v _ => v = (Value.bool false), fun v _ => v = (Value.bool false), fun v _ => v = (Value.bool false), fun v _ => v = (Value.agg CB.toArray), fun v _ => v = (Value.slice ya yn yc), fun v u => ∃ z, v = z ∧ Rd u (fun _ => True) z yl, fun v _ => v = (Value.agg CB.toArray), fun v _ => v = (Value.bool false), fun v _ => v = (Value.bool false)] (none) (fun _ => none) 22 (by kernel_rfl) (by kernel_rfl) (by kernel_rfl) (by kernel_rfl) (by decide) noRow_one (fun _ => .inl rfl) ⟨fun i v u u' hki h hg => h, fun i v u u' hki h hg => h, fun i v u u' hki h hg => h, fun i v u u' hki h hg => h, fun i v u u' hki h hg => h, fun i v u u' hki h hg => h, fun i v u u' hki h hg => h, fun i v u u' hki h hg => h, fun i v u u' hki h hg => h, fun i v u u' hki h hg => h, fun i v u u' hki h hg => h, fun i v u u' hki h hg => (by obtain ⟨z, rfl, h1⟩ := h; exact ⟨_, rfl, h1.keep hg⟩), fun i v u u' hki h hg => h, fun i v u u' hki h hg => h, fun i v u u' hki h hg => h, fun i v u u' hki h hg => h, fun i v u u' hki h hg => h, fun i v u u' hki h hg => h, fun i v u u' hki h hg => (by obtain ⟨z, rfl, h1⟩ := h; exact ⟨_, rfl, h1.keep hg⟩), fun i v u u' hki h hg => h, fun i v u u' hki h hg => h, fun i v u u' hki h hg => h, trivial⟩ ⟨?_, ?_, ?_, ?_, ?_, ?_, ?_, ?_, ?_, ?_, ?_, ?_, ?_, ?_, ?_, ?_, ?_, ?_, ?_, ?_, ?_, ?_, trivial⟩ ?_
                  · intro A u hu hpu hsz hout hdeps
                    have e10 : A.eval (.tmp 10) = (.int .i64 0) := (hout 10 (by kernel_rfl)).trans rfl
                    refine ifw_none rfl ?_
                    with_reducible refine shown_q (Value.int .i64 0) ?qq_1_0 (fun _ _ => ?qr_1_0)
                    case qr_1_0 => exact (rfl : (Value.int .i64 0) = (Value.int .i64 0))
                    with_reducible refine quietAt_mv (.tmp 10) (Value.int .i64 0) ?h0_1_0 ?h1_1_0
                    case h0_1_0 => rfl
                    case h1_1_0 => exact e10
                  · intro A u hu hpu hsz hout hdeps
                    have e82 : A.eval (.tmp 82) = (.int .i64 0) := by have h := depL hdeps 0 (by kernel_rfl) 82 (by kernel_rfl); exact h
                    refine ifw_none rfl ?_
                    with_reducible refine shown_q (Value.int .i64 0) ?qq_1_1 (fun _ _ => ?qr_1_1)
                    case qr_1_1 => exact (rfl : (Value.int .i64 0) = (Value.int .i64 0))
                    with_reducible refine quietAt_call 19 Tryd.f19 ?h0_1_1 ?h1_1_1 ?h2_1_1 #[.tmp 82] #[49] ?h3_1_1 (Value.int .i64 0) #[(Value.int .i64 0)] ?h4_1_1 ?h5_1_1
                    case h0_1_1 => exact Tryd.func19
                    case h1_1_1 => kernel_rfl
                    case h2_1_1 => kernel_rfl
                    case h3_1_1 => rfl
                    case h4_1_1 => exact map1 _ _ _ e82
                    case h5_1_1 => exact (HNum.out u)
                  · intro A u hu hpu hsz hout hdeps
                    have e83 : A.eval (.tmp 83) = (.int .i64 0) := by have h := depL hdeps 1 (by kernel_rfl) 83 (by kernel_rfl); exact h
                    refine ifw_none rfl ?_
                    with_reducible refine shown_q (Value.bool false) ?qq_1_2 (fun _ _ => ?qr_1_2)
                    case qr_1_2 => exact (rfl : (Value.bool false) = (Value.bool false))
                    with_reducible refine quietAt_bin .neq 3 (.tmp 83) (.const (.int .i64 0)) 3 (Value.int .i64 0) (Value.int .i64 0) (Value.bool false) ?h0_1_2 ?h1_1_2 ?h2_1_2 ?h3_1_2
                    case h0_1_2 => rfl
                    case h1_1_2 => exact e83
                    case h2_1_2 => exact rfl
                    case h3_1_2 => exact (neq3 _ _ u)
                  · intro A u hu hpu hsz hout hdeps
                    have e84 : A.eval (.tmp 84) = (.bool false) := by have h := depL hdeps 2 (by kernel_rfl) 84 (by kernel_rfl); exact h
                    refine ifw_none rfl ?_
                    with_reducible refine shown_q (Value.bool false) ?qq_1_3 (fun _ _ => ?qr_1_3)
                    case qr_1_3 => exact (rfl : (Value.bool false) = (Value.bool false))
                    with_reducible refine quietAt_mv (.tmp 84) (Value.bool false) ?h0_1_3 ?h1_1_3
                    case h0_1_3 => rfl
                    case h1_1_3 => exact e84
                  · intro A u hu hpu hsz hout hdeps
                    have e85 : A.eval (.tmp 85) = (.bool false) := by have h := depL hdeps 3 (by kernel_rfl) 85 (by kernel_rfl); exact h
                    have e12 : A.eval (.tmp 12) = (.int .i64 0) := (hout 12 (by kernel_rfl)).trans rfl
                    refine ifw_want 3 false 85 rfl rfl e85 ?_
                    with_reducible refine shown_q (Value.int .i64 0) ?qq_1_4 (fun _ _ => ?qr_1_4)
                    case qr_1_4 => exact (rfl : (Value.int .i64 0) = (Value.int .i64 0))
                    with_reducible refine quietAt_mv (.tmp 12) (Value.int .i64 0) ?h0_1_4 ?h1_1_4
                    case h0_1_4 => rfl
                    case h1_1_4 => exact e12
                  · intro A u hu hpu hsz hout hdeps
                    have e85 : A.eval (.tmp 85) = (.bool false) := by have h := depL hdeps 3 (by kernel_rfl) 85 (by kernel_rfl); exact h
                    have e86 : A.eval (.tmp 86) = (.int .i64 0) := by have h := depL hdeps 4 (by kernel_rfl) 86 (by kernel_rfl); exact h
                    refine ifw_want 3 false 85 rfl rfl e85 ?_
                    with_reducible refine shown_q (Value.int .i64 0) ?qq_1_5 (fun _ _ => ?qr_1_5)
                    case qr_1_5 => exact (rfl : (Value.int .i64 0) = (Value.int .i64 0))
                    with_reducible refine quietAt_call 19 Tryd.f19 ?h0_1_5 ?h1_1_5 ?h2_1_5 #[.tmp 86] #[49] ?h3_1_5 (Value.int .i64 0) #[(Value.int .i64 0)] ?h4_1_5 ?h5_1_5
                    case h0_1_5 => exact Tryd.func19
                    case h1_1_5 => kernel_rfl
                    case h2_1_5 => kernel_rfl
                    case h3_1_5 => rfl
                    case h4_1_5 => exact map1 _ _ _ e86
                    case h5_1_5 => exact (HNum.out u)
                  · intro A u hu hpu hsz hout hdeps
                    have e85 : A.eval (.tmp 85) = (.bool false) := by have h := depL hdeps 3 (by kernel_rfl) 85 (by kernel_rfl); exact h
                    have e87 : A.eval (.tmp 87) = (.int .i64 0) := by have h := depL hdeps 5 (by kernel_rfl) 87 (by kernel_rfl); exact h
                    refine ifw_want 3 false 85 rfl rfl e85 ?_
                    with_reducible refine shown_q (Value.bool false) ?qq_1_6 (fun _ _ => ?qr_1_6)
                    case qr_1_6 => exact (rfl : (Value.bool false) = (Value.bool false))
                    with_reducible refine quietAt_bin .neq 3 (.tmp 87) (.const (.int .i64 0)) 3 (Value.int .i64 0) (Value.int .i64 0) (Value.bool false) ?h0_1_6 ?h1_1_6 ?h2_1_6 ?h3_1_6
                    case h0_1_6 => rfl
                    case h1_1_6 => exact e87
                    case h2_1_6 => exact rfl
                    case h3_1_6 => exact (neq3 _ _ u)
                  · intro A u hu hpu hsz hout hdeps
                    have e85 : A.eval (.tmp 85) = (.bool false) := by have h := depL hdeps 3 (by kernel_rfl) 85 (by kernel_rfl); exact h
                    have e88 : A.eval (.tmp 88) = (.bool false) := by have h := depL hdeps 6 (by kernel_rfl) 88 (by kernel_rfl); exact h
                    refine ifw_none rfl ?_
                    with_reducible refine shown_q (Value.bool false) ?qq_1_7 (fun _ _ => ?qr_1_7)
                    case qr_1_7 => exact (rfl : (Value.bool false) = (Value.bool false))
                    with_reducible refine quietAt_pick (.tmp 85) (.const (.bool true)) (.tmp 88) false (Value.bool false) ?h0_1_7 ?h1_1_7 ?h2_1_7
                    case h0_1_7 => rfl
                    case h1_1_7 => exact e85
                    case h2_1_7 => rw [if_neg (by decide)]; exact e88
                  · intro A u hu hpu hsz hout hdeps
                    have e89 : A.eval (.tmp 89) = (.bool false) := by have h := depL hdeps 7 (by kernel_rfl) 89 (by kernel_rfl); exact h
                    refine ifw_none rfl ?_
                    with_reducible refine shown_q (Value.bool false) ?qq_1_8 (fun _ _ => ?qr_1_8)
                    case qr_1_8 => exact (rfl : (Value.bool false) = (Value.bool false))
                    with_reducible refine quietAt_mv (.tmp 89) (Value.bool false) ?h0_1_8 ?h1_1_8
                    case h0_1_8 => rfl
                    case h1_1_8 => exact e89
                  · intro A u hu hpu hsz hout hdeps
                    have e90 : A.eval (.tmp 90) = (.bool false) := by have h := depL hdeps 8 (by kernel_rfl) 90 (by kernel_rfl); exact h
                    have e9 : A.eval (.tmp 9) = (.pointer (some ⟨p9, 0, none⟩)) := (hout 9 (by kernel_rfl)).trans rfl
                    refine ifw_want 8 false 90 rfl rfl e90 ?_
                    with_reducible refine shown_q (Value.agg CA.toArray) ?qq_1_9 (fun _ _ => ?qr_1_9)
                    case qr_1_9 => exact (rfl : (Value.agg CA.toArray) = (Value.agg CA.toArray))
                    with_reducible refine quietAt_load 26 (.tmp 9) ?h0_1_9 p9 0 CA (.array 32 5) ?h1_1_9 ?h2_1_9 ?h3_1_9 ?h4_1_9 ?h5_1_9
                    case h0_1_9 => rfl
                    case h1_1_9 => exact e9
                    case h2_1_9 => exact (HB9.out.keep hu).whole
                    case h3_1_9 => exact Tryd.underlying26
                    case h4_1_9 => rfl
                    case h5_1_9 => exact (by rw [HCAl.out]; exact Tryd.size26)
                  · intro A u hu hpu hsz hout hdeps
                    have e90 : A.eval (.tmp 90) = (.bool false) := by have h := depL hdeps 8 (by kernel_rfl) 90 (by kernel_rfl); exact h
                    have e6 : A.eval (.tmp 6) = (.slice xa xn xc) := (hout 6 (by kernel_rfl)).trans rfl
                    refine ifw_want 8 false 90 rfl rfl e90 ?_
                    with_reducible refine shown_q (Value.slice xa xn xc) ?qq_1_10 (fun _ _ => ?qr_1_10)
                    case qr_1_10 => exact (rfl : (Value.slice xa xn xc) = (Value.slice xa xn xc))
                    with_reducible refine quietAt_mv (.tmp 6) (Value.slice xa xn xc) ?h0_1_10 ?h1_1_10
                    case h0_1_10 => rfl
                    case h1_1_10 => exact e6
                  · intro A u hu hpu hsz hout hdeps
                    have e90 : A.eval (.tmp 90) = (.bool false) := by have h := depL hdeps 8 (by kernel_rfl) 90 (by kernel_rfl); exact h
                    have e92 : A.eval (.tmp 92) = (.slice xa xn xc) := by have h := depL hdeps 10 (by kernel_rfl) 92 (by kernel_rfl); exact h
                    refine ifw_want 8 false 90 rfl rfl e90 ?_
                    with_reducible refine shown_call 8 Tryd.f8 ?h0_1_11 ?h1_1_11 ?h2_1_11 #[.tmp 92] #[25] ?h3_1_11 #[(Value.slice xa xn xc)] ?h4_1_11 ?h5_1_11
                    case h0_1_11 => exact Tryd.func8
                    case h1_1_11 => kernel_rfl
                    case h2_1_11 => kernel_rfl
                    case h3_1_11 => rfl
                    case h4_1_11 => exact map1 _ _ _ e92
                    case h5_1_11 => exact (HCpx.out u hu).mono fun e w' ⟨v', he, ho, hg⟩ => ⟨v', he, hg, v', rfl, ho.rd.mono (fun _ _ _ => trivial)⟩
                  · intro A u hu hpu hsz hout hdeps
                    have e90 : A.eval (.tmp 90) = (.bool false) := by have h := depL hdeps 8 (by kernel_rfl) 90 (by kernel_rfl); exact h
                    have f93 : (fun v u => ∃ z, v = z ∧ Rd u (fun _ => True) z xl) (A.eval (.tmp 93)) u := by have h := depL hdeps 11 (by kernel_rfl) 93 (by kernel_rfl); exact h
                    obtain ⟨Vx, e93, HVx⟩ := f93
                    refine ifw_want 8 false 90 rfl rfl e90 ?_
                    with_reducible refine shown_q (Value.agg CA.toArray) ?qq_1_12 (fun _ _ => ?qr_1_12)
                    case qr_1_12 => exact (rfl : (Value.agg CA.toArray) = (Value.agg CA.toArray))
                    with_reducible refine quietAt_call 9 Tryd.f9 ?h0_1_12 ?h1_1_12 ?h2_1_12 #[.tmp 93] #[25] ?h3_1_12 (Value.agg CA.toArray) #[Vx] ?h4_1_12 ?h5_1_12
                    case h0_1_12 => exact Tryd.func9
                    case h1_1_12 => kernel_rfl
                    case h2_1_12 => kernel_rfl
                    case h3_1_12 => rfl
                    case h4_1_12 => exact map1 _ _ _ e93
                    case h5_1_12 => exact (HSmx.out u _ hu HVx)
                  · intro A u hu hpu hsz hout hdeps
                    have e90 : A.eval (.tmp 90) = (.bool false) := by have h := depL hdeps 8 (by kernel_rfl) 90 (by kernel_rfl); exact h
                    have e91 : A.eval (.tmp 91) = (.agg CA.toArray) := by have h := depL hdeps 9 (by kernel_rfl) 91 (by kernel_rfl); exact h
                    have e94 : A.eval (.tmp 94) = (.agg CA.toArray) := by have h := depL hdeps 12 (by kernel_rfl) 94 (by kernel_rfl); exact h
                    refine ifw_want 8 false 90 rfl rfl e90 ?_
                    with_reducible refine shown_q (Value.bool false) ?qq_1_13 (fun _ _ => ?qr_1_13)
                    case qr_1_13 => exact (rfl : (Value.bool false) = (Value.bool false))
                    with_reducible refine quietAt_bin .neq 26 (.tmp 91) (.tmp 94) 26 (Value.agg CA.toArray) (Value.agg CA.toArray) (Value.bool false) ?h0_1_13 ?h1_1_13 ?h2_1_13 ?h3_1_13
                    case h0_1_13 => rfl
                    case h1_1_13 => exact e91
                    case h2_1_13 => exact e94
                    case h3_1_13 => exact (HNeA.out _ _ u)
                  · intro A u hu hpu hsz hout hdeps
                    have e90 : A.eval (.tmp 90) = (.bool false) := by have h := depL hdeps 8 (by kernel_rfl) 90 (by kernel_rfl); exact h
                    have e95 : A.eval (.tmp 95) = (.bool false) := by have h := depL hdeps 13 (by kernel_rfl) 95 (by kernel_rfl); exact h
                    refine ifw_none rfl ?_
                    with_reducible refine shown_q (Value.bool false) ?qq_1_14 (fun _ _ => ?qr_1_14)
                    case qr_1_14 => exact (rfl : (Value.bool false) = (Value.bool false))
                    with_reducible refine quietAt_pick (.tmp 90) (.const (.bool true)) (.tmp 95) false (Value.bool false) ?h0_1_14 ?h1_1_14 ?h2_1_14
                    case h0_1_14 => rfl
                    case h1_1_14 => exact e90
                    case h2_1_14 => rw [if_neg (by decide)]; exact e95
                  · intro A u hu hpu hsz hout hdeps
                    have e96 : A.eval (.tmp 96) = (.bool false) := by have h := depL hdeps 14 (by kernel_rfl) 96 (by kernel_rfl); exact h
                    refine ifw_none rfl ?_
                    with_reducible refine shown_q (Value.bool false) ?qq_1_15 (fun _ _ => ?qr_1_15)
                    case qr_1_15 => exact (rfl : (Value.bool false) = (Value.bool false))
                    with_reducible refine quietAt_mv (.tmp 96) (Value.bool false) ?h0_1_15 ?h1_1_15
                    case h0_1_15 => rfl
                    case h1_1_15 => exact e96
                  · intro A u hu hpu hsz hout hdeps
                    have e97 : A.eval (.tmp 97) = (.bool false) := by have h := depL hdeps 15 (by kernel_rfl) 97 (by kernel_rfl); exact h
                    have e11 : A.eval (.tmp 11) = (.pointer (some ⟨p11, 0, none⟩)) := (hout 11 (by kernel_rfl)).trans rfl
                    refine ifw_want 15 false 97 rfl rfl e97 ?_
                    with_reducible refine shown_q (Value.agg CB.toArray) ?qq_1_16 (fun _ _ => ?qr_1_16)
                    case qr_1_16 => exact (rfl : (Value.agg CB.toArray) = (Value.agg CB.toArray))
                    with_reducible refine quietAt_load 26 (.tmp 11) ?h0_1_16 p11 0 CB (.array 32 5) ?h1_1_16 ?h2_1_16 ?h3_1_16 ?h4_1_16 ?h5_1_16
                    case h0_1_16 => rfl
                    case h1_1_16 => exact e11
                    case h2_1_16 => exact (HB11.out.keep hu).whole
                    case h3_1_16 => exact Tryd.underlying26
                    case h4_1_16 => rfl
                    case h5_1_16 => exact (by rw [HCBl.out]; exact Tryd.size26)
                  · intro A u hu hpu hsz hout hdeps
                    have e97 : A.eval (.tmp 97) = (.bool false) := by have h := depL hdeps 15 (by kernel_rfl) 97 (by kernel_rfl); exact h
                    have e7 : A.eval (.tmp 7) = (.slice ya yn yc) := (hout 7 (by kernel_rfl)).trans rfl
                    refine ifw_want 15 false 97 rfl rfl e97 ?_
                    with_reducible refine shown_q (Value.slice ya yn yc) ?qq_1_17 (fun _ _ => ?qr_1_17)
                    case qr_1_17 => exact (rfl : (Value.slice ya yn yc) = (Value.slice ya yn yc))
                    with_reducible refine quietAt_mv (.tmp 7) (Value.slice ya yn yc) ?h0_1_17 ?h1_1_17
                    case h0_1_17 => rfl
                    case h1_1_17 => exact e7
                  · intro A u hu hpu hsz hout hdeps
                    have e97 : A.eval (.tmp 97) = (.bool false) := by have h := depL hdeps 15 (by kernel_rfl) 97 (by kernel_rfl); exact h
                    have e99 : A.eval (.tmp 99) = (.slice ya yn yc) := by have h := depL hdeps 17 (by kernel_rfl) 99 (by kernel_rfl); exact h
                    refine ifw_want 15 false 97 rfl rfl e97 ?_
                    with_reducible refine shown_call 8 Tryd.f8 ?h0_1_18 ?h1_1_18 ?h2_1_18 #[.tmp 99] #[25] ?h3_1_18 #[(Value.slice ya yn yc)] ?h4_1_18 ?h5_1_18
                    case h0_1_18 => exact Tryd.func8
                    case h1_1_18 => kernel_rfl
                    case h2_1_18 => kernel_rfl
                    case h3_1_18 => rfl
                    case h4_1_18 => exact map1 _ _ _ e99
                    case h5_1_18 => exact (HCpy.out u hu).mono fun e w' ⟨v', he, ho, hg⟩ => ⟨v', he, hg, v', rfl, ho.rd.mono (fun _ _ _ => trivial)⟩
                  · intro A u hu hpu hsz hout hdeps
                    have e97 : A.eval (.tmp 97) = (.bool false) := by have h := depL hdeps 15 (by kernel_rfl) 97 (by kernel_rfl); exact h
                    have f100 : (fun v u => ∃ z, v = z ∧ Rd u (fun _ => True) z yl) (A.eval (.tmp 100)) u := by have h := depL hdeps 18 (by kernel_rfl) 100 (by kernel_rfl); exact h
                    obtain ⟨Vy, e100, HVy⟩ := f100
                    refine ifw_want 15 false 97 rfl rfl e97 ?_
                    with_reducible refine shown_q (Value.agg CB.toArray) ?qq_1_19 (fun _ _ => ?qr_1_19)
                    case qr_1_19 => exact (rfl : (Value.agg CB.toArray) = (Value.agg CB.toArray))
                    with_reducible refine quietAt_call 9 Tryd.f9 ?h0_1_19 ?h1_1_19 ?h2_1_19 #[.tmp 100] #[25] ?h3_1_19 (Value.agg CB.toArray) #[Vy] ?h4_1_19 ?h5_1_19
                    case h0_1_19 => exact Tryd.func9
                    case h1_1_19 => kernel_rfl
                    case h2_1_19 => kernel_rfl
                    case h3_1_19 => rfl
                    case h4_1_19 => exact map1 _ _ _ e100
                    case h5_1_19 => exact (HSmy.out u _ hu HVy)
                  · intro A u hu hpu hsz hout hdeps
                    have e97 : A.eval (.tmp 97) = (.bool false) := by have h := depL hdeps 15 (by kernel_rfl) 97 (by kernel_rfl); exact h
                    have e98 : A.eval (.tmp 98) = (.agg CB.toArray) := by have h := depL hdeps 16 (by kernel_rfl) 98 (by kernel_rfl); exact h
                    have e101 : A.eval (.tmp 101) = (.agg CB.toArray) := by have h := depL hdeps 19 (by kernel_rfl) 101 (by kernel_rfl); exact h
                    refine ifw_want 15 false 97 rfl rfl e97 ?_
                    with_reducible refine shown_q (Value.bool false) ?qq_1_20 (fun _ _ => ?qr_1_20)
                    case qr_1_20 => exact (rfl : (Value.bool false) = (Value.bool false))
                    with_reducible refine quietAt_bin .neq 26 (.tmp 98) (.tmp 101) 26 (Value.agg CB.toArray) (Value.agg CB.toArray) (Value.bool false) ?h0_1_20 ?h1_1_20 ?h2_1_20 ?h3_1_20
                    case h0_1_20 => rfl
                    case h1_1_20 => exact e98
                    case h2_1_20 => exact e101
                    case h3_1_20 => exact (HNeB.out _ _ u)
                  · intro A u hu hpu hsz hout hdeps
                    have e97 : A.eval (.tmp 97) = (.bool false) := by have h := depL hdeps 15 (by kernel_rfl) 97 (by kernel_rfl); exact h
                    have e102 : A.eval (.tmp 102) = (.bool false) := by have h := depL hdeps 20 (by kernel_rfl) 102 (by kernel_rfl); exact h
                    refine ifw_none rfl ?_
                    with_reducible refine shown_q (Value.bool false) ?qq_1_21 (fun _ _ => ?qr_1_21)
                    case qr_1_21 => exact (rfl : (Value.bool false) = (Value.bool false))
                    with_reducible refine quietAt_pick (.tmp 97) (.const (.bool true)) (.tmp 102) false (Value.bool false) ?h0_1_21 ?h1_1_21 ?h2_1_21
                    case h0_1_21 => rfl
                    case h1_1_21 => exact e97
                    case h2_1_21 => rw [if_neg (by decide)]; exact e102
                  · intro A u14 listed hh hall
                    have hA := hh.frame
                    have HU := hid hh.grown
                    obtain ⟨x82, hx82⟩ : ∃ x, A.eval (.tmp 82) = x := ⟨_, rfl⟩
                    have f82 : (fun v _ => v = (Value.int .i64 0)) x82 u14 := by rw [← hx82]; exact hh.got 0 _ 82 rfl rfl (hall 0 (by decide))
                    obtain ⟨x83, hx83⟩ : ∃ x, A.eval (.tmp 83) = x := ⟨_, rfl⟩
                    have f83 : (fun v _ => v = (Value.int .i64 0)) x83 u14 := by rw [← hx83]; exact hh.got 1 _ 83 rfl rfl (hall 1 (by decide))
                    obtain ⟨x84, hx84⟩ : ∃ x, A.eval (.tmp 84) = x := ⟨_, rfl⟩
                    have f84 : (fun v _ => v = (Value.bool false)) x84 u14 := by rw [← hx84]; exact hh.got 2 _ 84 rfl rfl (hall 2 (by decide))
                    obtain ⟨x85, hx85⟩ : ∃ x, A.eval (.tmp 85) = x := ⟨_, rfl⟩
                    have f85 : (fun v _ => v = (Value.bool false)) x85 u14 := by rw [← hx85]; exact hh.got 3 _ 85 rfl rfl (hall 3 (by decide))
                    obtain ⟨x86, hx86⟩ : ∃ x, A.eval (.tmp 86) = x := ⟨_, rfl⟩
                    have f86 : (fun v _ => v = (Value.int .i64 0)) x86 u14 := by rw [← hx86]; exact hh.got 4 _ 86 rfl rfl (hall 4 (by decide))
                    obtain ⟨x87, hx87⟩ : ∃ x, A.eval (.tmp 87) = x := ⟨_, rfl⟩
                    have f87 : (fun v _ => v = (Value.int .i64 0)) x87 u14 := by rw [← hx87]; exact hh.got 5 _ 87 rfl rfl (hall 5 (by decide))
                    obtain ⟨x88, hx88⟩ : ∃ x, A.eval (.tmp 88) = x := ⟨_, rfl⟩
                    have f88 : (fun v _ => v = (Value.bool false)) x88 u14 := by rw [← hx88]; exact hh.got 6 _ 88 rfl rfl (hall 6 (by decide))
                    obtain ⟨x89, hx89⟩ : ∃ x, A.eval (.tmp 89) = x := ⟨_, rfl⟩
                    have f89 : (fun v _ => v = (Value.bool false)) x89 u14 := by rw [← hx89]; exact hh.got 7 _ 89 rfl rfl (hall 7 (by decide))
                    obtain ⟨x90, hx90⟩ : ∃ x, A.eval (.tmp 90) = x := ⟨_, rfl⟩
                    have f90 : (fun v _ => v = (Value.bool false)) x90 u14 := by rw [← hx90]; exact hh.got 8 _ 90 rfl rfl (hall 8 (by decide))
                    obtain ⟨x91, hx91⟩ : ∃ x, A.eval (.tmp 91) = x := ⟨_, rfl⟩
                    have f91 : (fun v _ => v = (Value.agg CA.toArray)) x91 u14 := by rw [← hx91]; exact hh.got 9 _ 91 rfl rfl (hall 9 (by decide))
                    obtain ⟨x92, hx92⟩ : ∃ x, A.eval (.tmp 92) = x := ⟨_, rfl⟩
                    have f92 : (fun v _ => v = (Value.slice xa xn xc)) x92 u14 := by rw [← hx92]; exact hh.got 10 _ 92 rfl rfl (hall 10 (by decide))
                    obtain ⟨x93, hx93⟩ : ∃ x, A.eval (.tmp 93) = x := ⟨_, rfl⟩
                    have f93 : (fun v u => ∃ z, v = z ∧ Rd u (fun _ => True) z xl) x93 u14 := by rw [← hx93]; exact hh.got 11 _ 93 rfl rfl (hall 11 (by decide))
                    obtain ⟨x94, hx94⟩ : ∃ x, A.eval (.tmp 94) = x := ⟨_, rfl⟩
                    have f94 : (fun v _ => v = (Value.agg CA.toArray)) x94 u14 := by rw [← hx94]; exact hh.got 12 _ 94 rfl rfl (hall 12 (by decide))
                    obtain ⟨x95, hx95⟩ : ∃ x, A.eval (.tmp 95) = x := ⟨_, rfl⟩
                    have f95 : (fun v _ => v = (Value.bool false)) x95 u14 := by rw [← hx95]; exact hh.got 13 _ 95 rfl rfl (hall 13 (by decide))
                    obtain ⟨x96, hx96⟩ : ∃ x, A.eval (.tmp 96) = x := ⟨_, rfl⟩
                    have f96 : (fun v _ => v = (Value.bool false)) x96 u14 := by rw [← hx96]; exact hh.got 14 _ 96 rfl rfl (hall 14 (by decide))
                    obtain ⟨x97, hx97⟩ : ∃ x, A.eval (.tmp 97) = x := ⟨_, rfl⟩
                    have f97 : (fun v _ => v = (Value.bool false)) x97 u14 := by rw [← hx97]; exact hh.got 15 _ 97 rfl rfl (hall 15 (by decide))
                    obtain ⟨x98, hx98⟩ : ∃ x, A.eval (.tmp 98) = x := ⟨_, rfl⟩
                    have f98 : (fun v _ => v = (Value.agg CB.toArray)) x98 u14 := by rw [← hx98]; exact hh.got 16 _ 98 rfl rfl (hall 16 (by decide))
                    obtain ⟨x99, hx99⟩ : ∃ x, A.eval (.tmp 99) = x := ⟨_, rfl⟩
                    have f99 : (fun v _ => v = (Value.slice ya yn yc)) x99 u14 := by rw [← hx99]; exact hh.got 17 _ 99 rfl rfl (hall 17 (by decide))
                    obtain ⟨x100, hx100⟩ : ∃ x, A.eval (.tmp 100) = x := ⟨_, rfl⟩
                    have f100 : (fun v u => ∃ z, v = z ∧ Rd u (fun _ => True) z yl) x100 u14 := by rw [← hx100]; exact hh.got 18 _ 100 rfl rfl (hall 18 (by decide))
                    obtain ⟨x101, hx101⟩ : ∃ x, A.eval (.tmp 101) = x := ⟨_, rfl⟩
                    have f101 : (fun v _ => v = (Value.agg CB.toArray)) x101 u14 := by rw [← hx101]; exact hh.got 19 _ 101 rfl rfl (hall 19 (by decide))
                    obtain ⟨x102, hx102⟩ : ∃ x, A.eval (.tmp 102) = x := ⟨_, rfl⟩
                    have f102 : (fun v _ => v = (Value.bool false)) x102 u14 := by rw [← hx102]; exact hh.got 20 _ 102 rfl rfl (hall 20 (by decide))
                    obtain ⟨x103, hx103⟩ : ∃ x, A.eval (.tmp 103) = x := ⟨_, rfl⟩
                    have f103 : (fun v _ => v = (Value.bool false)) x103 u14 := by rw [← hx103]; exact hh.got 21 _ 103 rfl rfl (hall 21 (by decide))
                    dsimp only [wrote, List.foldl] at hA
                    rw [hx82, hx83, hx84, hx85, hx86, hx87, hx88, hx89, hx90, hx91, hx92, hx93, hx94, hx95, hx96, hx97, hx98, hx99, hx100, hx101, hx102, hx103] at hA
                    clear hh hall hx82 hx83 hx84 hx85 hx86 hx87 hx88 hx89 hx90 hx91 hx92 hx93 hx94 hx95 hx96 hx97 hx98 hx99 hx100 hx101 hx102 hx103
                    replace f82 := (f82 : x82 = (.int .i64 0))
                    subst f82
                    replace f83 := (f83 : x83 = (.int .i64 0))
                    subst f83
                    replace f84 := (f84 : x84 = (.bool false))
                    subst f84
                    replace f85 := (f85 : x85 = (.bool false))
                    subst f85
                    replace f86 := (f86 : x86 = (.int .i64 0))
                    subst f86
                    replace f87 := (f87 : x87 = (.int .i64 0))
                    subst f87
                    replace f88 := (f88 : x88 = (.bool false))
                    subst f88
                    replace f89 := (f89 : x89 = (.bool false))
                    subst f89
                    replace f90 := (f90 : x90 = (.bool false))
                    subst f90
                    replace f91 := (f91 : x91 = (.agg CA.toArray))
                    subst f91
                    replace f92 := (f92 : x92 = (.slice xa xn xc))
                    subst f92
                    obtain ⟨Vx, e93, HVx⟩ := f93
                    subst e93
                    replace f94 := (f94 : x94 = (.agg CA.toArray))
                    subst f94
                    replace f95 := (f95 : x95 = (.bool false))
                    subst f95
                    replace f96 := (f96 : x96 = (.bool false))
                    subst f96
                    replace f97 := (f97 : x97 = (.bool false))
                    subst f97
                    replace f98 := (f98 : x98 = (.agg CB.toArray))
                    subst f98
                    replace f99 := (f99 : x99 = (.slice ya yn yc))
                    subst f99
                    obtain ⟨Vy, e100, HVy⟩ := f100
                    subst e100
                    replace f101 := (f101 : x101 = (.agg CB.toArray))
                    subst f101
                    replace f102 := (f102 : x102 = (.bool false))
                    subst f102
                    replace f103 := (f103 : x103 = (.bool false))
                    subst f103
                    subst hA
                    show wpList _ _ _ [] _ _
                    unfold wpList
                    simp only [Act.put, List.setIfInBounds_toArray, List.set_cons_succ, List.set_cons_zero]
                    have HT14 := hid HU.out
                    clear HU HCpx HCpy HSmx HSmy HNeA HNeB
                    have HB9' := hid (HB9.out.keep HT14.out)
                    have HB11' := hid (HB11.out.keep HT14.out)
                    have HXe := hid (HXd.out.keep HT14.out)
                    have HYe := hid (HYd.out.keep HT14.out)
                    have HAe := hid (HAd.out.keep HT14.out)
                    have HBe := hid (HBd.out.keep HT14.out)
                    have HWe := hid (gtrans HWd.out HT14.out)
                    clear HB9 HB11 HXd HYd HAd HBd HWd
                    have HEq : Hid (∀ (x y : Operand) (u : World), (do eqGuard .eql 26 x y (.agg CA.toArray) (.agg CB.toArray); binOp .eql 26 (.agg CA.toArray) (.agg CB.toArray) : Sem Value).run Tryd.prog u = .ok (.bool (DA == DB)) u) := fun x y u => by
                      rw [← HCA.out, ← HCB.out, neqG_32]
                      exact eql_32 DA DB HDAl.out HDBl.out u
                    obtain ⟨ed, Hed⟩ : ∃ x, Hid ((DA == DB) = x) := ⟨_, hid rfl⟩
                    rw [Hed.out] at HEq
                    cases ed with
                    | true =>
                      have HEy : Hid (∀ u, u14.grownBy u none → Calls Tryd.prog 20 #[.slice xa xn xc, .slice ya yn yc] u fun e w' => e = .returned (.bool false) ∧ u.grownBy w' none) := fun u hu => by
                        have := eq_any u (.slice xa xn xc) (.slice ya yn yc) _ _ xl yl (HXe.out.keep hu) (HYe.out.keep hu) (by have := HXL.out; omega)
                        rw [decide_eq_false HXY.out] at this
                        exact this.mono fun e w' ⟨he, m, hm⟩ => ⟨he, by rw [hm]; exact gdrew _ _ _⟩
                      go_wp2_with (first
                        | (refine wpList_load_part rfl 26 _ rfl p9 0 CA _ rfl HB9'.out.whole Tryd.underlying26 rfl (by rw [HCAl.out]; exact Tryd.size26) ?_)
                        | (refine wpList_load_part rfl 26 _ rfl p11 0 CB _ rfl HB11'.out.whole Tryd.underlying26 rfl (by rw [HCBl.out]; exact Tryd.size26) ?_)
                        | (with_reducible refine wpList_bin (by with_unfolding_all rfl) .eql 26 _ _ _ (by with_unfolding_all rfl) _ _ _ (by with_unfolding_all rfl) (by with_unfolding_all rfl) (HEq.out _ _ _) ?_)
                        | (go_at_call 20; (with_reducible refine (HEy.out _ (grefl _ _)).mono ?_); rintro e u15 ⟨rfl, hg15⟩; have HT15 := hid (gtrans HWe.out hg15); clear hg15)
                        | (go_at_call 12; (with_reducible refine (HWk.out _ HT15.out).mono ?_); rintro e w9 ⟨rfl, hg9⟩; have HG9 := hid hg9; clear hg9))
                      go_ret
                      exact ⟨rfl, gtrans HT15.out HG9.out⟩
                    | false =>
                      have HDne : Hid (DA ≠ DB) := hid (fun e => by have := Hed.out; rw [e] at this; simp at this)
                      go_upto_region 20 with (first
                        | (refine wpList_load_part rfl 26 _ rfl p9 0 CA _ rfl HB9'.out.whole Tryd.underlying26 rfl (by rw [HCAl.out]; exact Tryd.size26) ?_)
                        | (refine wpList_load_part rfl 26 _ rfl p11 0 CB _ rfl HB11'.out.whole Tryd.underlying26 rfl (by rw [HCBl.out]; exact Tryd.size26) ?_)
                        | (with_reducible refine wpList_bin (by with_unfolding_all rfl) .eql 26 _ _ _ (by with_unfolding_all rfl) _ _ _ (by with_unfolding_all rfl) (by with_unfolding_all rfl) (HEq.out _ _ _) ?_))
                      clear HEq
                      obtain ⟨wq, hwq⟩ : ∃ x, x = wd := ⟨_, rfl⟩
                      subst hwq
                      obtain ⟨wd, hwd⟩ : ∃ x, x = u14 := ⟨_, rfl⟩
                      subst hwd
                      have HCd : Hid (∀ u, wd.grownBy u none → Calls Tryd.prog 8 #[.slice (some ⟨p9, 0, none⟩) 32 32] u fun e w' => ∃ v', e = .returned v' ∧ Out u.heap.size w' v' DA ∧ u.grownBy w' none) := fun u hu => copyR_any u _ _ DA ((HB9'.out.keep hu).rdn HCA.out HDAl.out) (by rw [HDAl.out]; decide)
                      refine wp_region_list (by kernel_rfl) [fun v _ => v = (Value.slice (some ⟨p9, 0, none⟩) 32 32), fun v u => ∃ z, v = z ∧ Out wd.heap.size u z DA, fun v _ => v = (Value.pointer (some ⟨b4, 0, none⟩)), fun v _ => v = (Value.slice (some ⟨b4, 0, none⟩) 16 16)] (none) (fun _ => none) 4 (by kernel_rfl) (by kernel_rfl) (by kernel_rfl) (by kernel_rfl) (by decide) noRow_one (fun _ => .inl rfl) ⟨fun i v u u' hki h hg => h, fun i v u u' hki h hg => (by obtain ⟨z, rfl, h1⟩ := h; exact ⟨_, rfl, h1.keep hg⟩), fun i v u u' hki h hg => h, fun i v u u' hki h hg => h, trivial⟩ ⟨?_, ?_, ?_, ?_, trivial⟩ ?_
                      · intro A u hu hpu hsz hout hdeps
                        have e9 : A.eval (.tmp 9) = (.pointer (some ⟨p9, 0, none⟩)) := (hout 9 (by kernel_rfl)).trans rfl
                        refine ifw_none rfl ?_
                        with_reducible refine shown_q (Value.slice (some ⟨p9, 0, none⟩) 32 32) ?qq_2_0 (fun _ _ => ?qr_2_0)
                        case qr_2_0 => exact (rfl : (Value.slice (some ⟨p9, 0, none⟩) 32 32) = (Value.slice (some ⟨p9, 0, none⟩) 32 32))
                        with_reducible refine quietAt_slice0 26 (.tmp 9) (Value.pointer (some ⟨p9, 0, none⟩)) (Value.slice (some ⟨p9, 0, none⟩) 32 32) ?h0_2_0 ?h1_2_0 ?h2_2_0
                        case h0_2_0 => rfl
                        case h1_2_0 => exact e9
                        case h2_2_0 => exact (arr24 p9 u)
                      · intro A u hu hpu hsz hout hdeps
                        have e111 : A.eval (.tmp 111) = (.slice (some ⟨p9, 0, none⟩) 32 32) := by have h := depL hdeps 0 (by kernel_rfl) 111 (by kernel_rfl); exact h
                        refine ifw_none rfl ?_
                        with_reducible refine shown_call 8 Tryd.f8 ?h0_2_1 ?h1_2_1 ?h2_2_1 #[.tmp 111] #[25] ?h3_2_1 #[(Value.slice (some ⟨p9, 0, none⟩) 32 32)] ?h4_2_1 ?h5_2_1
                        case h0_2_1 => exact Tryd.func8
                        case h1_2_1 => kernel_rfl
                        case h2_2_1 => kernel_rfl
                        case h3_2_1 => rfl
                        case h4_2_1 => exact map1 _ _ _ e111
                        case h5_2_1 => exact (HCd.out u hu).mono fun e w' ⟨v', he, ho, hg⟩ => ⟨v', he, hg, v', rfl, ho.below hu.size⟩
                      · intro A u hu hpu hsz hout hdeps
                        have e4 : A.eval (.tmp 4) = (.pointer (some ⟨b4, 0, none⟩)) := (hout 4 (by kernel_rfl)).trans rfl
                        refine ifw_none rfl ?_
                        with_reducible refine shown_q (Value.pointer (some ⟨b4, 0, none⟩)) ?qq_2_2 (fun _ _ => ?qr_2_2)
                        case qr_2_2 => exact (rfl : (Value.pointer (some ⟨b4, 0, none⟩)) = (Value.pointer (some ⟨b4, 0, none⟩)))
                        with_reducible refine quietAt_field 47 (.tmp 4) 0 ?h0_2_2 ⟨b4, 0, none⟩ ⟨b4, 0, none⟩ ?h1_2_2 ?h2_2_2
                        case h0_2_2 => rfl
                        case h1_2_2 => exact e4
                        case h2_2_2 => kernel_rfl
                      · intro A u hu hpu hsz hout hdeps
                        have e113 : A.eval (.tmp 113) = (.pointer (some ⟨b4, 0, none⟩)) := by have h := depL hdeps 2 (by kernel_rfl) 113 (by kernel_rfl); exact h
                        refine ifw_none rfl ?_
                        with_reducible refine shown_q (Value.slice (some ⟨b4, 0, none⟩) 16 16) ?qq_2_3 (fun _ _ => ?qr_2_3)
                        case qr_2_3 => exact (rfl : (Value.slice (some ⟨b4, 0, none⟩) 16 16) = (Value.slice (some ⟨b4, 0, none⟩) 16 16))
                        with_reducible refine quietAt_slice0 45 (.tmp 113) (Value.pointer (some ⟨b4, 0, none⟩)) (Value.slice (some ⟨b4, 0, none⟩) 16 16) ?h0_2_3 ?h1_2_3 ?h2_2_3
                        case h0_2_3 => rfl
                        case h1_2_3 => exact e113
                        case h2_2_3 => exact (arr53 b4 u)
                      · intro A u20 listed hh hall
                        have hA := hh.frame
                        have HU := hid hh.grown
                        obtain ⟨x111, hx111⟩ : ∃ x, A.eval (.tmp 111) = x := ⟨_, rfl⟩
                        have f111 : (fun v _ => v = (Value.slice (some ⟨p9, 0, none⟩) 32 32)) x111 u20 := by rw [← hx111]; exact hh.got 0 _ 111 rfl rfl (hall 0 (by decide))
                        obtain ⟨x112, hx112⟩ : ∃ x, A.eval (.tmp 112) = x := ⟨_, rfl⟩
                        have f112 : (fun v u => ∃ z, v = z ∧ Out wd.heap.size u z DA) x112 u20 := by rw [← hx112]; exact hh.got 1 _ 112 rfl rfl (hall 1 (by decide))
                        obtain ⟨x113, hx113⟩ : ∃ x, A.eval (.tmp 113) = x := ⟨_, rfl⟩
                        have f113 : (fun v _ => v = (Value.pointer (some ⟨b4, 0, none⟩))) x113 u20 := by rw [← hx113]; exact hh.got 2 _ 113 rfl rfl (hall 2 (by decide))
                        obtain ⟨x114, hx114⟩ : ∃ x, A.eval (.tmp 114) = x := ⟨_, rfl⟩
                        have f114 : (fun v _ => v = (Value.slice (some ⟨b4, 0, none⟩) 16 16)) x114 u20 := by rw [← hx114]; exact hh.got 3 _ 114 rfl rfl (hall 3 (by decide))
                        obtain ⟨x115, hx115⟩ : ∃ x, A.eval (.tmp 115) = x := ⟨_, rfl⟩
                        obtain ⟨x6, hx6⟩ : ∃ x, A.eval (.tmp 6) = x := ⟨_, rfl⟩
                        dsimp only [wrote, List.foldl] at hA
                        rw [hx111, hx112, hx113, hx114, hx115, hx6] at hA
                        clear hh hall hx111 hx112 hx113 hx114 hx115 hx6
                        replace f111 := (f111 : x111 = (.slice (some ⟨p9, 0, none⟩) 32 32))
                        subst f111
                        obtain ⟨Vx, e112, HVx⟩ := f112
                        subst e112
                        replace f113 := (f113 : x113 = (.pointer (some ⟨b4, 0, none⟩)))
                        subst f113
                        replace f114 := (f114 : x114 = (.slice (some ⟨b4, 0, none⟩) 16 16))
                        subst f114
                        subst hA
                        show wpList _ _ _ [_, _] _ _
                        simp only [Act.put, List.setIfInBounds_toArray, List.set_cons_succ, List.set_cons_zero]
                        have HT20 := hid HU.out
                        have HO20 := hid HVx
                        clear HU HVx HCd
                        have HRs : Hid (Rd u20 (fun g => g = b4) (.slice (some ⟨b4, 0, none⟩) 16 16) sA) := hid (rd16 (HcA.out _ _ (HAe.out.keep HT20.out)).2 (HAe.out.keep HT20.out).lt HSA.out HslA.out)
                        go_upto_region 21 with (refine wpList_append_rdW rfl _ _ rfl wd.heap.size _ DA sA HO20.out HRs.out (by rw [HDAl.out, HslA.out]; decide) HT20.out.size ?_; intro x5 u21 hO5 hg5 _; have HX5 := hid (hO5.rd.mono (G := fun _ => True) (fun _ _ _ => trivial)); have HT5 := hid (HT20.out.andThen hg5 (fun j hj => .inl (HO20.out.block j hj))); clear hO5 hg5)
                        have HB11f := hid (HB11'.out.keep HT5.out)
                        have HAf := hid (HAe.out.keep HT5.out)
                        have HBf := hid (HBe.out.keep HT5.out)
                        have HWf := hid (gtrans HWe.out HT5.out)
                        clear HT5 HT20 HO20 HRs HB11' HAe HBe HWe HB9' HXe HYe HT14
                        obtain ⟨wdd, hwdd⟩ : ∃ x, x = wd := ⟨_, rfl⟩
                        subst hwdd
                        obtain ⟨wd, hwd⟩ : ∃ x, x = u21 := ⟨_, rfl⟩
                        subst hwd
                        have HCd : Hid (∀ u, wd.grownBy u none → Calls Tryd.prog 8 #[.slice (some ⟨p11, 0, none⟩) 32 32] u fun e w' => ∃ v', e = .returned v' ∧ Out u.heap.size w' v' DB ∧ u.grownBy w' none) := fun u hu => copyR_any u _ _ DB ((HB11f.out.keep hu).rdn HCB.out HDBl.out) (by rw [HDBl.out]; decide)
                        refine wp_region_list (by kernel_rfl) [fun v _ => v = (Value.slice (some ⟨p11, 0, none⟩) 32 32), fun v u => ∃ z, v = z ∧ Out wd.heap.size u z DB, fun v _ => v = (Value.pointer (some ⟨b5, 0, none⟩)), fun v _ => v = (Value.slice (some ⟨b5, 0, none⟩) 16 16)] (none) (fun _ => none) 4 (by kernel_rfl) (by kernel_rfl) (by kernel_rfl) (by kernel_rfl) (by decide) noRow_one (fun _ => .inl rfl) ⟨fun i v u u' hki h hg => h, fun i v u u' hki h hg => (by obtain ⟨z, rfl, h1⟩ := h; exact ⟨_, rfl, h1.keep hg⟩), fun i v u u' hki h hg => h, fun i v u u' hki h hg => h, trivial⟩ ⟨?_, ?_, ?_, ?_, trivial⟩ ?_
                        · intro A u hu hpu hsz hout hdeps
                          have e11 : A.eval (.tmp 11) = (.pointer (some ⟨p11, 0, none⟩)) := (hout 11 (by kernel_rfl)).trans rfl
                          refine ifw_none rfl ?_
                          with_reducible refine shown_q (Value.slice (some ⟨p11, 0, none⟩) 32 32) ?qq_3_0 (fun _ _ => ?qr_3_0)
                          case qr_3_0 => exact (rfl : (Value.slice (some ⟨p11, 0, none⟩) 32 32) = (Value.slice (some ⟨p11, 0, none⟩) 32 32))
                          with_reducible refine quietAt_slice0 26 (.tmp 11) (Value.pointer (some ⟨p11, 0, none⟩)) (Value.slice (some ⟨p11, 0, none⟩) 32 32) ?h0_3_0 ?h1_3_0 ?h2_3_0
                          case h0_3_0 => rfl
                          case h1_3_0 => exact e11
                          case h2_3_0 => exact (arr24 p11 u)
                        · intro A u hu hpu hsz hout hdeps
                          have e116 : A.eval (.tmp 116) = (.slice (some ⟨p11, 0, none⟩) 32 32) := by have h := depL hdeps 0 (by kernel_rfl) 116 (by kernel_rfl); exact h
                          refine ifw_none rfl ?_
                          with_reducible refine shown_call 8 Tryd.f8 ?h0_3_1 ?h1_3_1 ?h2_3_1 #[.tmp 116] #[25] ?h3_3_1 #[(Value.slice (some ⟨p11, 0, none⟩) 32 32)] ?h4_3_1 ?h5_3_1
                          case h0_3_1 => exact Tryd.func8
                          case h1_3_1 => kernel_rfl
                          case h2_3_1 => kernel_rfl
                          case h3_3_1 => rfl
                          case h4_3_1 => exact map1 _ _ _ e116
                          case h5_3_1 => exact (HCd.out u hu).mono fun e w' ⟨v', he, ho, hg⟩ => ⟨v', he, hg, v', rfl, ho.below hu.size⟩
                        · intro A u hu hpu hsz hout hdeps
                          have e5 : A.eval (.tmp 5) = (.pointer (some ⟨b5, 0, none⟩)) := (hout 5 (by kernel_rfl)).trans rfl
                          refine ifw_none rfl ?_
                          with_reducible refine shown_q (Value.pointer (some ⟨b5, 0, none⟩)) ?qq_3_2 (fun _ _ => ?qr_3_2)
                          case qr_3_2 => exact (rfl : (Value.pointer (some ⟨b5, 0, none⟩)) = (Value.pointer (some ⟨b5, 0, none⟩)))
                          with_reducible refine quietAt_field 47 (.tmp 5) 0 ?h0_3_2 ⟨b5, 0, none⟩ ⟨b5, 0, none⟩ ?h1_3_2 ?h2_3_2
                          case h0_3_2 => rfl
                          case h1_3_2 => exact e5
                          case h2_3_2 => kernel_rfl
                        · intro A u hu hpu hsz hout hdeps
                          have e118 : A.eval (.tmp 118) = (.pointer (some ⟨b5, 0, none⟩)) := by have h := depL hdeps 2 (by kernel_rfl) 118 (by kernel_rfl); exact h
                          refine ifw_none rfl ?_
                          with_reducible refine shown_q (Value.slice (some ⟨b5, 0, none⟩) 16 16) ?qq_3_3 (fun _ _ => ?qr_3_3)
                          case qr_3_3 => exact (rfl : (Value.slice (some ⟨b5, 0, none⟩) 16 16) = (Value.slice (some ⟨b5, 0, none⟩) 16 16))
                          with_reducible refine quietAt_slice0 45 (.tmp 118) (Value.pointer (some ⟨b5, 0, none⟩)) (Value.slice (some ⟨b5, 0, none⟩) 16 16) ?h0_3_3 ?h1_3_3 ?h2_3_3
                          case h0_3_3 => rfl
                          case h1_3_3 => exact e118
                          case h2_3_3 => exact (arr53 b5 u)
                        · intro A u22 listed hh hall
                          have hA := hh.frame
                          have HU := hid hh.grown
                          obtain ⟨x116, hx116⟩ : ∃ x, A.eval (.tmp 116) = x := ⟨_, rfl⟩
                          have f116 : (fun v _ => v = (Value.slice (some ⟨p11, 0, none⟩) 32 32)) x116 u22 := by rw [← hx116]; exact hh.got 0 _ 116 rfl rfl (hall 0 (by decide))
                          obtain ⟨x117, hx117⟩ : ∃ x, A.eval (.tmp 117) = x := ⟨_, rfl⟩
                          have f117 : (fun v u => ∃ z, v = z ∧ Out wd.heap.size u z DB) x117 u22 := by rw [← hx117]; exact hh.got 1 _ 117 rfl rfl (hall 1 (by decide))
                          obtain ⟨x118, hx118⟩ : ∃ x, A.eval (.tmp 118) = x := ⟨_, rfl⟩
                          have f118 : (fun v _ => v = (Value.pointer (some ⟨b5, 0, none⟩))) x118 u22 := by rw [← hx118]; exact hh.got 2 _ 118 rfl rfl (hall 2 (by decide))
                          obtain ⟨x119, hx119⟩ : ∃ x, A.eval (.tmp 119) = x := ⟨_, rfl⟩
                          have f119 : (fun v _ => v = (Value.slice (some ⟨b5, 0, none⟩) 16 16)) x119 u22 := by rw [← hx119]; exact hh.got 3 _ 119 rfl rfl (hall 3 (by decide))
                          obtain ⟨x120, hx120⟩ : ∃ x, A.eval (.tmp 120) = x := ⟨_, rfl⟩
                          obtain ⟨x7, hx7⟩ : ∃ x, A.eval (.tmp 7) = x := ⟨_, rfl⟩
                          dsimp only [wrote, List.foldl] at hA
                          rw [hx116, hx117, hx118, hx119, hx120, hx7] at hA
                          clear hh hall hx116 hx117 hx118 hx119 hx120 hx7
                          replace f116 := (f116 : x116 = (.slice (some ⟨p11, 0, none⟩) 32 32))
                          subst f116
                          obtain ⟨Vy, e117, HVy⟩ := f117
                          subst e117
                          replace f118 := (f118 : x118 = (.pointer (some ⟨b5, 0, none⟩)))
                          subst f118
                          replace f119 := (f119 : x119 = (.slice (some ⟨b5, 0, none⟩) 16 16))
                          subst f119
                          subst hA
                          show wpList _ _ _ [_, _] _ _
                          simp only [Act.put, List.setIfInBounds_toArray, List.set_cons_succ, List.set_cons_zero]
                          have HT22 := hid HU.out
                          have HO22 := hid HVy
                          clear HU HVy HCd
                          have HRs : Hid (Rd u22 (fun g => g = b5) (.slice (some ⟨b5, 0, none⟩) 16 16) sB) := hid (rd16 (HcB.out _ _ (HBf.out.keep HT22.out)).2 (HBf.out.keep HT22.out).lt HSB.out HslB.out)
                          go_wp2_with (refine wpList_append_rdW rfl _ _ rfl wd.heap.size _ DB sB HO22.out HRs.out (by rw [HDBl.out, HslB.out]; decide) HT22.out.size ?_; intro y5 u23 hO5 hg5 _; have HY5 := hid (hO5.rd.mono (G := fun _ => True) (fun _ _ _ => trivial)); have HT6 := hid (HT22.out.andThen hg5 (fun j hj => .inl (HO22.out.block j hj))); clear hO5 hg5)
                          go_roundw
                          case rel => exact ⟨k + 1, DA ++ sA, DB ++ sB, by rw [← HK1.out]; go_num, by omega, hid (HX5.out.keep HT6.out), HY5, hid (nxt_ne HDAl.out HDBl.out HDne.out), HNx, HNy, hid (by rw [List.length_append, List.length_append, HDAl.out, HDBl.out, HslA.out, HslB.out]; decide), hid (HAf.out.keep HT6.out), hid (HBf.out.keep HT6.out), hid (gtrans HWf.out HT6.out)⟩
                          case measure => simp [intOf]; have := HK1.out; omega
                · have hge : ¬ (K1 : Int) ≤ 5 := by omega
                  clear hK1
                  go_wp2_with fail
                  go_roundw
                  case rel => exact ⟨i + 1, by rw [← hJ]; go_num, by omega, HW⟩
                  case measure => simp [intOf]; omega
          | false =>
            have HNE : Hid (¬ (sA = sB ∧ tA = tB)) := hid (fun h => by rw [h.2] at htt; simp at htt)
            cases es with
            | true =>
              obtain ⟨TA, HTA⟩ : ∃ x, Hid (tA.data.toList = x) := ⟨_, hid rfl⟩
              obtain ⟨TB, HTB⟩ : ∃ x, Hid (tB.data.toList = x) := ⟨_, hid rfl⟩
              have HNA4 : Hid (NA ≤ 4000 ∧ NB ≤ 4000) := hid ⟨by omega, by omega⟩
              have HFa : Hid (∀ u, w.grownBy u none → Calls Tryd.prog 17 #[.agg csA.toArray] u fun e w' => ∃ v', e = .returned v' ∧ Rd w' (fun _ => True) v' (fstL sA TA) ∧ u.grownBy w' none) := fun u hu => by
                rw [← HcsA.out, ← HTA.out]
                exact (first_any u sA tA rA HslA.out (by rw [HNA.out]; have := HNA4.out; omega)).mono fun e w' ⟨v', he, ho, hg⟩ => ⟨v', he, ho.rd.mono (fun _ _ _ => trivial), hg⟩
              have HFb : Hid (∀ u, w.grownBy u none → Calls Tryd.prog 17 #[.agg csB.toArray] u fun e w' => ∃ v', e = .returned v' ∧ Rd w' (fun _ => True) v' (fstL sB TB) ∧ u.grownBy w' none) := fun u hu => by
                rw [← HcsB.out, ← HTB.out]
                exact (first_any u sB tB rB HslB.out (by rw [HNB.out]; have := HNA4.out; omega)).mono fun e w' ⟨v', he, ho, hg⟩ => ⟨v', he, ho.rd.mono (fun _ _ _ => trivial), hg⟩
              have HXne : Hid (fstL sA TA ≠ fstL sB TB) := hid (fun e => HNE.out (by
                obtain ⟨h1, h2⟩ := fst_inj HslA.out HslB.out e
                refine ⟨h1, ?_⟩
                rw [← HTA.out, ← HTB.out] at h2
                exact ByteArray.ext (Array.toList_inj.1 h2)))
              have HXlen : Hid ((fstL sA TA).length ≤ 4024 ∧ (fstL sB TB).length ≤ 4024) := hid (by
                have h1 : TA.length = NA := by rw [← HTA.out, ← HNA.out]; exact Array.length_toList
                have h2 : TB.length = NB := by rw [← HTB.out, ← HNB.out]; exact Array.length_toList
                have := HNA4.out
                unfold fstL
                rw [List.length_append, List.length_append, be_len, HslA.out, List.length_append, List.length_append, be_len, HslB.out]
                omega)
              go_wp2_with (first
                | (with_reducible refine wpList_load_partW (by with_unfolding_all rfl) 45 _ (by with_unfolding_all rfl) b4 0 SA _ (by with_unfolding_all rfl) HyA.out Tryd.underlying45 (by with_unfolding_all rfl) (by rw [HSAl.out]; exact Tryd.size45) ?_)
                | (with_reducible refine wpList_load_partW (by with_unfolding_all rfl) 45 _ (by with_unfolding_all rfl) b5 0 SB _ (by with_unfolding_all rfl) HyB.out Tryd.underlying45 (by with_unfolding_all rfl) (by rw [HSBl.out]; exact Tryd.size45) ?_)
                | (with_reducible refine wpList_binW (by with_unfolding_all rfl) .eql 45 _ _ _ (by with_unfolding_all rfl) _ _ _ (by with_unfolding_all rfl) (by with_unfolding_all rfl) (HEs.out _ _ _) ?_)
                | (have := HU6; clear this; refine wpList_load_part rfl 47 _ rfl b5 0 csB _ rfl HB6.out.whole Tryd.underlying47 rfl (by rw [HWLB.out]; exact Tryd.size47) ?_)
                | (have := HU6; clear this; go_at_call 17; (with_reducible refine (HFb.out _ HU6.out).mono ?_); rintro e e7 ⟨v7, rfl, hO7, hg7⟩; have HY7 := hid hO7; have HU7 := hid (gtrans HU6.out hg7); have HX7 := hid (HX6.out.keep hg7); have HA7 := hid (HA6.out.keep hg7); have HB7 := hid (HB6.out.keep hg7); clear hO7 hg7)
                | (refine wpList_load_part rfl 47 _ rfl b4 0 csA _ rfl HA5.out.whole Tryd.underlying47 rfl (by rw [HWLA.out]; exact Tryd.size47) ?_)
                | (go_at_call 17; (with_reducible refine (HFa.out _ HU5.out).mono ?_); rintro e e6 ⟨v6, rfl, hO6, hg6⟩; have HX6 := hid hO6; have HU6 := hid (gtrans HU5.out hg6); have HA6 := hid (HA5.out.keep hg6); have HB6 := hid (HB5.out.keep hg6); clear hO6 hg6))
              clear HX6 HU6 HA6 HB6 HA5 HB5 y16 z16 HyA HyB HFa HFb
              obtain ⟨wo, hwo⟩ : ∃ x, x = wr := ⟨_, rfl⟩
              subst hwo
              go_wp2_with fail
              go_loopw [6, 7, 8] (fun xv yv kv wq => ∃ (k : Nat) (xl yl : List UInt8), kv = .int .i64 ((k + 1 : Nat) : Int) ∧ k ≤ 5 ∧ Hid (Rd wq (fun _ => True) xv xl) ∧ Hid (Rd wq (fun _ => True) yv yl) ∧ Hid (xl ≠ yl) ∧ Hid (sumL xl = passN sA TA k) ∧ Hid (sumL yl = passN sB TB k) ∧ Hid (xl.length ≤ 4024 ∧ yl.length ≤ 4024) ∧ Hid (Blk wq b4 csA 47) ∧ Hid (Blk wq b5 csB 47) ∧ Hid (w.grownBy wq none)) (fun _ _ kv _ => 7 - (intOf kv).toNat)
              case atStart => exact ⟨0, fstL sA TA, fstL sB TB, rfl, by omega, HX7, HY7, HXne, hid rfl, hid rfl, HXlen, HA7, HB7, HU7⟩
              case round =>
                clear HX7 HY7 HXne HXlen HA7 HB7 HU7
                obtain ⟨k, xl, yl, rfl, hk, HXr, HYr, HXY, HSx, HSy, HXL, HBA, HBB, HW⟩ := hrel
                obtain ⟨xa, _, _, xc, hxe, -⟩ := HXr.out
                obtain ⟨ya, _, _, yc, hye, -⟩ := HYr.out
                obtain ⟨xn, hxn⟩ : ∃ n, xl.length = n := ⟨_, rfl⟩
                obtain ⟨yn, hyn⟩ : ∃ n, yl.length = n := ⟨_, rfl⟩
                rw [hxn] at hxe
                rw [hyn] at hye
                rw [hxe] at HXr ⊢
                rw [hye] at HYr ⊢
                clear hxn hyn hxe hye
                obtain ⟨K1, hK1⟩ : ∃ K1, k + 1 = K1 := ⟨_, rfl⟩
                rw [hK1]
                have HK1 := hid hK1
                by_cases hlt : k < 5
                · have hlt' : (K1 : Int) ≤ 5 := by omega
                  clear hK1
                  obtain ⟨DA, HDA⟩ : ∃ x, Hid (passN sA TA k = x) := ⟨_, hid rfl⟩
                  obtain ⟨DB, HDB⟩ : ∃ x, Hid (passN sB TB k = x) := ⟨_, hid rfl⟩
                  have HDAl : Hid (DA.length = 32) := hid (by rw [← HDA.out]; exact passN_length _ _ _)
                  have HDBl : Hid (DB.length = 32) := hid (by rw [← HDB.out]; exact passN_length _ _ _)
                  have HNx : Hid (sumL (DA ++ sA) = passN sA TA (k + 1)) := hid (by rw [← HDA.out]; rfl)
                  have HNy : Hid (sumL (DB ++ sB) = passN sB TB (k + 1)) := hid (by rw [← HDB.out]; rfl)
                  rw [HDA.out] at HSx
                  rw [HDB.out] at HSy
                  obtain ⟨CA, HCA⟩ : ∃ x, Hid (Lib.byteCells DA = x) := ⟨_, hid rfl⟩
                  obtain ⟨CB, HCB⟩ : ∃ x, Hid (Lib.byteCells DB = x) := ⟨_, hid rfl⟩
                  have HCAl : Hid (CA.length = 32) := hid (by rw [← HCA.out, byteCells_length]; exact HDAl.out)
                  have HCBl : Hid (CB.length = 32) := hid (by rw [← HCB.out, byteCells_length]; exact HDBl.out)
                  have HCA1 : Hid (∀ v ∈ CA, v.oneCell' = true) := hid (by rw [← HCA.out]; exact bcs_one _)
                  have HCB1 : Hid (∀ v ∈ CB, v.oneCell' = true) := hid (by rw [← HCB.out]; exact bcs_one _)
                  have HPa : Hid (∀ u, w.grownBy u none → Calls Tryd.prog 18 #[.agg SA.toArray, .string tA, .int .i64 (K1 : Nat)] u fun e w' => e = .returned (.tuple #[.agg CA.toArray, .int .i64 0]) ∧ u.grownBy w' none) := fun u hu => by
                    have := pass_ok u sA tA K1 (by have := HK1.out; omega) (by have := HK1.out; omega) HslA.out (HGl.out u hu) (by rw [HNA.out]; have := HNA4.out; omega)
                    rw [HTA.out, ← HK1.out, Nat.add_sub_cancel, HDA.out, HCA.out, HSA.out] at this
                    rw [← HK1.out]
                    exact this
                  have HPb : Hid (∀ u, w.grownBy u none → Calls Tryd.prog 18 #[.agg SB.toArray, .string tB, .int .i64 (K1 : Nat)] u fun e w' => e = .returned (.tuple #[.agg CB.toArray, .int .i64 0]) ∧ u.grownBy w' none) := fun u hu => by
                    have := pass_ok u sB tB K1 (by have := HK1.out; omega) (by have := HK1.out; omega) HslB.out (HGl.out u hu) (by rw [HNB.out]; have := HNA4.out; omega)
                    rw [HTB.out, ← HK1.out, Nat.add_sub_cancel, HDB.out, HCB.out, HSB.out] at this
                    rw [← HK1.out]
                    exact this
                  obtain ⟨y16, HyA⟩ := HcA.out _ _ HBA.out
                  replace HyA := hid HyA
                  go_upto_region 13 with (first
                    | (refine wpList_load_part rfl 45 _ rfl b4 0 SA _ rfl HyA.out Tryd.underlying45 rfl (by rw [HSAl.out]; exact Tryd.size45) ?_)
                    | (go_at_call 18; (with_reducible refine (HPa.out _ HW.out).mono ?_); rintro e q1 ⟨rfl, hg1⟩; have HW1 := hid (gtrans HW.out hg1); have HG1 := hid hg1; clear hg1)
                    | (refine wpList_alloc_row rfl 26 rfl y32 Tryd.zero26 ?_; intro q2 B2 s2 g2; have HD2 := hid B2; have HW2 := hid (gtrans HW1.out g2); have HG2 := hid (gtrans HG1.out g2); clear B2 g2 s2)
                    | (refine wpList_store_all rfl 26 _ _ rfl q1.heap.size y32 CA 26 rfl rfl HD2.out (by rw [HCAl.out]; rfl) (by rw [HCAl.out]; exact Tryd.size26) HCA1.out ?_; intro q3 B3 g3 s3; have HD3 := hid B3; have HW3 := hid (HW2.out.andThen g3 (fun j hj => .inl (by injection hj with hj; have := HW1.out.size; omega))); have HG3 := hid (HG2.out.andThen g3 (fun j hj => .inl (by injection hj with hj; have := HG1.out.size; omega))); clear B3 g3 s3))
                  obtain ⟨p9, hp9⟩ : ∃ x, q1.heap.size = x := ⟨_, rfl⟩
                  rw [hp9] at HD3 ⊢
                  have HP9 : Hid (wr.heap.size ≤ p9) := hid (by rw [← hp9]; exact HG1.out.size)
                  clear hp9 HD2 HW2 HG2 HW1 HG1 y16 HyA
                  obtain ⟨z16, HyB⟩ := HcB.out _ _ (HBB.out.keep HG3.out)
                  replace HyB := hid HyB
                  go_upto_region 14 with (first
                    | (refine wpList_load_part rfl 45 _ rfl b5 0 SB _ rfl HyB.out Tryd.underlying45 rfl (by rw [HSBl.out]; exact Tryd.size45) ?_)
                    | (go_at_call 18; (with_reducible refine (HPb.out _ HW3.out).mono ?_); rintro e q4 ⟨rfl, hg1⟩; have HW4 := hid (gtrans HW3.out hg1); have HG4 := hid hg1; clear hg1)
                    | (refine wpList_alloc_row rfl 26 rfl y32 Tryd.zero26 ?_; intro q5 B2 s2 g2; have HD5 := hid B2; have HW5 := hid (gtrans HW4.out g2); have HG5 := hid (gtrans HG4.out g2); clear B2 g2 s2)
                    | (refine wpList_store_all rfl 26 _ _ rfl q4.heap.size y32 CB 26 rfl rfl HD5.out (by rw [HCBl.out]; rfl) (by rw [HCBl.out]; exact Tryd.size26) HCB1.out ?_; intro wd B3 g3 s3; have HB11' := hid B3; have HWd := hid (HW5.out.andThen g3 (fun j hj => .inl (by injection hj with hj; have := HW4.out.size; omega))); have HG6 := hid (HG5.out.andThen g3 (fun j hj => .inl (by injection hj with hj; have := HG4.out.size; omega))); clear B3 g3 s3))
                  obtain ⟨p11, hp11⟩ : ∃ x, q4.heap.size = x := ⟨_, rfl⟩
                  rw [hp11] at HB11' ⊢
                  have HB11 := HB11'
                  have HB9 := hid (HD3.out.keep HG6.out)
                  have HXd := hid ((HXr.out.keep HG3.out).keep HG6.out)
                  have HYd := hid ((HYr.out.keep HG3.out).keep HG6.out)
                  have HAd := hid ((HBA.out.keep HG3.out).keep HG6.out)
                  have HBd := hid ((HBB.out.keep HG3.out).keep HG6.out)
                  clear hp11 HD5 HW5 HG5 HW4 HG4 z16 HyB HB11' HD3 HXr HYr HBA HBB HG3 HG6 HW3 HW HPa HPb
                  have HCpx : Hid (∀ u, wd.grownBy u none → Calls Tryd.prog 8 #[.slice xa xn xc] u fun e w' => ∃ v', e = .returned v' ∧ Out u.heap.size w' v' xl ∧ u.grownBy w' none) := fun u hu => copyR_any u _ _ _ (HXd.out.keep hu) (by have := HXL.out; omega)
                  have HCpy : Hid (∀ u, wd.grownBy u none → Calls Tryd.prog 8 #[.slice ya yn yc] u fun e w' => ∃ v', e = .returned v' ∧ Out u.heap.size w' v' yl ∧ u.grownBy w' none) := fun u hu => copyR_any u _ _ _ (HYd.out.keep hu) (by have := HXL.out; omega)
                  have HSmx : Hid (∀ (u : World) (v : Value), wd.grownBy u none → Rd u (fun _ => True) v xl → Calls Tryd.prog 9 #[v] u fun e w' => e = .returned (.agg CA.toArray) ∧ u.grownBy w' none) := fun u v hu h => by
                    rw [← HCA.out, ← HSx.out]
                    exact dsum_any u v _ xl h (HGl.out u (gtrans HWd.out hu)) (by have := HXL.out; omega)
                  have HSmy : Hid (∀ (u : World) (v : Value), wd.grownBy u none → Rd u (fun _ => True) v yl → Calls Tryd.prog 9 #[v] u fun e w' => e = .returned (.agg CB.toArray) ∧ u.grownBy w' none) := fun u v hu h => by
                    rw [← HCB.out, ← HSy.out]
                    exact dsum_any u v _ yl h (HGl.out u (gtrans HWd.out hu)) (by have := HXL.out; omega)
                  have HNeA : Hid (∀ (x y : Operand) (u : World), (do eqGuard .neq 26 x y (.agg CA.toArray) (.agg CA.toArray); binOp .neq 26 (.agg CA.toArray) (.agg CA.toArray) : Sem Value).run Tryd.prog u = .ok (.bool false) u) := fun x y u => by
                    rw [← HCA.out, neqG_32]
                    exact neq_self _ HDAl.out u
                  have HNeB : Hid (∀ (x y : Operand) (u : World), (do eqGuard .neq 26 x y (.agg CB.toArray) (.agg CB.toArray); binOp .neq 26 (.agg CB.toArray) (.agg CB.toArray) : Sem Value).run Tryd.prog u = .ok (.bool false) u) := fun x y u => by
                    rw [← HCB.out, neqG_32]
                    exact neq_self _ HDBl.out u
                  refine wp_region_list (by kernel_rfl) [fun v _ => v = (Value.int .i64 0), fun v _ => v = (Value.int .i64 0), fun v _ => v = (Value.bool false), fun v _ => v = (Value.bool false), fun v _ => v = (Value.int .i64 0), fun v _ => v = (Value.int .i64 0), fun v _ => v = (Value.bool false), fun v _ => v = (Value.bool false), fun v _ => v = (Value.bool false), fun v _ => v = (Value.agg CA.toArray), fun v _ => v = (Value.slice xa xn xc), fun v u => ∃ z, v = z ∧ Rd u (fun _ => True) z xl, fun v _ => v = (Value.agg CA.toArray), fun v _ => v = (Value.bool false), fun v _ => v = (Value.bool false), fun v _ => v = (Value.bool false), fun v _ => v = (Value.agg CB.toArray), fun v _ => v = (Value.slice ya yn yc), fun v u => ∃ z, v = z ∧ Rd u (fun _ => True) z yl, fun v _ => v = (Value.agg CB.toArray), fun v _ => v = (Value.bool false), fun v _ => v = (Value.bool false)] (none) (fun _ => none) 22 (by kernel_rfl) (by kernel_rfl) (by kernel_rfl) (by kernel_rfl) (by decide) noRow_one (fun _ => .inl rfl) ⟨fun i v u u' hki h hg => h, fun i v u u' hki h hg => h, fun i v u u' hki h hg => h, fun i v u u' hki h hg => h, fun i v u u' hki h hg => h, fun i v u u' hki h hg => h, fun i v u u' hki h hg => h, fun i v u u' hki h hg => h, fun i v u u' hki h hg => h, fun i v u u' hki h hg => h, fun i v u u' hki h hg => h, fun i v u u' hki h hg => (by obtain ⟨z, rfl, h1⟩ := h; exact ⟨_, rfl, h1.keep hg⟩), fun i v u u' hki h hg => h, fun i v u u' hki h hg => h, fun i v u u' hki h hg => h, fun i v u u' hki h hg => h, fun i v u u' hki h hg => h, fun i v u u' hki h hg => h, fun i v u u' hki h hg => (by obtain ⟨z, rfl, h1⟩ := h; exact ⟨_, rfl, h1.keep hg⟩), fun i v u u' hki h hg => h, fun i v u u' hki h hg => h, fun i v u u' hki h hg => h, trivial⟩ ⟨?_, ?_, ?_, ?_, ?_, ?_, ?_, ?_, ?_, ?_, ?_, ?_, ?_, ?_, ?_, ?_, ?_, ?_, ?_, ?_, ?_, ?_, trivial⟩ ?_
                  · intro A u hu hpu hsz hout hdeps
                    have e10 : A.eval (.tmp 10) = (.int .i64 0) := (hout 10 (by kernel_rfl)).trans rfl
                    refine ifw_none rfl ?_
                    with_reducible refine shown_q (Value.int .i64 0) ?qq_1p_0 (fun _ _ => ?qr_1p_0)
                    case qr_1p_0 => exact (rfl : (Value.int .i64 0) = (Value.int .i64 0))
                    with_reducible refine quietAt_mv (.tmp 10) (Value.int .i64 0) ?h0_1p_0 ?h1_1p_0
                    case h0_1p_0 => rfl
                    case h1_1p_0 => exact e10
                  · intro A u hu hpu hsz hout hdeps
                    have e82 : A.eval (.tmp 82) = (.int .i64 0) := by have h := depL hdeps 0 (by kernel_rfl) 82 (by kernel_rfl); exact h
                    refine ifw_none rfl ?_
                    with_reducible refine shown_q (Value.int .i64 0) ?qq_1p_1 (fun _ _ => ?qr_1p_1)
                    case qr_1p_1 => exact (rfl : (Value.int .i64 0) = (Value.int .i64 0))
                    with_reducible refine quietAt_call 19 Tryd.f19 ?h0_1p_1 ?h1_1p_1 ?h2_1p_1 #[.tmp 82] #[49] ?h3_1p_1 (Value.int .i64 0) #[(Value.int .i64 0)] ?h4_1p_1 ?h5_1p_1
                    case h0_1p_1 => exact Tryd.func19
                    case h1_1p_1 => kernel_rfl
                    case h2_1p_1 => kernel_rfl
                    case h3_1p_1 => rfl
                    case h4_1p_1 => exact map1 _ _ _ e82
                    case h5_1p_1 => exact (HNum.out u)
                  · intro A u hu hpu hsz hout hdeps
                    have e83 : A.eval (.tmp 83) = (.int .i64 0) := by have h := depL hdeps 1 (by kernel_rfl) 83 (by kernel_rfl); exact h
                    refine ifw_none rfl ?_
                    with_reducible refine shown_q (Value.bool false) ?qq_1p_2 (fun _ _ => ?qr_1p_2)
                    case qr_1p_2 => exact (rfl : (Value.bool false) = (Value.bool false))
                    with_reducible refine quietAt_bin .neq 3 (.tmp 83) (.const (.int .i64 0)) 3 (Value.int .i64 0) (Value.int .i64 0) (Value.bool false) ?h0_1p_2 ?h1_1p_2 ?h2_1p_2 ?h3_1p_2
                    case h0_1p_2 => rfl
                    case h1_1p_2 => exact e83
                    case h2_1p_2 => exact rfl
                    case h3_1p_2 => exact (neq3 _ _ u)
                  · intro A u hu hpu hsz hout hdeps
                    have e84 : A.eval (.tmp 84) = (.bool false) := by have h := depL hdeps 2 (by kernel_rfl) 84 (by kernel_rfl); exact h
                    refine ifw_none rfl ?_
                    with_reducible refine shown_q (Value.bool false) ?qq_1p_3 (fun _ _ => ?qr_1p_3)
                    case qr_1p_3 => exact (rfl : (Value.bool false) = (Value.bool false))
                    with_reducible refine quietAt_mv (.tmp 84) (Value.bool false) ?h0_1p_3 ?h1_1p_3
                    case h0_1p_3 => rfl
                    case h1_1p_3 => exact e84
                  · intro A u hu hpu hsz hout hdeps
                    have e85 : A.eval (.tmp 85) = (.bool false) := by have h := depL hdeps 3 (by kernel_rfl) 85 (by kernel_rfl); exact h
                    have e12 : A.eval (.tmp 12) = (.int .i64 0) := (hout 12 (by kernel_rfl)).trans rfl
                    refine ifw_want 3 false 85 rfl rfl e85 ?_
                    with_reducible refine shown_q (Value.int .i64 0) ?qq_1p_4 (fun _ _ => ?qr_1p_4)
                    case qr_1p_4 => exact (rfl : (Value.int .i64 0) = (Value.int .i64 0))
                    with_reducible refine quietAt_mv (.tmp 12) (Value.int .i64 0) ?h0_1p_4 ?h1_1p_4
                    case h0_1p_4 => rfl
                    case h1_1p_4 => exact e12
                  · intro A u hu hpu hsz hout hdeps
                    have e85 : A.eval (.tmp 85) = (.bool false) := by have h := depL hdeps 3 (by kernel_rfl) 85 (by kernel_rfl); exact h
                    have e86 : A.eval (.tmp 86) = (.int .i64 0) := by have h := depL hdeps 4 (by kernel_rfl) 86 (by kernel_rfl); exact h
                    refine ifw_want 3 false 85 rfl rfl e85 ?_
                    with_reducible refine shown_q (Value.int .i64 0) ?qq_1p_5 (fun _ _ => ?qr_1p_5)
                    case qr_1p_5 => exact (rfl : (Value.int .i64 0) = (Value.int .i64 0))
                    with_reducible refine quietAt_call 19 Tryd.f19 ?h0_1p_5 ?h1_1p_5 ?h2_1p_5 #[.tmp 86] #[49] ?h3_1p_5 (Value.int .i64 0) #[(Value.int .i64 0)] ?h4_1p_5 ?h5_1p_5
                    case h0_1p_5 => exact Tryd.func19
                    case h1_1p_5 => kernel_rfl
                    case h2_1p_5 => kernel_rfl
                    case h3_1p_5 => rfl
                    case h4_1p_5 => exact map1 _ _ _ e86
                    case h5_1p_5 => exact (HNum.out u)
                  · intro A u hu hpu hsz hout hdeps
                    have e85 : A.eval (.tmp 85) = (.bool false) := by have h := depL hdeps 3 (by kernel_rfl) 85 (by kernel_rfl); exact h
                    have e87 : A.eval (.tmp 87) = (.int .i64 0) := by have h := depL hdeps 5 (by kernel_rfl) 87 (by kernel_rfl); exact h
                    refine ifw_want 3 false 85 rfl rfl e85 ?_
                    with_reducible refine shown_q (Value.bool false) ?qq_1p_6 (fun _ _ => ?qr_1p_6)
                    case qr_1p_6 => exact (rfl : (Value.bool false) = (Value.bool false))
                    with_reducible refine quietAt_bin .neq 3 (.tmp 87) (.const (.int .i64 0)) 3 (Value.int .i64 0) (Value.int .i64 0) (Value.bool false) ?h0_1p_6 ?h1_1p_6 ?h2_1p_6 ?h3_1p_6
                    case h0_1p_6 => rfl
                    case h1_1p_6 => exact e87
                    case h2_1p_6 => exact rfl
                    case h3_1p_6 => exact (neq3 _ _ u)
                  · intro A u hu hpu hsz hout hdeps
                    have e85 : A.eval (.tmp 85) = (.bool false) := by have h := depL hdeps 3 (by kernel_rfl) 85 (by kernel_rfl); exact h
                    have e88 : A.eval (.tmp 88) = (.bool false) := by have h := depL hdeps 6 (by kernel_rfl) 88 (by kernel_rfl); exact h
                    refine ifw_none rfl ?_
                    with_reducible refine shown_q (Value.bool false) ?qq_1p_7 (fun _ _ => ?qr_1p_7)
                    case qr_1p_7 => exact (rfl : (Value.bool false) = (Value.bool false))
                    with_reducible refine quietAt_pick (.tmp 85) (.const (.bool true)) (.tmp 88) false (Value.bool false) ?h0_1p_7 ?h1_1p_7 ?h2_1p_7
                    case h0_1p_7 => rfl
                    case h1_1p_7 => exact e85
                    case h2_1p_7 => rw [if_neg (by decide)]; exact e88
                  · intro A u hu hpu hsz hout hdeps
                    have e89 : A.eval (.tmp 89) = (.bool false) := by have h := depL hdeps 7 (by kernel_rfl) 89 (by kernel_rfl); exact h
                    refine ifw_none rfl ?_
                    with_reducible refine shown_q (Value.bool false) ?qq_1p_8 (fun _ _ => ?qr_1p_8)
                    case qr_1p_8 => exact (rfl : (Value.bool false) = (Value.bool false))
                    with_reducible refine quietAt_mv (.tmp 89) (Value.bool false) ?h0_1p_8 ?h1_1p_8
                    case h0_1p_8 => rfl
                    case h1_1p_8 => exact e89
                  · intro A u hu hpu hsz hout hdeps
                    have e90 : A.eval (.tmp 90) = (.bool false) := by have h := depL hdeps 8 (by kernel_rfl) 90 (by kernel_rfl); exact h
                    have e9 : A.eval (.tmp 9) = (.pointer (some ⟨p9, 0, none⟩)) := (hout 9 (by kernel_rfl)).trans rfl
                    refine ifw_want 8 false 90 rfl rfl e90 ?_
                    with_reducible refine shown_q (Value.agg CA.toArray) ?qq_1p_9 (fun _ _ => ?qr_1p_9)
                    case qr_1p_9 => exact (rfl : (Value.agg CA.toArray) = (Value.agg CA.toArray))
                    with_reducible refine quietAt_load 26 (.tmp 9) ?h0_1p_9 p9 0 CA (.array 32 5) ?h1_1p_9 ?h2_1p_9 ?h3_1p_9 ?h4_1p_9 ?h5_1p_9
                    case h0_1p_9 => rfl
                    case h1_1p_9 => exact e9
                    case h2_1p_9 => exact (HB9.out.keep hu).whole
                    case h3_1p_9 => exact Tryd.underlying26
                    case h4_1p_9 => rfl
                    case h5_1p_9 => exact (by rw [HCAl.out]; exact Tryd.size26)
                  · intro A u hu hpu hsz hout hdeps
                    have e90 : A.eval (.tmp 90) = (.bool false) := by have h := depL hdeps 8 (by kernel_rfl) 90 (by kernel_rfl); exact h
                    have e6 : A.eval (.tmp 6) = (.slice xa xn xc) := (hout 6 (by kernel_rfl)).trans rfl
                    refine ifw_want 8 false 90 rfl rfl e90 ?_
                    with_reducible refine shown_q (Value.slice xa xn xc) ?qq_1p_10 (fun _ _ => ?qr_1p_10)
                    case qr_1p_10 => exact (rfl : (Value.slice xa xn xc) = (Value.slice xa xn xc))
                    with_reducible refine quietAt_mv (.tmp 6) (Value.slice xa xn xc) ?h0_1p_10 ?h1_1p_10
                    case h0_1p_10 => rfl
                    case h1_1p_10 => exact e6
                  · intro A u hu hpu hsz hout hdeps
                    have e90 : A.eval (.tmp 90) = (.bool false) := by have h := depL hdeps 8 (by kernel_rfl) 90 (by kernel_rfl); exact h
                    have e92 : A.eval (.tmp 92) = (.slice xa xn xc) := by have h := depL hdeps 10 (by kernel_rfl) 92 (by kernel_rfl); exact h
                    refine ifw_want 8 false 90 rfl rfl e90 ?_
                    with_reducible refine shown_call 8 Tryd.f8 ?h0_1p_11 ?h1_1p_11 ?h2_1p_11 #[.tmp 92] #[25] ?h3_1p_11 #[(Value.slice xa xn xc)] ?h4_1p_11 ?h5_1p_11
                    case h0_1p_11 => exact Tryd.func8
                    case h1_1p_11 => kernel_rfl
                    case h2_1p_11 => kernel_rfl
                    case h3_1p_11 => rfl
                    case h4_1p_11 => exact map1 _ _ _ e92
                    case h5_1p_11 => exact (HCpx.out u hu).mono fun e w' ⟨v', he, ho, hg⟩ => ⟨v', he, hg, v', rfl, ho.rd.mono (fun _ _ _ => trivial)⟩
                  · intro A u hu hpu hsz hout hdeps
                    have e90 : A.eval (.tmp 90) = (.bool false) := by have h := depL hdeps 8 (by kernel_rfl) 90 (by kernel_rfl); exact h
                    have f93 : (fun v u => ∃ z, v = z ∧ Rd u (fun _ => True) z xl) (A.eval (.tmp 93)) u := by have h := depL hdeps 11 (by kernel_rfl) 93 (by kernel_rfl); exact h
                    obtain ⟨Vx, e93, HVx⟩ := f93
                    refine ifw_want 8 false 90 rfl rfl e90 ?_
                    with_reducible refine shown_q (Value.agg CA.toArray) ?qq_1p_12 (fun _ _ => ?qr_1p_12)
                    case qr_1p_12 => exact (rfl : (Value.agg CA.toArray) = (Value.agg CA.toArray))
                    with_reducible refine quietAt_call 9 Tryd.f9 ?h0_1p_12 ?h1_1p_12 ?h2_1p_12 #[.tmp 93] #[25] ?h3_1p_12 (Value.agg CA.toArray) #[Vx] ?h4_1p_12 ?h5_1p_12
                    case h0_1p_12 => exact Tryd.func9
                    case h1_1p_12 => kernel_rfl
                    case h2_1p_12 => kernel_rfl
                    case h3_1p_12 => rfl
                    case h4_1p_12 => exact map1 _ _ _ e93
                    case h5_1p_12 => exact (HSmx.out u _ hu HVx)
                  · intro A u hu hpu hsz hout hdeps
                    have e90 : A.eval (.tmp 90) = (.bool false) := by have h := depL hdeps 8 (by kernel_rfl) 90 (by kernel_rfl); exact h
                    have e91 : A.eval (.tmp 91) = (.agg CA.toArray) := by have h := depL hdeps 9 (by kernel_rfl) 91 (by kernel_rfl); exact h
                    have e94 : A.eval (.tmp 94) = (.agg CA.toArray) := by have h := depL hdeps 12 (by kernel_rfl) 94 (by kernel_rfl); exact h
                    refine ifw_want 8 false 90 rfl rfl e90 ?_
                    with_reducible refine shown_q (Value.bool false) ?qq_1p_13 (fun _ _ => ?qr_1p_13)
                    case qr_1p_13 => exact (rfl : (Value.bool false) = (Value.bool false))
                    with_reducible refine quietAt_bin .neq 26 (.tmp 91) (.tmp 94) 26 (Value.agg CA.toArray) (Value.agg CA.toArray) (Value.bool false) ?h0_1p_13 ?h1_1p_13 ?h2_1p_13 ?h3_1p_13
                    case h0_1p_13 => rfl
                    case h1_1p_13 => exact e91
                    case h2_1p_13 => exact e94
                    case h3_1p_13 => exact (HNeA.out _ _ u)
                  · intro A u hu hpu hsz hout hdeps
                    have e90 : A.eval (.tmp 90) = (.bool false) := by have h := depL hdeps 8 (by kernel_rfl) 90 (by kernel_rfl); exact h
                    have e95 : A.eval (.tmp 95) = (.bool false) := by have h := depL hdeps 13 (by kernel_rfl) 95 (by kernel_rfl); exact h
                    refine ifw_none rfl ?_
                    with_reducible refine shown_q (Value.bool false) ?qq_1p_14 (fun _ _ => ?qr_1p_14)
                    case qr_1p_14 => exact (rfl : (Value.bool false) = (Value.bool false))
                    with_reducible refine quietAt_pick (.tmp 90) (.const (.bool true)) (.tmp 95) false (Value.bool false) ?h0_1p_14 ?h1_1p_14 ?h2_1p_14
                    case h0_1p_14 => rfl
                    case h1_1p_14 => exact e90
                    case h2_1p_14 => rw [if_neg (by decide)]; exact e95
                  · intro A u hu hpu hsz hout hdeps
                    have e96 : A.eval (.tmp 96) = (.bool false) := by have h := depL hdeps 14 (by kernel_rfl) 96 (by kernel_rfl); exact h
                    refine ifw_none rfl ?_
                    with_reducible refine shown_q (Value.bool false) ?qq_1p_15 (fun _ _ => ?qr_1p_15)
                    case qr_1p_15 => exact (rfl : (Value.bool false) = (Value.bool false))
                    with_reducible refine quietAt_mv (.tmp 96) (Value.bool false) ?h0_1p_15 ?h1_1p_15
                    case h0_1p_15 => rfl
                    case h1_1p_15 => exact e96
                  · intro A u hu hpu hsz hout hdeps
                    have e97 : A.eval (.tmp 97) = (.bool false) := by have h := depL hdeps 15 (by kernel_rfl) 97 (by kernel_rfl); exact h
                    have e11 : A.eval (.tmp 11) = (.pointer (some ⟨p11, 0, none⟩)) := (hout 11 (by kernel_rfl)).trans rfl
                    refine ifw_want 15 false 97 rfl rfl e97 ?_
                    with_reducible refine shown_q (Value.agg CB.toArray) ?qq_1p_16 (fun _ _ => ?qr_1p_16)
                    case qr_1p_16 => exact (rfl : (Value.agg CB.toArray) = (Value.agg CB.toArray))
                    with_reducible refine quietAt_load 26 (.tmp 11) ?h0_1p_16 p11 0 CB (.array 32 5) ?h1_1p_16 ?h2_1p_16 ?h3_1p_16 ?h4_1p_16 ?h5_1p_16
                    case h0_1p_16 => rfl
                    case h1_1p_16 => exact e11
                    case h2_1p_16 => exact (HB11.out.keep hu).whole
                    case h3_1p_16 => exact Tryd.underlying26
                    case h4_1p_16 => rfl
                    case h5_1p_16 => exact (by rw [HCBl.out]; exact Tryd.size26)
                  · intro A u hu hpu hsz hout hdeps
                    have e97 : A.eval (.tmp 97) = (.bool false) := by have h := depL hdeps 15 (by kernel_rfl) 97 (by kernel_rfl); exact h
                    have e7 : A.eval (.tmp 7) = (.slice ya yn yc) := (hout 7 (by kernel_rfl)).trans rfl
                    refine ifw_want 15 false 97 rfl rfl e97 ?_
                    with_reducible refine shown_q (Value.slice ya yn yc) ?qq_1p_17 (fun _ _ => ?qr_1p_17)
                    case qr_1p_17 => exact (rfl : (Value.slice ya yn yc) = (Value.slice ya yn yc))
                    with_reducible refine quietAt_mv (.tmp 7) (Value.slice ya yn yc) ?h0_1p_17 ?h1_1p_17
                    case h0_1p_17 => rfl
                    case h1_1p_17 => exact e7
                  · intro A u hu hpu hsz hout hdeps
                    have e97 : A.eval (.tmp 97) = (.bool false) := by have h := depL hdeps 15 (by kernel_rfl) 97 (by kernel_rfl); exact h
                    have e99 : A.eval (.tmp 99) = (.slice ya yn yc) := by have h := depL hdeps 17 (by kernel_rfl) 99 (by kernel_rfl); exact h
                    refine ifw_want 15 false 97 rfl rfl e97 ?_
                    with_reducible refine shown_call 8 Tryd.f8 ?h0_1p_18 ?h1_1p_18 ?h2_1p_18 #[.tmp 99] #[25] ?h3_1p_18 #[(Value.slice ya yn yc)] ?h4_1p_18 ?h5_1p_18
                    case h0_1p_18 => exact Tryd.func8
                    case h1_1p_18 => kernel_rfl
                    case h2_1p_18 => kernel_rfl
                    case h3_1p_18 => rfl
                    case h4_1p_18 => exact map1 _ _ _ e99
                    case h5_1p_18 => exact (HCpy.out u hu).mono fun e w' ⟨v', he, ho, hg⟩ => ⟨v', he, hg, v', rfl, ho.rd.mono (fun _ _ _ => trivial)⟩
                  · intro A u hu hpu hsz hout hdeps
                    have e97 : A.eval (.tmp 97) = (.bool false) := by have h := depL hdeps 15 (by kernel_rfl) 97 (by kernel_rfl); exact h
                    have f100 : (fun v u => ∃ z, v = z ∧ Rd u (fun _ => True) z yl) (A.eval (.tmp 100)) u := by have h := depL hdeps 18 (by kernel_rfl) 100 (by kernel_rfl); exact h
                    obtain ⟨Vy, e100, HVy⟩ := f100
                    refine ifw_want 15 false 97 rfl rfl e97 ?_
                    with_reducible refine shown_q (Value.agg CB.toArray) ?qq_1p_19 (fun _ _ => ?qr_1p_19)
                    case qr_1p_19 => exact (rfl : (Value.agg CB.toArray) = (Value.agg CB.toArray))
                    with_reducible refine quietAt_call 9 Tryd.f9 ?h0_1p_19 ?h1_1p_19 ?h2_1p_19 #[.tmp 100] #[25] ?h3_1p_19 (Value.agg CB.toArray) #[Vy] ?h4_1p_19 ?h5_1p_19
                    case h0_1p_19 => exact Tryd.func9
                    case h1_1p_19 => kernel_rfl
                    case h2_1p_19 => kernel_rfl
                    case h3_1p_19 => rfl
                    case h4_1p_19 => exact map1 _ _ _ e100
                    case h5_1p_19 => exact (HSmy.out u _ hu HVy)
                  · intro A u hu hpu hsz hout hdeps
                    have e97 : A.eval (.tmp 97) = (.bool false) := by have h := depL hdeps 15 (by kernel_rfl) 97 (by kernel_rfl); exact h
                    have e98 : A.eval (.tmp 98) = (.agg CB.toArray) := by have h := depL hdeps 16 (by kernel_rfl) 98 (by kernel_rfl); exact h
                    have e101 : A.eval (.tmp 101) = (.agg CB.toArray) := by have h := depL hdeps 19 (by kernel_rfl) 101 (by kernel_rfl); exact h
                    refine ifw_want 15 false 97 rfl rfl e97 ?_
                    with_reducible refine shown_q (Value.bool false) ?qq_1p_20 (fun _ _ => ?qr_1p_20)
                    case qr_1p_20 => exact (rfl : (Value.bool false) = (Value.bool false))
                    with_reducible refine quietAt_bin .neq 26 (.tmp 98) (.tmp 101) 26 (Value.agg CB.toArray) (Value.agg CB.toArray) (Value.bool false) ?h0_1p_20 ?h1_1p_20 ?h2_1p_20 ?h3_1p_20
                    case h0_1p_20 => rfl
                    case h1_1p_20 => exact e98
                    case h2_1p_20 => exact e101
                    case h3_1p_20 => exact (HNeB.out _ _ u)
                  · intro A u hu hpu hsz hout hdeps
                    have e97 : A.eval (.tmp 97) = (.bool false) := by have h := depL hdeps 15 (by kernel_rfl) 97 (by kernel_rfl); exact h
                    have e102 : A.eval (.tmp 102) = (.bool false) := by have h := depL hdeps 20 (by kernel_rfl) 102 (by kernel_rfl); exact h
                    refine ifw_none rfl ?_
                    with_reducible refine shown_q (Value.bool false) ?qq_1p_21 (fun _ _ => ?qr_1p_21)
                    case qr_1p_21 => exact (rfl : (Value.bool false) = (Value.bool false))
                    with_reducible refine quietAt_pick (.tmp 97) (.const (.bool true)) (.tmp 102) false (Value.bool false) ?h0_1p_21 ?h1_1p_21 ?h2_1p_21
                    case h0_1p_21 => rfl
                    case h1_1p_21 => exact e97
                    case h2_1p_21 => rw [if_neg (by decide)]; exact e102
                  · intro A u14 listed hh hall
                    have hA := hh.frame
                    have HU := hid hh.grown
                    obtain ⟨x82, hx82⟩ : ∃ x, A.eval (.tmp 82) = x := ⟨_, rfl⟩
                    have f82 : (fun v _ => v = (Value.int .i64 0)) x82 u14 := by rw [← hx82]; exact hh.got 0 _ 82 rfl rfl (hall 0 (by decide))
                    obtain ⟨x83, hx83⟩ : ∃ x, A.eval (.tmp 83) = x := ⟨_, rfl⟩
                    have f83 : (fun v _ => v = (Value.int .i64 0)) x83 u14 := by rw [← hx83]; exact hh.got 1 _ 83 rfl rfl (hall 1 (by decide))
                    obtain ⟨x84, hx84⟩ : ∃ x, A.eval (.tmp 84) = x := ⟨_, rfl⟩
                    have f84 : (fun v _ => v = (Value.bool false)) x84 u14 := by rw [← hx84]; exact hh.got 2 _ 84 rfl rfl (hall 2 (by decide))
                    obtain ⟨x85, hx85⟩ : ∃ x, A.eval (.tmp 85) = x := ⟨_, rfl⟩
                    have f85 : (fun v _ => v = (Value.bool false)) x85 u14 := by rw [← hx85]; exact hh.got 3 _ 85 rfl rfl (hall 3 (by decide))
                    obtain ⟨x86, hx86⟩ : ∃ x, A.eval (.tmp 86) = x := ⟨_, rfl⟩
                    have f86 : (fun v _ => v = (Value.int .i64 0)) x86 u14 := by rw [← hx86]; exact hh.got 4 _ 86 rfl rfl (hall 4 (by decide))
                    obtain ⟨x87, hx87⟩ : ∃ x, A.eval (.tmp 87) = x := ⟨_, rfl⟩
                    have f87 : (fun v _ => v = (Value.int .i64 0)) x87 u14 := by rw [← hx87]; exact hh.got 5 _ 87 rfl rfl (hall 5 (by decide))
                    obtain ⟨x88, hx88⟩ : ∃ x, A.eval (.tmp 88) = x := ⟨_, rfl⟩
                    have f88 : (fun v _ => v = (Value.bool false)) x88 u14 := by rw [← hx88]; exact hh.got 6 _ 88 rfl rfl (hall 6 (by decide))
                    obtain ⟨x89, hx89⟩ : ∃ x, A.eval (.tmp 89) = x := ⟨_, rfl⟩
                    have f89 : (fun v _ => v = (Value.bool false)) x89 u14 := by rw [← hx89]; exact hh.got 7 _ 89 rfl rfl (hall 7 (by decide))
                    obtain ⟨x90, hx90⟩ : ∃ x, A.eval (.tmp 90) = x := ⟨_, rfl⟩
                    have f90 : (fun v _ => v = (Value.bool false)) x90 u14 := by rw [← hx90]; exact hh.got 8 _ 90 rfl rfl (hall 8 (by decide))
                    obtain ⟨x91, hx91⟩ : ∃ x, A.eval (.tmp 91) = x := ⟨_, rfl⟩
                    have f91 : (fun v _ => v = (Value.agg CA.toArray)) x91 u14 := by rw [← hx91]; exact hh.got 9 _ 91 rfl rfl (hall 9 (by decide))
                    obtain ⟨x92, hx92⟩ : ∃ x, A.eval (.tmp 92) = x := ⟨_, rfl⟩
                    have f92 : (fun v _ => v = (Value.slice xa xn xc)) x92 u14 := by rw [← hx92]; exact hh.got 10 _ 92 rfl rfl (hall 10 (by decide))
                    obtain ⟨x93, hx93⟩ : ∃ x, A.eval (.tmp 93) = x := ⟨_, rfl⟩
                    have f93 : (fun v u => ∃ z, v = z ∧ Rd u (fun _ => True) z xl) x93 u14 := by rw [← hx93]; exact hh.got 11 _ 93 rfl rfl (hall 11 (by decide))
                    obtain ⟨x94, hx94⟩ : ∃ x, A.eval (.tmp 94) = x := ⟨_, rfl⟩
                    have f94 : (fun v _ => v = (Value.agg CA.toArray)) x94 u14 := by rw [← hx94]; exact hh.got 12 _ 94 rfl rfl (hall 12 (by decide))
                    obtain ⟨x95, hx95⟩ : ∃ x, A.eval (.tmp 95) = x := ⟨_, rfl⟩
                    have f95 : (fun v _ => v = (Value.bool false)) x95 u14 := by rw [← hx95]; exact hh.got 13 _ 95 rfl rfl (hall 13 (by decide))
                    obtain ⟨x96, hx96⟩ : ∃ x, A.eval (.tmp 96) = x := ⟨_, rfl⟩
                    have f96 : (fun v _ => v = (Value.bool false)) x96 u14 := by rw [← hx96]; exact hh.got 14 _ 96 rfl rfl (hall 14 (by decide))
                    obtain ⟨x97, hx97⟩ : ∃ x, A.eval (.tmp 97) = x := ⟨_, rfl⟩
                    have f97 : (fun v _ => v = (Value.bool false)) x97 u14 := by rw [← hx97]; exact hh.got 15 _ 97 rfl rfl (hall 15 (by decide))
                    obtain ⟨x98, hx98⟩ : ∃ x, A.eval (.tmp 98) = x := ⟨_, rfl⟩
                    have f98 : (fun v _ => v = (Value.agg CB.toArray)) x98 u14 := by rw [← hx98]; exact hh.got 16 _ 98 rfl rfl (hall 16 (by decide))
                    obtain ⟨x99, hx99⟩ : ∃ x, A.eval (.tmp 99) = x := ⟨_, rfl⟩
                    have f99 : (fun v _ => v = (Value.slice ya yn yc)) x99 u14 := by rw [← hx99]; exact hh.got 17 _ 99 rfl rfl (hall 17 (by decide))
                    obtain ⟨x100, hx100⟩ : ∃ x, A.eval (.tmp 100) = x := ⟨_, rfl⟩
                    have f100 : (fun v u => ∃ z, v = z ∧ Rd u (fun _ => True) z yl) x100 u14 := by rw [← hx100]; exact hh.got 18 _ 100 rfl rfl (hall 18 (by decide))
                    obtain ⟨x101, hx101⟩ : ∃ x, A.eval (.tmp 101) = x := ⟨_, rfl⟩
                    have f101 : (fun v _ => v = (Value.agg CB.toArray)) x101 u14 := by rw [← hx101]; exact hh.got 19 _ 101 rfl rfl (hall 19 (by decide))
                    obtain ⟨x102, hx102⟩ : ∃ x, A.eval (.tmp 102) = x := ⟨_, rfl⟩
                    have f102 : (fun v _ => v = (Value.bool false)) x102 u14 := by rw [← hx102]; exact hh.got 20 _ 102 rfl rfl (hall 20 (by decide))
                    obtain ⟨x103, hx103⟩ : ∃ x, A.eval (.tmp 103) = x := ⟨_, rfl⟩
                    have f103 : (fun v _ => v = (Value.bool false)) x103 u14 := by rw [← hx103]; exact hh.got 21 _ 103 rfl rfl (hall 21 (by decide))
                    dsimp only [wrote, List.foldl] at hA
                    rw [hx82, hx83, hx84, hx85, hx86, hx87, hx88, hx89, hx90, hx91, hx92, hx93, hx94, hx95, hx96, hx97, hx98, hx99, hx100, hx101, hx102, hx103] at hA
                    clear hh hall hx82 hx83 hx84 hx85 hx86 hx87 hx88 hx89 hx90 hx91 hx92 hx93 hx94 hx95 hx96 hx97 hx98 hx99 hx100 hx101 hx102 hx103
                    replace f82 := (f82 : x82 = (.int .i64 0))
                    subst f82
                    replace f83 := (f83 : x83 = (.int .i64 0))
                    subst f83
                    replace f84 := (f84 : x84 = (.bool false))
                    subst f84
                    replace f85 := (f85 : x85 = (.bool false))
                    subst f85
                    replace f86 := (f86 : x86 = (.int .i64 0))
                    subst f86
                    replace f87 := (f87 : x87 = (.int .i64 0))
                    subst f87
                    replace f88 := (f88 : x88 = (.bool false))
                    subst f88
                    replace f89 := (f89 : x89 = (.bool false))
                    subst f89
                    replace f90 := (f90 : x90 = (.bool false))
                    subst f90
                    replace f91 := (f91 : x91 = (.agg CA.toArray))
                    subst f91
                    replace f92 := (f92 : x92 = (.slice xa xn xc))
                    subst f92
                    obtain ⟨Vx, e93, HVx⟩ := f93
                    subst e93
                    replace f94 := (f94 : x94 = (.agg CA.toArray))
                    subst f94
                    replace f95 := (f95 : x95 = (.bool false))
                    subst f95
                    replace f96 := (f96 : x96 = (.bool false))
                    subst f96
                    replace f97 := (f97 : x97 = (.bool false))
                    subst f97
                    replace f98 := (f98 : x98 = (.agg CB.toArray))
                    subst f98
                    replace f99 := (f99 : x99 = (.slice ya yn yc))
                    subst f99
                    obtain ⟨Vy, e100, HVy⟩ := f100
                    subst e100
                    replace f101 := (f101 : x101 = (.agg CB.toArray))
                    subst f101
                    replace f102 := (f102 : x102 = (.bool false))
                    subst f102
                    replace f103 := (f103 : x103 = (.bool false))
                    subst f103
                    subst hA
                    show wpList _ _ _ [] _ _
                    unfold wpList
                    simp only [Act.put, List.setIfInBounds_toArray, List.set_cons_succ, List.set_cons_zero]
                    have HT14 := hid HU.out
                    clear HU HCpx HCpy HSmx HSmy HNeA HNeB
                    have HB9' := hid (HB9.out.keep HT14.out)
                    have HB11' := hid (HB11.out.keep HT14.out)
                    have HXe := hid (HXd.out.keep HT14.out)
                    have HYe := hid (HYd.out.keep HT14.out)
                    have HAe := hid (HAd.out.keep HT14.out)
                    have HBe := hid (HBd.out.keep HT14.out)
                    have HWe := hid (gtrans HWd.out HT14.out)
                    clear HB9 HB11 HXd HYd HAd HBd HWd
                    have HEq : Hid (∀ (x y : Operand) (u : World), (do eqGuard .eql 26 x y (.agg CA.toArray) (.agg CB.toArray); binOp .eql 26 (.agg CA.toArray) (.agg CB.toArray) : Sem Value).run Tryd.prog u = .ok (.bool (DA == DB)) u) := fun x y u => by
                      rw [← HCA.out, ← HCB.out, neqG_32]
                      exact eql_32 DA DB HDAl.out HDBl.out u
                    obtain ⟨ed, Hed⟩ : ∃ x, Hid ((DA == DB) = x) := ⟨_, hid rfl⟩
                    rw [Hed.out] at HEq
                    cases ed with
                    | true =>
                      have HEy : Hid (∀ u, u14.grownBy u none → Calls Tryd.prog 20 #[.slice xa xn xc, .slice ya yn yc] u fun e w' => e = .returned (.bool false) ∧ u.grownBy w' none) := fun u hu => by
                        have := eq_any u (.slice xa xn xc) (.slice ya yn yc) _ _ xl yl (HXe.out.keep hu) (HYe.out.keep hu) (by have := HXL.out; omega)
                        rw [decide_eq_false HXY.out] at this
                        exact this.mono fun e w' ⟨he, m, hm⟩ => ⟨he, by rw [hm]; exact gdrew _ _ _⟩
                      go_wp2_with (first
                        | (refine wpList_load_part rfl 26 _ rfl p9 0 CA _ rfl HB9'.out.whole Tryd.underlying26 rfl (by rw [HCAl.out]; exact Tryd.size26) ?_)
                        | (refine wpList_load_part rfl 26 _ rfl p11 0 CB _ rfl HB11'.out.whole Tryd.underlying26 rfl (by rw [HCBl.out]; exact Tryd.size26) ?_)
                        | (with_reducible refine wpList_bin (by with_unfolding_all rfl) .eql 26 _ _ _ (by with_unfolding_all rfl) _ _ _ (by with_unfolding_all rfl) (by with_unfolding_all rfl) (HEq.out _ _ _) ?_)
                        | (go_at_call 20; (with_reducible refine (HEy.out _ (grefl _ _)).mono ?_); rintro e u15 ⟨rfl, hg15⟩; have HT15 := hid (gtrans HWe.out hg15); clear hg15)
                        | (go_at_call 12; (with_reducible refine (HWk.out _ HT15.out).mono ?_); rintro e w9 ⟨rfl, hg9⟩; have HG9 := hid hg9; clear hg9))
                      go_ret
                      exact ⟨rfl, gtrans HT15.out HG9.out⟩
                    | false =>
                      have HDne : Hid (DA ≠ DB) := hid (fun e => by have := Hed.out; rw [e] at this; simp at this)
                      go_upto_region 20 with (first
                        | (refine wpList_load_part rfl 26 _ rfl p9 0 CA _ rfl HB9'.out.whole Tryd.underlying26 rfl (by rw [HCAl.out]; exact Tryd.size26) ?_)
                        | (refine wpList_load_part rfl 26 _ rfl p11 0 CB _ rfl HB11'.out.whole Tryd.underlying26 rfl (by rw [HCBl.out]; exact Tryd.size26) ?_)
                        | (with_reducible refine wpList_bin (by with_unfolding_all rfl) .eql 26 _ _ _ (by with_unfolding_all rfl) _ _ _ (by with_unfolding_all rfl) (by with_unfolding_all rfl) (HEq.out _ _ _) ?_))
                      clear HEq
                      obtain ⟨wq, hwq⟩ : ∃ x, x = wd := ⟨_, rfl⟩
                      subst hwq
                      obtain ⟨wd, hwd⟩ : ∃ x, x = u14 := ⟨_, rfl⟩
                      subst hwd
                      have HCd : Hid (∀ u, wd.grownBy u none → Calls Tryd.prog 8 #[.slice (some ⟨p9, 0, none⟩) 32 32] u fun e w' => ∃ v', e = .returned v' ∧ Out u.heap.size w' v' DA ∧ u.grownBy w' none) := fun u hu => copyR_any u _ _ DA ((HB9'.out.keep hu).rdn HCA.out HDAl.out) (by rw [HDAl.out]; decide)
                      refine wp_region_list (by kernel_rfl) [fun v _ => v = (Value.slice (some ⟨p9, 0, none⟩) 32 32), fun v u => ∃ z, v = z ∧ Out wd.heap.size u z DA, fun v _ => v = (Value.pointer (some ⟨b4, 0, none⟩)), fun v _ => v = (Value.slice (some ⟨b4, 0, none⟩) 16 16)] (none) (fun _ => none) 4 (by kernel_rfl) (by kernel_rfl) (by kernel_rfl) (by kernel_rfl) (by decide) noRow_one (fun _ => .inl rfl) ⟨fun i v u u' hki h hg => h, fun i v u u' hki h hg => (by obtain ⟨z, rfl, h1⟩ := h; exact ⟨_, rfl, h1.keep hg⟩), fun i v u u' hki h hg => h, fun i v u u' hki h hg => h, trivial⟩ ⟨?_, ?_, ?_, ?_, trivial⟩ ?_
                      · intro A u hu hpu hsz hout hdeps
                        have e9 : A.eval (.tmp 9) = (.pointer (some ⟨p9, 0, none⟩)) := (hout 9 (by kernel_rfl)).trans rfl
                        refine ifw_none rfl ?_
                        with_reducible refine shown_q (Value.slice (some ⟨p9, 0, none⟩) 32 32) ?qq_2p_0 (fun _ _ => ?qr_2p_0)
                        case qr_2p_0 => exact (rfl : (Value.slice (some ⟨p9, 0, none⟩) 32 32) = (Value.slice (some ⟨p9, 0, none⟩) 32 32))
                        with_reducible refine quietAt_slice0 26 (.tmp 9) (Value.pointer (some ⟨p9, 0, none⟩)) (Value.slice (some ⟨p9, 0, none⟩) 32 32) ?h0_2p_0 ?h1_2p_0 ?h2_2p_0
                        case h0_2p_0 => rfl
                        case h1_2p_0 => exact e9
                        case h2_2p_0 => exact (arr24 p9 u)
                      · intro A u hu hpu hsz hout hdeps
                        have e111 : A.eval (.tmp 111) = (.slice (some ⟨p9, 0, none⟩) 32 32) := by have h := depL hdeps 0 (by kernel_rfl) 111 (by kernel_rfl); exact h
                        refine ifw_none rfl ?_
                        with_reducible refine shown_call 8 Tryd.f8 ?h0_2p_1 ?h1_2p_1 ?h2_2p_1 #[.tmp 111] #[25] ?h3_2p_1 #[(Value.slice (some ⟨p9, 0, none⟩) 32 32)] ?h4_2p_1 ?h5_2p_1
                        case h0_2p_1 => exact Tryd.func8
                        case h1_2p_1 => kernel_rfl
                        case h2_2p_1 => kernel_rfl
                        case h3_2p_1 => rfl
                        case h4_2p_1 => exact map1 _ _ _ e111
                        case h5_2p_1 => exact (HCd.out u hu).mono fun e w' ⟨v', he, ho, hg⟩ => ⟨v', he, hg, v', rfl, ho.below hu.size⟩
                      · intro A u hu hpu hsz hout hdeps
                        have e4 : A.eval (.tmp 4) = (.pointer (some ⟨b4, 0, none⟩)) := (hout 4 (by kernel_rfl)).trans rfl
                        refine ifw_none rfl ?_
                        with_reducible refine shown_q (Value.pointer (some ⟨b4, 0, none⟩)) ?qq_2p_2 (fun _ _ => ?qr_2p_2)
                        case qr_2p_2 => exact (rfl : (Value.pointer (some ⟨b4, 0, none⟩)) = (Value.pointer (some ⟨b4, 0, none⟩)))
                        with_reducible refine quietAt_field 47 (.tmp 4) 0 ?h0_2p_2 ⟨b4, 0, none⟩ ⟨b4, 0, none⟩ ?h1_2p_2 ?h2_2p_2
                        case h0_2p_2 => rfl
                        case h1_2p_2 => exact e4
                        case h2_2p_2 => kernel_rfl
                      · intro A u hu hpu hsz hout hdeps
                        have e113 : A.eval (.tmp 113) = (.pointer (some ⟨b4, 0, none⟩)) := by have h := depL hdeps 2 (by kernel_rfl) 113 (by kernel_rfl); exact h
                        refine ifw_none rfl ?_
                        with_reducible refine shown_q (Value.slice (some ⟨b4, 0, none⟩) 16 16) ?qq_2p_3 (fun _ _ => ?qr_2p_3)
                        case qr_2p_3 => exact (rfl : (Value.slice (some ⟨b4, 0, none⟩) 16 16) = (Value.slice (some ⟨b4, 0, none⟩) 16 16))
                        with_reducible refine quietAt_slice0 45 (.tmp 113) (Value.pointer (some ⟨b4, 0, none⟩)) (Value.slice (some ⟨b4, 0, none⟩) 16 16) ?h0_2p_3 ?h1_2p_3 ?h2_2p_3
                        case h0_2p_3 => rfl
                        case h1_2p_3 => exact e113
                        case h2_2p_3 => exact (arr53 b4 u)
                      · intro A u20 listed hh hall
                        have hA := hh.frame
                        have HU := hid hh.grown
                        obtain ⟨x111, hx111⟩ : ∃ x, A.eval (.tmp 111) = x := ⟨_, rfl⟩
                        have f111 : (fun v _ => v = (Value.slice (some ⟨p9, 0, none⟩) 32 32)) x111 u20 := by rw [← hx111]; exact hh.got 0 _ 111 rfl rfl (hall 0 (by decide))
                        obtain ⟨x112, hx112⟩ : ∃ x, A.eval (.tmp 112) = x := ⟨_, rfl⟩
                        have f112 : (fun v u => ∃ z, v = z ∧ Out wd.heap.size u z DA) x112 u20 := by rw [← hx112]; exact hh.got 1 _ 112 rfl rfl (hall 1 (by decide))
                        obtain ⟨x113, hx113⟩ : ∃ x, A.eval (.tmp 113) = x := ⟨_, rfl⟩
                        have f113 : (fun v _ => v = (Value.pointer (some ⟨b4, 0, none⟩))) x113 u20 := by rw [← hx113]; exact hh.got 2 _ 113 rfl rfl (hall 2 (by decide))
                        obtain ⟨x114, hx114⟩ : ∃ x, A.eval (.tmp 114) = x := ⟨_, rfl⟩
                        have f114 : (fun v _ => v = (Value.slice (some ⟨b4, 0, none⟩) 16 16)) x114 u20 := by rw [← hx114]; exact hh.got 3 _ 114 rfl rfl (hall 3 (by decide))
                        obtain ⟨x115, hx115⟩ : ∃ x, A.eval (.tmp 115) = x := ⟨_, rfl⟩
                        obtain ⟨x6, hx6⟩ : ∃ x, A.eval (.tmp 6) = x := ⟨_, rfl⟩
                        dsimp only [wrote, List.foldl] at hA
                        rw [hx111, hx112, hx113, hx114, hx115, hx6] at hA
                        clear hh hall hx111 hx112 hx113 hx114 hx115 hx6
                        replace f111 := (f111 : x111 = (.slice (some ⟨p9, 0, none⟩) 32 32))
                        subst f111
                        obtain ⟨Vx, e112, HVx⟩ := f112
                        subst e112
                        replace f113 := (f113 : x113 = (.pointer (some ⟨b4, 0, none⟩)))
                        subst f113
                        replace f114 := (f114 : x114 = (.slice (some ⟨b4, 0, none⟩) 16 16))
                        subst f114
                        subst hA
                        show wpList _ _ _ [_, _] _ _
                        simp only [Act.put, List.setIfInBounds_toArray, List.set_cons_succ, List.set_cons_zero]
                        have HT20 := hid HU.out
                        have HO20 := hid HVx
                        clear HU HVx HCd
                        have HRs : Hid (Rd u20 (fun g => g = b4) (.slice (some ⟨b4, 0, none⟩) 16 16) sA) := hid (rd16 (HcA.out _ _ (HAe.out.keep HT20.out)).2 (HAe.out.keep HT20.out).lt HSA.out HslA.out)
                        go_upto_region 21 with (refine wpList_append_rdW rfl _ _ rfl wd.heap.size _ DA sA HO20.out HRs.out (by rw [HDAl.out, HslA.out]; decide) HT20.out.size ?_; intro x5 u21 hO5 hg5 _; have HX5 := hid (hO5.rd.mono (G := fun _ => True) (fun _ _ _ => trivial)); have HT5 := hid (HT20.out.andThen hg5 (fun j hj => .inl (HO20.out.block j hj))); clear hO5 hg5)
                        have HB11f := hid (HB11'.out.keep HT5.out)
                        have HAf := hid (HAe.out.keep HT5.out)
                        have HBf := hid (HBe.out.keep HT5.out)
                        have HWf := hid (gtrans HWe.out HT5.out)
                        clear HT5 HT20 HO20 HRs HB11' HAe HBe HWe HB9' HXe HYe HT14
                        obtain ⟨wdd, hwdd⟩ : ∃ x, x = wd := ⟨_, rfl⟩
                        subst hwdd
                        obtain ⟨wd, hwd⟩ : ∃ x, x = u21 := ⟨_, rfl⟩
                        subst hwd
                        have HCd : Hid (∀ u, wd.grownBy u none → Calls Tryd.prog 8 #[.slice (some ⟨p11, 0, none⟩) 32 32] u fun e w' => ∃ v', e = .returned v' ∧ Out u.heap.size w' v' DB ∧ u.grownBy w' none) := fun u hu => copyR_any u _ _ DB ((HB11f.out.keep hu).rdn HCB.out HDBl.out) (by rw [HDBl.out]; decide)
                        refine wp_region_list (by kernel_rfl) [fun v _ => v = (Value.slice (some ⟨p11, 0, none⟩) 32 32), fun v u => ∃ z, v = z ∧ Out wd.heap.size u z DB, fun v _ => v = (Value.pointer (some ⟨b5, 0, none⟩)), fun v _ => v = (Value.slice (some ⟨b5, 0, none⟩) 16 16)] (none) (fun _ => none) 4 (by kernel_rfl) (by kernel_rfl) (by kernel_rfl) (by kernel_rfl) (by decide) noRow_one (fun _ => .inl rfl) ⟨fun i v u u' hki h hg => h, fun i v u u' hki h hg => (by obtain ⟨z, rfl, h1⟩ := h; exact ⟨_, rfl, h1.keep hg⟩), fun i v u u' hki h hg => h, fun i v u u' hki h hg => h, trivial⟩ ⟨?_, ?_, ?_, ?_, trivial⟩ ?_
                        · intro A u hu hpu hsz hout hdeps
                          have e11 : A.eval (.tmp 11) = (.pointer (some ⟨p11, 0, none⟩)) := (hout 11 (by kernel_rfl)).trans rfl
                          refine ifw_none rfl ?_
                          with_reducible refine shown_q (Value.slice (some ⟨p11, 0, none⟩) 32 32) ?qq_3p_0 (fun _ _ => ?qr_3p_0)
                          case qr_3p_0 => exact (rfl : (Value.slice (some ⟨p11, 0, none⟩) 32 32) = (Value.slice (some ⟨p11, 0, none⟩) 32 32))
                          with_reducible refine quietAt_slice0 26 (.tmp 11) (Value.pointer (some ⟨p11, 0, none⟩)) (Value.slice (some ⟨p11, 0, none⟩) 32 32) ?h0_3p_0 ?h1_3p_0 ?h2_3p_0
                          case h0_3p_0 => rfl
                          case h1_3p_0 => exact e11
                          case h2_3p_0 => exact (arr24 p11 u)
                        · intro A u hu hpu hsz hout hdeps
                          have e116 : A.eval (.tmp 116) = (.slice (some ⟨p11, 0, none⟩) 32 32) := by have h := depL hdeps 0 (by kernel_rfl) 116 (by kernel_rfl); exact h
                          refine ifw_none rfl ?_
                          with_reducible refine shown_call 8 Tryd.f8 ?h0_3p_1 ?h1_3p_1 ?h2_3p_1 #[.tmp 116] #[25] ?h3_3p_1 #[(Value.slice (some ⟨p11, 0, none⟩) 32 32)] ?h4_3p_1 ?h5_3p_1
                          case h0_3p_1 => exact Tryd.func8
                          case h1_3p_1 => kernel_rfl
                          case h2_3p_1 => kernel_rfl
                          case h3_3p_1 => rfl
                          case h4_3p_1 => exact map1 _ _ _ e116
                          case h5_3p_1 => exact (HCd.out u hu).mono fun e w' ⟨v', he, ho, hg⟩ => ⟨v', he, hg, v', rfl, ho.below hu.size⟩
                        · intro A u hu hpu hsz hout hdeps
                          have e5 : A.eval (.tmp 5) = (.pointer (some ⟨b5, 0, none⟩)) := (hout 5 (by kernel_rfl)).trans rfl
                          refine ifw_none rfl ?_
                          with_reducible refine shown_q (Value.pointer (some ⟨b5, 0, none⟩)) ?qq_3p_2 (fun _ _ => ?qr_3p_2)
                          case qr_3p_2 => exact (rfl : (Value.pointer (some ⟨b5, 0, none⟩)) = (Value.pointer (some ⟨b5, 0, none⟩)))
                          with_reducible refine quietAt_field 47 (.tmp 5) 0 ?h0_3p_2 ⟨b5, 0, none⟩ ⟨b5, 0, none⟩ ?h1_3p_2 ?h2_3p_2
                          case h0_3p_2 => rfl
                          case h1_3p_2 => exact e5
                          case h2_3p_2 => kernel_rfl
                        · intro A u hu hpu hsz hout hdeps
                          have e118 : A.eval (.tmp 118) = (.pointer (some ⟨b5, 0, none⟩)) := by have h := depL hdeps 2 (by kernel_rfl) 118 (by kernel_rfl); exact h
                          refine ifw_none rfl ?_
                          with_reducible refine shown_q (Value.slice (some ⟨b5, 0, none⟩) 16 16) ?qq_3p_3 (fun _ _ => ?qr_3p_3)
                          case qr_3p_3 => exact (rfl : (Value.slice (some ⟨b5, 0, none⟩) 16 16) = (Value.slice (some ⟨b5, 0, none⟩) 16 16))
                          with_reducible refine quietAt_slice0 45 (.tmp 118) (Value.pointer (some ⟨b5, 0, none⟩)) (Value.slice (some ⟨b5, 0, none⟩) 16 16) ?h0_3p_3 ?h1_3p_3 ?h2_3p_3
                          case h0_3p_3 => rfl
                          case h1_3p_3 => exact e118
                          case h2_3p_3 => exact (arr53 b5 u)
                        · intro A u22 listed hh hall
                          have hA := hh.frame
                          have HU := hid hh.grown
                          obtain ⟨x116, hx116⟩ : ∃ x, A.eval (.tmp 116) = x := ⟨_, rfl⟩
                          have f116 : (fun v _ => v = (Value.slice (some ⟨p11, 0, none⟩) 32 32)) x116 u22 := by rw [← hx116]; exact hh.got 0 _ 116 rfl rfl (hall 0 (by decide))
                          obtain ⟨x117, hx117⟩ : ∃ x, A.eval (.tmp 117) = x := ⟨_, rfl⟩
                          have f117 : (fun v u => ∃ z, v = z ∧ Out wd.heap.size u z DB) x117 u22 := by rw [← hx117]; exact hh.got 1 _ 117 rfl rfl (hall 1 (by decide))
                          obtain ⟨x118, hx118⟩ : ∃ x, A.eval (.tmp 118) = x := ⟨_, rfl⟩
                          have f118 : (fun v _ => v = (Value.pointer (some ⟨b5, 0, none⟩))) x118 u22 := by rw [← hx118]; exact hh.got 2 _ 118 rfl rfl (hall 2 (by decide))
                          obtain ⟨x119, hx119⟩ : ∃ x, A.eval (.tmp 119) = x := ⟨_, rfl⟩
                          have f119 : (fun v _ => v = (Value.slice (some ⟨b5, 0, none⟩) 16 16)) x119 u22 := by rw [← hx119]; exact hh.got 3 _ 119 rfl rfl (hall 3 (by decide))
                          obtain ⟨x120, hx120⟩ : ∃ x, A.eval (.tmp 120) = x := ⟨_, rfl⟩
                          obtain ⟨x7, hx7⟩ : ∃ x, A.eval (.tmp 7) = x := ⟨_, rfl⟩
                          dsimp only [wrote, List.foldl] at hA
                          rw [hx116, hx117, hx118, hx119, hx120, hx7] at hA
                          clear hh hall hx116 hx117 hx118 hx119 hx120 hx7
                          replace f116 := (f116 : x116 = (.slice (some ⟨p11, 0, none⟩) 32 32))
                          subst f116
                          obtain ⟨Vy, e117, HVy⟩ := f117
                          subst e117
                          replace f118 := (f118 : x118 = (.pointer (some ⟨b5, 0, none⟩)))
                          subst f118
                          replace f119 := (f119 : x119 = (.slice (some ⟨b5, 0, none⟩) 16 16))
                          subst f119
                          subst hA
                          show wpList _ _ _ [_, _] _ _
                          simp only [Act.put, List.setIfInBounds_toArray, List.set_cons_succ, List.set_cons_zero]
                          have HT22 := hid HU.out
                          have HO22 := hid HVy
                          clear HU HVy HCd
                          have HRs : Hid (Rd u22 (fun g => g = b5) (.slice (some ⟨b5, 0, none⟩) 16 16) sB) := hid (rd16 (HcB.out _ _ (HBf.out.keep HT22.out)).2 (HBf.out.keep HT22.out).lt HSB.out HslB.out)
                          go_wp2_with (refine wpList_append_rdW rfl _ _ rfl wd.heap.size _ DB sB HO22.out HRs.out (by rw [HDBl.out, HslB.out]; decide) HT22.out.size ?_; intro y5 u23 hO5 hg5 _; have HY5 := hid (hO5.rd.mono (G := fun _ => True) (fun _ _ _ => trivial)); have HT6 := hid (HT22.out.andThen hg5 (fun j hj => .inl (HO22.out.block j hj))); clear hO5 hg5)
                          go_roundw
                          case rel => exact ⟨k + 1, DA ++ sA, DB ++ sB, by rw [← HK1.out]; go_num, by omega, hid (HX5.out.keep HT6.out), HY5, hid (nxt_ne HDAl.out HDBl.out HDne.out), HNx, HNy, hid (by rw [List.length_append, List.length_append, HDAl.out, HDBl.out, HslA.out, HslB.out]; decide), hid (HAf.out.keep HT6.out), hid (HBf.out.keep HT6.out), hid (gtrans HWf.out HT6.out)⟩
                          case measure => simp [intOf]; have := HK1.out; omega
                · have hge : ¬ (K1 : Int) ≤ 5 := by omega
                  clear hK1
                  go_wp2_with fail
                  go_roundw
                  case rel => exact ⟨i + 1, by rw [← hJ]; go_num, by omega, HW⟩
                  case measure => simp [intOf]; omega
            | false =>
              obtain ⟨TA, HTA⟩ : ∃ x, Hid (tA.data.toList = x) := ⟨_, hid rfl⟩
              obtain ⟨TB, HTB⟩ : ∃ x, Hid (tB.data.toList = x) := ⟨_, hid rfl⟩
              have HNA4 : Hid (NA ≤ 4000 ∧ NB ≤ 4000) := hid ⟨by omega, by omega⟩
              have HFa : Hid (∀ u, w.grownBy u none → Calls Tryd.prog 17 #[.agg csA.toArray] u fun e w' => ∃ v', e = .returned v' ∧ Rd w' (fun _ => True) v' (fstL sA TA) ∧ u.grownBy w' none) := fun u hu => by
                rw [← HcsA.out, ← HTA.out]
                exact (first_any u sA tA rA HslA.out (by rw [HNA.out]; have := HNA4.out; omega)).mono fun e w' ⟨v', he, ho, hg⟩ => ⟨v', he, ho.rd.mono (fun _ _ _ => trivial), hg⟩
              have HFb : Hid (∀ u, w.grownBy u none → Calls Tryd.prog 17 #[.agg csB.toArray] u fun e w' => ∃ v', e = .returned v' ∧ Rd w' (fun _ => True) v' (fstL sB TB) ∧ u.grownBy w' none) := fun u hu => by
                rw [← HcsB.out, ← HTB.out]
                exact (first_any u sB tB rB HslB.out (by rw [HNB.out]; have := HNA4.out; omega)).mono fun e w' ⟨v', he, ho, hg⟩ => ⟨v', he, ho.rd.mono (fun _ _ _ => trivial), hg⟩
              have HXne : Hid (fstL sA TA ≠ fstL sB TB) := hid (fun e => HNE.out (by
                obtain ⟨h1, h2⟩ := fst_inj HslA.out HslB.out e
                refine ⟨h1, ?_⟩
                rw [← HTA.out, ← HTB.out] at h2
                exact ByteArray.ext (Array.toList_inj.1 h2)))
              have HXlen : Hid ((fstL sA TA).length ≤ 4024 ∧ (fstL sB TB).length ≤ 4024) := hid (by
                have h1 : TA.length = NA := by rw [← HTA.out, ← HNA.out]; exact Array.length_toList
                have h2 : TB.length = NB := by rw [← HTB.out, ← HNB.out]; exact Array.length_toList
                have := HNA4.out
                unfold fstL
                rw [List.length_append, List.length_append, be_len, HslA.out, List.length_append, List.length_append, be_len, HslB.out]
                omega)
              go_wp2_with (first
                | (with_reducible refine wpList_load_partW (by with_unfolding_all rfl) 45 _ (by with_unfolding_all rfl) b4 0 SA _ (by with_unfolding_all rfl) HyA.out Tryd.underlying45 (by with_unfolding_all rfl) (by rw [HSAl.out]; exact Tryd.size45) ?_)
                | (with_reducible refine wpList_load_partW (by with_unfolding_all rfl) 45 _ (by with_unfolding_all rfl) b5 0 SB _ (by with_unfolding_all rfl) HyB.out Tryd.underlying45 (by with_unfolding_all rfl) (by rw [HSBl.out]; exact Tryd.size45) ?_)
                | (with_reducible refine wpList_binW (by with_unfolding_all rfl) .eql 45 _ _ _ (by with_unfolding_all rfl) _ _ _ (by with_unfolding_all rfl) (by with_unfolding_all rfl) (HEs.out _ _ _) ?_)
                | (have := HU6; clear this; refine wpList_load_part rfl 47 _ rfl b5 0 csB _ rfl HB6.out.whole Tryd.underlying47 rfl (by rw [HWLB.out]; exact Tryd.size47) ?_)
                | (have := HU6; clear this; go_at_call 17; (with_reducible refine (HFb.out _ HU6.out).mono ?_); rintro e e7 ⟨v7, rfl, hO7, hg7⟩; have HY7 := hid hO7; have HU7 := hid (gtrans HU6.out hg7); have HX7 := hid (HX6.out.keep hg7); have HA7 := hid (HA6.out.keep hg7); have HB7 := hid (HB6.out.keep hg7); clear hO7 hg7)
                | (refine wpList_load_part rfl 47 _ rfl b4 0 csA _ rfl HA5.out.whole Tryd.underlying47 rfl (by rw [HWLA.out]; exact Tryd.size47) ?_)
                | (go_at_call 17; (with_reducible refine (HFa.out _ HU5.out).mono ?_); rintro e e6 ⟨v6, rfl, hO6, hg6⟩; have HX6 := hid hO6; have HU6 := hid (gtrans HU5.out hg6); have HA6 := hid (HA5.out.keep hg6); have HB6 := hid (HB5.out.keep hg6); clear hO6 hg6))
              clear HX6 HU6 HA6 HB6 HA5 HB5 y16 z16 HyA HyB HFa HFb
              obtain ⟨wo, hwo⟩ : ∃ x, x = wr := ⟨_, rfl⟩
              subst hwo
              go_wp2_with fail
              go_loopw [6, 7, 8] (fun xv yv kv wq => ∃ (k : Nat) (xl yl : List UInt8), kv = .int .i64 ((k + 1 : Nat) : Int) ∧ k ≤ 5 ∧ Hid (Rd wq (fun _ => True) xv xl) ∧ Hid (Rd wq (fun _ => True) yv yl) ∧ Hid (xl ≠ yl) ∧ Hid (sumL xl = passN sA TA k) ∧ Hid (sumL yl = passN sB TB k) ∧ Hid (xl.length ≤ 4024 ∧ yl.length ≤ 4024) ∧ Hid (Blk wq b4 csA 47) ∧ Hid (Blk wq b5 csB 47) ∧ Hid (w.grownBy wq none)) (fun _ _ kv _ => 7 - (intOf kv).toNat)
              case atStart => exact ⟨0, fstL sA TA, fstL sB TB, rfl, by omega, HX7, HY7, HXne, hid rfl, hid rfl, HXlen, HA7, HB7, HU7⟩
              case round =>
                clear HX7 HY7 HXne HXlen HA7 HB7 HU7
                obtain ⟨k, xl, yl, rfl, hk, HXr, HYr, HXY, HSx, HSy, HXL, HBA, HBB, HW⟩ := hrel
                obtain ⟨xa, _, _, xc, hxe, -⟩ := HXr.out
                obtain ⟨ya, _, _, yc, hye, -⟩ := HYr.out
                obtain ⟨xn, hxn⟩ : ∃ n, xl.length = n := ⟨_, rfl⟩
                obtain ⟨yn, hyn⟩ : ∃ n, yl.length = n := ⟨_, rfl⟩
                rw [hxn] at hxe
                rw [hyn] at hye
                rw [hxe] at HXr ⊢
                rw [hye] at HYr ⊢
                clear hxn hyn hxe hye
                obtain ⟨K1, hK1⟩ : ∃ K1, k + 1 = K1 := ⟨_, rfl⟩
                rw [hK1]
                have HK1 := hid hK1
                by_cases hlt : k < 5
                · have hlt' : (K1 : Int) ≤ 5 := by omega
                  clear hK1
                  obtain ⟨DA, HDA⟩ : ∃ x, Hid (passN sA TA k = x) := ⟨_, hid rfl⟩
                  obtain ⟨DB, HDB⟩ : ∃ x, Hid (passN sB TB k = x) := ⟨_, hid rfl⟩
                  have HDAl : Hid (DA.length = 32) := hid (by rw [← HDA.out]; exact passN_length _ _ _)
                  have HDBl : Hid (DB.length = 32) := hid (by rw [← HDB.out]; exact passN_length _ _ _)
                  have HNx : Hid (sumL (DA ++ sA) = passN sA TA (k + 1)) := hid (by rw [← HDA.out]; rfl)
                  have HNy : Hid (sumL (DB ++ sB) = passN sB TB (k + 1)) := hid (by rw [← HDB.out]; rfl)
                  rw [HDA.out] at HSx
                  rw [HDB.out] at HSy
                  obtain ⟨CA, HCA⟩ : ∃ x, Hid (Lib.byteCells DA = x) := ⟨_, hid rfl⟩
                  obtain ⟨CB, HCB⟩ : ∃ x, Hid (Lib.byteCells DB = x) := ⟨_, hid rfl⟩
                  have HCAl : Hid (CA.length = 32) := hid (by rw [← HCA.out, byteCells_length]; exact HDAl.out)
                  have HCBl : Hid (CB.length = 32) := hid (by rw [← HCB.out, byteCells_length]; exact HDBl.out)
                  have HCA1 : Hid (∀ v ∈ CA, v.oneCell' = true) := hid (by rw [← HCA.out]; exact bcs_one _)
                  have HCB1 : Hid (∀ v ∈ CB, v.oneCell' = true) := hid (by rw [← HCB.out]; exact bcs_one _)
                  have HPa : Hid (∀ u, w.grownBy u none → Calls Tryd.prog 18 #[.agg SA.toArray, .string tA, .int .i64 (K1 : Nat)] u fun e w' => e = .returned (.tuple #[.agg CA.toArray, .int .i64 0]) ∧ u.grownBy w' none) := fun u hu => by
                    have := pass_ok u sA tA K1 (by have := HK1.out; omega) (by have := HK1.out; omega) HslA.out (HGl.out u hu) (by rw [HNA.out]; have := HNA4.out; omega)
                    rw [HTA.out, ← HK1.out, Nat.add_sub_cancel, HDA.out, HCA.out, HSA.out] at this
                    rw [← HK1.out]
                    exact this
                  have HPb : Hid (∀ u, w.grownBy u none → Calls Tryd.prog 18 #[.agg SB.toArray, .string tB, .int .i64 (K1 : Nat)] u fun e w' => e = .returned (.tuple #[.agg CB.toArray, .int .i64 0]) ∧ u.grownBy w' none) := fun u hu => by
                    have := pass_ok u sB tB K1 (by have := HK1.out; omega) (by have := HK1.out; omega) HslB.out (HGl.out u hu) (by rw [HNB.out]; have := HNA4.out; omega)
                    rw [HTB.out, ← HK1.out, Nat.add_sub_cancel, HDB.out, HCB.out, HSB.out] at this
                    rw [← HK1.out]
                    exact this
                  obtain ⟨y16, HyA⟩ := HcA.out _ _ HBA.out
                  replace HyA := hid HyA
                  go_upto_region 13 with (first
                    | (refine wpList_load_part rfl 45 _ rfl b4 0 SA _ rfl HyA.out Tryd.underlying45 rfl (by rw [HSAl.out]; exact Tryd.size45) ?_)
                    | (go_at_call 18; (with_reducible refine (HPa.out _ HW.out).mono ?_); rintro e q1 ⟨rfl, hg1⟩; have HW1 := hid (gtrans HW.out hg1); have HG1 := hid hg1; clear hg1)
                    | (refine wpList_alloc_row rfl 26 rfl y32 Tryd.zero26 ?_; intro q2 B2 s2 g2; have HD2 := hid B2; have HW2 := hid (gtrans HW1.out g2); have HG2 := hid (gtrans HG1.out g2); clear B2 g2 s2)
                    | (refine wpList_store_all rfl 26 _ _ rfl q1.heap.size y32 CA 26 rfl rfl HD2.out (by rw [HCAl.out]; rfl) (by rw [HCAl.out]; exact Tryd.size26) HCA1.out ?_; intro q3 B3 g3 s3; have HD3 := hid B3; have HW3 := hid (HW2.out.andThen g3 (fun j hj => .inl (by injection hj with hj; have := HW1.out.size; omega))); have HG3 := hid (HG2.out.andThen g3 (fun j hj => .inl (by injection hj with hj; have := HG1.out.size; omega))); clear B3 g3 s3))
                  obtain ⟨p9, hp9⟩ : ∃ x, q1.heap.size = x := ⟨_, rfl⟩
                  rw [hp9] at HD3 ⊢
                  have HP9 : Hid (wr.heap.size ≤ p9) := hid (by rw [← hp9]; exact HG1.out.size)
                  clear hp9 HD2 HW2 HG2 HW1 HG1 y16 HyA
                  obtain ⟨z16, HyB⟩ := HcB.out _ _ (HBB.out.keep HG3.out)
                  replace HyB := hid HyB
                  go_upto_region 14 with (first
                    | (refine wpList_load_part rfl 45 _ rfl b5 0 SB _ rfl HyB.out Tryd.underlying45 rfl (by rw [HSBl.out]; exact Tryd.size45) ?_)
                    | (go_at_call 18; (with_reducible refine (HPb.out _ HW3.out).mono ?_); rintro e q4 ⟨rfl, hg1⟩; have HW4 := hid (gtrans HW3.out hg1); have HG4 := hid hg1; clear hg1)
                    | (refine wpList_alloc_row rfl 26 rfl y32 Tryd.zero26 ?_; intro q5 B2 s2 g2; have HD5 := hid B2; have HW5 := hid (gtrans HW4.out g2); have HG5 := hid (gtrans HG4.out g2); clear B2 g2 s2)
                    | (refine wpList_store_all rfl 26 _ _ rfl q4.heap.size y32 CB 26 rfl rfl HD5.out (by rw [HCBl.out]; rfl) (by rw [HCBl.out]; exact Tryd.size26) HCB1.out ?_; intro wd B3 g3 s3; have HB11' := hid B3; have HWd := hid (HW5.out.andThen g3 (fun j hj => .inl (by injection hj with hj; have := HW4.out.size; omega))); have HG6 := hid (HG5.out.andThen g3 (fun j hj => .inl (by injection hj with hj; have := HG4.out.size; omega))); clear B3 g3 s3))
                  obtain ⟨p11, hp11⟩ : ∃ x, q4.heap.size = x := ⟨_, rfl⟩
                  rw [hp11] at HB11' ⊢
                  have HB11 := HB11'
                  have HB9 := hid (HD3.out.keep HG6.out)
                  have HXd := hid ((HXr.out.keep HG3.out).keep HG6.out)
                  have HYd := hid ((HYr.out.keep HG3.out).keep HG6.out)
                  have HAd := hid ((HBA.out.keep HG3.out).keep HG6.out)
                  have HBd := hid ((HBB.out.keep HG3.out).keep HG6.out)
                  clear hp11 HD5 HW5 HG5 HW4 HG4 z16 HyB HB11' HD3 HXr HYr HBA HBB HG3 HG6 HW3 HW HPa HPb
                  have HCpx : Hid (∀ u, wd.grownBy u none → Calls Tryd.prog 8 #[.slice xa xn xc] u fun e w' => ∃ v', e = .returned v' ∧ Out u.heap.size w' v' xl ∧ u.grownBy w' none) := fun u hu => copyR_any u _ _ _ (HXd.out.keep hu) (by have := HXL.out; omega)
                  have HCpy : Hid (∀ u, wd.grownBy u none → Calls Tryd.prog 8 #[.slice ya yn yc] u fun e w' => ∃ v', e = .returned v' ∧ Out u.heap.size w' v' yl ∧ u.grownBy w' none) := fun u hu => copyR_any u _ _ _ (HYd.out.keep hu) (by have := HXL.out; omega)
                  have HSmx : Hid (∀ (u : World) (v : Value), wd.grownBy u none → Rd u (fun _ => True) v xl → Calls Tryd.prog 9 #[v] u fun e w' => e = .returned (.agg CA.toArray) ∧ u.grownBy w' none) := fun u v hu h => by
                    rw [← HCA.out, ← HSx.out]
                    exact dsum_any u v _ xl h (HGl.out u (gtrans HWd.out hu)) (by have := HXL.out; omega)
                  have HSmy : Hid (∀ (u : World) (v : Value), wd.grownBy u none → Rd u (fun _ => True) v yl → Calls Tryd.prog 9 #[v] u fun e w' => e = .returned (.agg CB.toArray) ∧ u.grownBy w' none) := fun u v hu h => by
                    rw [← HCB.out, ← HSy.out]
                    exact dsum_any u v _ yl h (HGl.out u (gtrans HWd.out hu)) (by have := HXL.out; omega)
                  have HNeA : Hid (∀ (x y : Operand) (u : World), (do eqGuard .neq 26 x y (.agg CA.toArray) (.agg CA.toArray); binOp .neq 26 (.agg CA.toArray) (.agg CA.toArray) : Sem Value).run Tryd.prog u = .ok (.bool false) u) := fun x y u => by
                    rw [← HCA.out, neqG_32]
                    exact neq_self _ HDAl.out u
                  have HNeB : Hid (∀ (x y : Operand) (u : World), (do eqGuard .neq 26 x y (.agg CB.toArray) (.agg CB.toArray); binOp .neq 26 (.agg CB.toArray) (.agg CB.toArray) : Sem Value).run Tryd.prog u = .ok (.bool false) u) := fun x y u => by
                    rw [← HCB.out, neqG_32]
                    exact neq_self _ HDBl.out u
                  refine wp_region_list (by kernel_rfl) [fun v _ => v = (Value.int .i64 0), fun v _ => v = (Value.int .i64 0), fun v _ => v = (Value.bool false), fun v _ => v = (Value.bool false), fun v _ => v = (Value.int .i64 0), fun v _ => v = (Value.int .i64 0), fun v _ => v = (Value.bool false), fun v _ => v = (Value.bool false), fun v _ => v = (Value.bool false), fun v _ => v = (Value.agg CA.toArray), fun v _ => v = (Value.slice xa xn xc), fun v u => ∃ z, v = z ∧ Rd u (fun _ => True) z xl, fun v _ => v = (Value.agg CA.toArray), fun v _ => v = (Value.bool false), fun v _ => v = (Value.bool false), fun v _ => v = (Value.bool false), fun v _ => v = (Value.agg CB.toArray), fun v _ => v = (Value.slice ya yn yc), fun v u => ∃ z, v = z ∧ Rd u (fun _ => True) z yl, fun v _ => v = (Value.agg CB.toArray), fun v _ => v = (Value.bool false), fun v _ => v = (Value.bool false)] (none) (fun _ => none) 22 (by kernel_rfl) (by kernel_rfl) (by kernel_rfl) (by kernel_rfl) (by decide) noRow_one (fun _ => .inl rfl) ⟨fun i v u u' hki h hg => h, fun i v u u' hki h hg => h, fun i v u u' hki h hg => h, fun i v u u' hki h hg => h, fun i v u u' hki h hg => h, fun i v u u' hki h hg => h, fun i v u u' hki h hg => h, fun i v u u' hki h hg => h, fun i v u u' hki h hg => h, fun i v u u' hki h hg => h, fun i v u u' hki h hg => h, fun i v u u' hki h hg => (by obtain ⟨z, rfl, h1⟩ := h; exact ⟨_, rfl, h1.keep hg⟩), fun i v u u' hki h hg => h, fun i v u u' hki h hg => h, fun i v u u' hki h hg => h, fun i v u u' hki h hg => h, fun i v u u' hki h hg => h, fun i v u u' hki h hg => h, fun i v u u' hki h hg => (by obtain ⟨z, rfl, h1⟩ := h; exact ⟨_, rfl, h1.keep hg⟩), fun i v u u' hki h hg => h, fun i v u u' hki h hg => h, fun i v u u' hki h hg => h, trivial⟩ ⟨?_, ?_, ?_, ?_, ?_, ?_, ?_, ?_, ?_, ?_, ?_, ?_, ?_, ?_, ?_, ?_, ?_, ?_, ?_, ?_, ?_, ?_, trivial⟩ ?_
                  · intro A u hu hpu hsz hout hdeps
                    have e10 : A.eval (.tmp 10) = (.int .i64 0) := (hout 10 (by kernel_rfl)).trans rfl
                    refine ifw_none rfl ?_
                    with_reducible refine shown_q (Value.int .i64 0) ?qq_1q_0 (fun _ _ => ?qr_1q_0)
                    case qr_1q_0 => exact (rfl : (Value.int .i64 0) = (Value.int .i64 0))
                    with_reducible refine quietAt_mv (.tmp 10) (Value.int .i64 0) ?h0_1q_0 ?h1_1q_0
                    case h0_1q_0 => rfl
                    case h1_1q_0 => exact e10
                  · intro A u hu hpu hsz hout hdeps
                    have e82 : A.eval (.tmp 82) = (.int .i64 0) := by have h := depL hdeps 0 (by kernel_rfl) 82 (by kernel_rfl); exact h
                    refine ifw_none rfl ?_
                    with_reducible refine shown_q (Value.int .i64 0) ?qq_1q_1 (fun _ _ => ?qr_1q_1)
                    case qr_1q_1 => exact (rfl : (Value.int .i64 0) = (Value.int .i64 0))
                    with_reducible refine quietAt_call 19 Tryd.f19 ?h0_1q_1 ?h1_1q_1 ?h2_1q_1 #[.tmp 82] #[49] ?h3_1q_1 (Value.int .i64 0) #[(Value.int .i64 0)] ?h4_1q_1 ?h5_1q_1
                    case h0_1q_1 => exact Tryd.func19
                    case h1_1q_1 => kernel_rfl
                    case h2_1q_1 => kernel_rfl
                    case h3_1q_1 => rfl
                    case h4_1q_1 => exact map1 _ _ _ e82
                    case h5_1q_1 => exact (HNum.out u)
                  · intro A u hu hpu hsz hout hdeps
                    have e83 : A.eval (.tmp 83) = (.int .i64 0) := by have h := depL hdeps 1 (by kernel_rfl) 83 (by kernel_rfl); exact h
                    refine ifw_none rfl ?_
                    with_reducible refine shown_q (Value.bool false) ?qq_1q_2 (fun _ _ => ?qr_1q_2)
                    case qr_1q_2 => exact (rfl : (Value.bool false) = (Value.bool false))
                    with_reducible refine quietAt_bin .neq 3 (.tmp 83) (.const (.int .i64 0)) 3 (Value.int .i64 0) (Value.int .i64 0) (Value.bool false) ?h0_1q_2 ?h1_1q_2 ?h2_1q_2 ?h3_1q_2
                    case h0_1q_2 => rfl
                    case h1_1q_2 => exact e83
                    case h2_1q_2 => exact rfl
                    case h3_1q_2 => exact (neq3 _ _ u)
                  · intro A u hu hpu hsz hout hdeps
                    have e84 : A.eval (.tmp 84) = (.bool false) := by have h := depL hdeps 2 (by kernel_rfl) 84 (by kernel_rfl); exact h
                    refine ifw_none rfl ?_
                    with_reducible refine shown_q (Value.bool false) ?qq_1q_3 (fun _ _ => ?qr_1q_3)
                    case qr_1q_3 => exact (rfl : (Value.bool false) = (Value.bool false))
                    with_reducible refine quietAt_mv (.tmp 84) (Value.bool false) ?h0_1q_3 ?h1_1q_3
                    case h0_1q_3 => rfl
                    case h1_1q_3 => exact e84
                  · intro A u hu hpu hsz hout hdeps
                    have e85 : A.eval (.tmp 85) = (.bool false) := by have h := depL hdeps 3 (by kernel_rfl) 85 (by kernel_rfl); exact h
                    have e12 : A.eval (.tmp 12) = (.int .i64 0) := (hout 12 (by kernel_rfl)).trans rfl
                    refine ifw_want 3 false 85 rfl rfl e85 ?_
                    with_reducible refine shown_q (Value.int .i64 0) ?qq_1q_4 (fun _ _ => ?qr_1q_4)
                    case qr_1q_4 => exact (rfl : (Value.int .i64 0) = (Value.int .i64 0))
                    with_reducible refine quietAt_mv (.tmp 12) (Value.int .i64 0) ?h0_1q_4 ?h1_1q_4
                    case h0_1q_4 => rfl
                    case h1_1q_4 => exact e12
                  · intro A u hu hpu hsz hout hdeps
                    have e85 : A.eval (.tmp 85) = (.bool false) := by have h := depL hdeps 3 (by kernel_rfl) 85 (by kernel_rfl); exact h
                    have e86 : A.eval (.tmp 86) = (.int .i64 0) := by have h := depL hdeps 4 (by kernel_rfl) 86 (by kernel_rfl); exact h
                    refine ifw_want 3 false 85 rfl rfl e85 ?_
                    with_reducible refine shown_q (Value.int .i64 0) ?qq_1q_5 (fun _ _ => ?qr_1q_5)
                    case qr_1q_5 => exact (rfl : (Value.int .i64 0) = (Value.int .i64 0))
                    with_reducible refine quietAt_call 19 Tryd.f19 ?h0_1q_5 ?h1_1q_5 ?h2_1q_5 #[.tmp 86] #[49] ?h3_1q_5 (Value.int .i64 0) #[(Value.int .i64 0)] ?h4_1q_5 ?h5_1q_5
                    case h0_1q_5 => exact Tryd.func19
                    case h1_1q_5 => kernel_rfl
                    case h2_1q_5 => kernel_rfl
                    case h3_1q_5 => rfl
                    case h4_1q_5 => exact map1 _ _ _ e86
                    case h5_1q_5 => exact (HNum.out u)
                  · intro A u hu hpu hsz hout hdeps
                    have e85 : A.eval (.tmp 85) = (.bool false) := by have h := depL hdeps 3 (by kernel_rfl) 85 (by kernel_rfl); exact h
                    have e87 : A.eval (.tmp 87) = (.int .i64 0) := by have h := depL hdeps 5 (by kernel_rfl) 87 (by kernel_rfl); exact h
                    refine ifw_want 3 false 85 rfl rfl e85 ?_
                    with_reducible refine shown_q (Value.bool false) ?qq_1q_6 (fun _ _ => ?qr_1q_6)
                    case qr_1q_6 => exact (rfl : (Value.bool false) = (Value.bool false))
                    with_reducible refine quietAt_bin .neq 3 (.tmp 87) (.const (.int .i64 0)) 3 (Value.int .i64 0) (Value.int .i64 0) (Value.bool false) ?h0_1q_6 ?h1_1q_6 ?h2_1q_6 ?h3_1q_6
                    case h0_1q_6 => rfl
                    case h1_1q_6 => exact e87
                    case h2_1q_6 => exact rfl
                    case h3_1q_6 => exact (neq3 _ _ u)
                  · intro A u hu hpu hsz hout hdeps
                    have e85 : A.eval (.tmp 85) = (.bool false) := by have h := depL hdeps 3 (by kernel_rfl) 85 (by kernel_rfl); exact h
                    have e88 : A.eval (.tmp 88) = (.bool false) := by have h := depL hdeps 6 (by kernel_rfl) 88 (by kernel_rfl); exact h
                    refine ifw_none rfl ?_
                    with_reducible refine shown_q (Value.bool false) ?qq_1q_7 (fun _ _ => ?qr_1q_7)
                    case qr_1q_7 => exact (rfl : (Value.bool false) = (Value.bool false))
                    with_reducible refine quietAt_pick (.tmp 85) (.const (.bool true)) (.tmp 88) false (Value.bool false) ?h0_1q_7 ?h1_1q_7 ?h2_1q_7
                    case h0_1q_7 => rfl
                    case h1_1q_7 => exact e85
                    case h2_1q_7 => rw [if_neg (by decide)]; exact e88
                  · intro A u hu hpu hsz hout hdeps
                    have e89 : A.eval (.tmp 89) = (.bool false) := by have h := depL hdeps 7 (by kernel_rfl) 89 (by kernel_rfl); exact h
                    refine ifw_none rfl ?_
                    with_reducible refine shown_q (Value.bool false) ?qq_1q_8 (fun _ _ => ?qr_1q_8)
                    case qr_1q_8 => exact (rfl : (Value.bool false) = (Value.bool false))
                    with_reducible refine quietAt_mv (.tmp 89) (Value.bool false) ?h0_1q_8 ?h1_1q_8
                    case h0_1q_8 => rfl
                    case h1_1q_8 => exact e89
                  · intro A u hu hpu hsz hout hdeps
                    have e90 : A.eval (.tmp 90) = (.bool false) := by have h := depL hdeps 8 (by kernel_rfl) 90 (by kernel_rfl); exact h
                    have e9 : A.eval (.tmp 9) = (.pointer (some ⟨p9, 0, none⟩)) := (hout 9 (by kernel_rfl)).trans rfl
                    refine ifw_want 8 false 90 rfl rfl e90 ?_
                    with_reducible refine shown_q (Value.agg CA.toArray) ?qq_1q_9 (fun _ _ => ?qr_1q_9)
                    case qr_1q_9 => exact (rfl : (Value.agg CA.toArray) = (Value.agg CA.toArray))
                    with_reducible refine quietAt_load 26 (.tmp 9) ?h0_1q_9 p9 0 CA (.array 32 5) ?h1_1q_9 ?h2_1q_9 ?h3_1q_9 ?h4_1q_9 ?h5_1q_9
                    case h0_1q_9 => rfl
                    case h1_1q_9 => exact e9
                    case h2_1q_9 => exact (HB9.out.keep hu).whole
                    case h3_1q_9 => exact Tryd.underlying26
                    case h4_1q_9 => rfl
                    case h5_1q_9 => exact (by rw [HCAl.out]; exact Tryd.size26)
                  · intro A u hu hpu hsz hout hdeps
                    have e90 : A.eval (.tmp 90) = (.bool false) := by have h := depL hdeps 8 (by kernel_rfl) 90 (by kernel_rfl); exact h
                    have e6 : A.eval (.tmp 6) = (.slice xa xn xc) := (hout 6 (by kernel_rfl)).trans rfl
                    refine ifw_want 8 false 90 rfl rfl e90 ?_
                    with_reducible refine shown_q (Value.slice xa xn xc) ?qq_1q_10 (fun _ _ => ?qr_1q_10)
                    case qr_1q_10 => exact (rfl : (Value.slice xa xn xc) = (Value.slice xa xn xc))
                    with_reducible refine quietAt_mv (.tmp 6) (Value.slice xa xn xc) ?h0_1q_10 ?h1_1q_10
                    case h0_1q_10 => rfl
                    case h1_1q_10 => exact e6
                  · intro A u hu hpu hsz hout hdeps
                    have e90 : A.eval (.tmp 90) = (.bool false) := by have h := depL hdeps 8 (by kernel_rfl) 90 (by kernel_rfl); exact h
                    have e92 : A.eval (.tmp 92) = (.slice xa xn xc) := by have h := depL hdeps 10 (by kernel_rfl) 92 (by kernel_rfl); exact h
                    refine ifw_want 8 false 90 rfl rfl e90 ?_
                    with_reducible refine shown_call 8 Tryd.f8 ?h0_1q_11 ?h1_1q_11 ?h2_1q_11 #[.tmp 92] #[25] ?h3_1q_11 #[(Value.slice xa xn xc)] ?h4_1q_11 ?h5_1q_11
                    case h0_1q_11 => exact Tryd.func8
                    case h1_1q_11 => kernel_rfl
                    case h2_1q_11 => kernel_rfl
                    case h3_1q_11 => rfl
                    case h4_1q_11 => exact map1 _ _ _ e92
                    case h5_1q_11 => exact (HCpx.out u hu).mono fun e w' ⟨v', he, ho, hg⟩ => ⟨v', he, hg, v', rfl, ho.rd.mono (fun _ _ _ => trivial)⟩
                  · intro A u hu hpu hsz hout hdeps
                    have e90 : A.eval (.tmp 90) = (.bool false) := by have h := depL hdeps 8 (by kernel_rfl) 90 (by kernel_rfl); exact h
                    have f93 : (fun v u => ∃ z, v = z ∧ Rd u (fun _ => True) z xl) (A.eval (.tmp 93)) u := by have h := depL hdeps 11 (by kernel_rfl) 93 (by kernel_rfl); exact h
                    obtain ⟨Vx, e93, HVx⟩ := f93
                    refine ifw_want 8 false 90 rfl rfl e90 ?_
                    with_reducible refine shown_q (Value.agg CA.toArray) ?qq_1q_12 (fun _ _ => ?qr_1q_12)
                    case qr_1q_12 => exact (rfl : (Value.agg CA.toArray) = (Value.agg CA.toArray))
                    with_reducible refine quietAt_call 9 Tryd.f9 ?h0_1q_12 ?h1_1q_12 ?h2_1q_12 #[.tmp 93] #[25] ?h3_1q_12 (Value.agg CA.toArray) #[Vx] ?h4_1q_12 ?h5_1q_12
                    case h0_1q_12 => exact Tryd.func9
                    case h1_1q_12 => kernel_rfl
                    case h2_1q_12 => kernel_rfl
                    case h3_1q_12 => rfl
                    case h4_1q_12 => exact map1 _ _ _ e93
                    case h5_1q_12 => exact (HSmx.out u _ hu HVx)
                  · intro A u hu hpu hsz hout hdeps
                    have e90 : A.eval (.tmp 90) = (.bool false) := by have h := depL hdeps 8 (by kernel_rfl) 90 (by kernel_rfl); exact h
                    have e91 : A.eval (.tmp 91) = (.agg CA.toArray) := by have h := depL hdeps 9 (by kernel_rfl) 91 (by kernel_rfl); exact h
                    have e94 : A.eval (.tmp 94) = (.agg CA.toArray) := by have h := depL hdeps 12 (by kernel_rfl) 94 (by kernel_rfl); exact h
                    refine ifw_want 8 false 90 rfl rfl e90 ?_
                    with_reducible refine shown_q (Value.bool false) ?qq_1q_13 (fun _ _ => ?qr_1q_13)
                    case qr_1q_13 => exact (rfl : (Value.bool false) = (Value.bool false))
                    with_reducible refine quietAt_bin .neq 26 (.tmp 91) (.tmp 94) 26 (Value.agg CA.toArray) (Value.agg CA.toArray) (Value.bool false) ?h0_1q_13 ?h1_1q_13 ?h2_1q_13 ?h3_1q_13
                    case h0_1q_13 => rfl
                    case h1_1q_13 => exact e91
                    case h2_1q_13 => exact e94
                    case h3_1q_13 => exact (HNeA.out _ _ u)
                  · intro A u hu hpu hsz hout hdeps
                    have e90 : A.eval (.tmp 90) = (.bool false) := by have h := depL hdeps 8 (by kernel_rfl) 90 (by kernel_rfl); exact h
                    have e95 : A.eval (.tmp 95) = (.bool false) := by have h := depL hdeps 13 (by kernel_rfl) 95 (by kernel_rfl); exact h
                    refine ifw_none rfl ?_
                    with_reducible refine shown_q (Value.bool false) ?qq_1q_14 (fun _ _ => ?qr_1q_14)
                    case qr_1q_14 => exact (rfl : (Value.bool false) = (Value.bool false))
                    with_reducible refine quietAt_pick (.tmp 90) (.const (.bool true)) (.tmp 95) false (Value.bool false) ?h0_1q_14 ?h1_1q_14 ?h2_1q_14
                    case h0_1q_14 => rfl
                    case h1_1q_14 => exact e90
                    case h2_1q_14 => rw [if_neg (by decide)]; exact e95
                  · intro A u hu hpu hsz hout hdeps
                    have e96 : A.eval (.tmp 96) = (.bool false) := by have h := depL hdeps 14 (by kernel_rfl) 96 (by kernel_rfl); exact h
                    refine ifw_none rfl ?_
                    with_reducible refine shown_q (Value.bool false) ?qq_1q_15 (fun _ _ => ?qr_1q_15)
                    case qr_1q_15 => exact (rfl : (Value.bool false) = (Value.bool false))
                    with_reducible refine quietAt_mv (.tmp 96) (Value.bool false) ?h0_1q_15 ?h1_1q_15
                    case h0_1q_15 => rfl
                    case h1_1q_15 => exact e96
                  · intro A u hu hpu hsz hout hdeps
                    have e97 : A.eval (.tmp 97) = (.bool false) := by have h := depL hdeps 15 (by kernel_rfl) 97 (by kernel_rfl); exact h
                    have e11 : A.eval (.tmp 11) = (.pointer (some ⟨p11, 0, none⟩)) := (hout 11 (by kernel_rfl)).trans rfl
                    refine ifw_want 15 false 97 rfl rfl e97 ?_
                    with_reducible refine shown_q (Value.agg CB.toArray) ?qq_1q_16 (fun _ _ => ?qr_1q_16)
                    case qr_1q_16 => exact (rfl : (Value.agg CB.toArray) = (Value.agg CB.toArray))
                    with_reducible refine quietAt_load 26 (.tmp 11) ?h0_1q_16 p11 0 CB (.array 32 5) ?h1_1q_16 ?h2_1q_16 ?h3_1q_16 ?h4_1q_16 ?h5_1q_16
                    case h0_1q_16 => rfl
                    case h1_1q_16 => exact e11
                    case h2_1q_16 => exact (HB11.out.keep hu).whole
                    case h3_1q_16 => exact Tryd.underlying26
                    case h4_1q_16 => rfl
                    case h5_1q_16 => exact (by rw [HCBl.out]; exact Tryd.size26)
                  · intro A u hu hpu hsz hout hdeps
                    have e97 : A.eval (.tmp 97) = (.bool false) := by have h := depL hdeps 15 (by kernel_rfl) 97 (by kernel_rfl); exact h
                    have e7 : A.eval (.tmp 7) = (.slice ya yn yc) := (hout 7 (by kernel_rfl)).trans rfl
                    refine ifw_want 15 false 97 rfl rfl e97 ?_
                    with_reducible refine shown_q (Value.slice ya yn yc) ?qq_1q_17 (fun _ _ => ?qr_1q_17)
                    case qr_1q_17 => exact (rfl : (Value.slice ya yn yc) = (Value.slice ya yn yc))
                    with_reducible refine quietAt_mv (.tmp 7) (Value.slice ya yn yc) ?h0_1q_17 ?h1_1q_17
                    case h0_1q_17 => rfl
                    case h1_1q_17 => exact e7
                  · intro A u hu hpu hsz hout hdeps
                    have e97 : A.eval (.tmp 97) = (.bool false) := by have h := depL hdeps 15 (by kernel_rfl) 97 (by kernel_rfl); exact h
                    have e99 : A.eval (.tmp 99) = (.slice ya yn yc) := by have h := depL hdeps 17 (by kernel_rfl) 99 (by kernel_rfl); exact h
                    refine ifw_want 15 false 97 rfl rfl e97 ?_
                    with_reducible refine shown_call 8 Tryd.f8 ?h0_1q_18 ?h1_1q_18 ?h2_1q_18 #[.tmp 99] #[25] ?h3_1q_18 #[(Value.slice ya yn yc)] ?h4_1q_18 ?h5_1q_18
                    case h0_1q_18 => exact Tryd.func8
                    case h1_1q_18 => kernel_rfl
                    case h2_1q_18 => kernel_rfl
                    case h3_1q_18 => rfl
                    case h4_1q_18 => exact map1 _ _ _ e99
                    case h5_1q_18 => exact (HCpy.out u hu).mono fun e w' ⟨v', he, ho, hg⟩ => ⟨v', he, hg, v', rfl, ho.rd.mono (fun _ _ _ => trivial)⟩
                  · intro A u hu hpu hsz hout hdeps
                    have e97 : A.eval (.tmp 97) = (.bool false) := by have h := depL hdeps 15 (by kernel_rfl) 97 (by kernel_rfl); exact h
                    have f100 : (fun v u => ∃ z, v = z ∧ Rd u (fun _ => True) z yl) (A.eval (.tmp 100)) u := by have h := depL hdeps 18 (by kernel_rfl) 100 (by kernel_rfl); exact h
                    obtain ⟨Vy, e100, HVy⟩ := f100
                    refine ifw_want 15 false 97 rfl rfl e97 ?_
                    with_reducible refine shown_q (Value.agg CB.toArray) ?qq_1q_19 (fun _ _ => ?qr_1q_19)
                    case qr_1q_19 => exact (rfl : (Value.agg CB.toArray) = (Value.agg CB.toArray))
                    with_reducible refine quietAt_call 9 Tryd.f9 ?h0_1q_19 ?h1_1q_19 ?h2_1q_19 #[.tmp 100] #[25] ?h3_1q_19 (Value.agg CB.toArray) #[Vy] ?h4_1q_19 ?h5_1q_19
                    case h0_1q_19 => exact Tryd.func9
                    case h1_1q_19 => kernel_rfl
                    case h2_1q_19 => kernel_rfl
                    case h3_1q_19 => rfl
                    case h4_1q_19 => exact map1 _ _ _ e100
                    case h5_1q_19 => exact (HSmy.out u _ hu HVy)
                  · intro A u hu hpu hsz hout hdeps
                    have e97 : A.eval (.tmp 97) = (.bool false) := by have h := depL hdeps 15 (by kernel_rfl) 97 (by kernel_rfl); exact h
                    have e98 : A.eval (.tmp 98) = (.agg CB.toArray) := by have h := depL hdeps 16 (by kernel_rfl) 98 (by kernel_rfl); exact h
                    have e101 : A.eval (.tmp 101) = (.agg CB.toArray) := by have h := depL hdeps 19 (by kernel_rfl) 101 (by kernel_rfl); exact h
                    refine ifw_want 15 false 97 rfl rfl e97 ?_
                    with_reducible refine shown_q (Value.bool false) ?qq_1q_20 (fun _ _ => ?qr_1q_20)
                    case qr_1q_20 => exact (rfl : (Value.bool false) = (Value.bool false))
                    with_reducible refine quietAt_bin .neq 26 (.tmp 98) (.tmp 101) 26 (Value.agg CB.toArray) (Value.agg CB.toArray) (Value.bool false) ?h0_1q_20 ?h1_1q_20 ?h2_1q_20 ?h3_1q_20
                    case h0_1q_20 => rfl
                    case h1_1q_20 => exact e98
                    case h2_1q_20 => exact e101
                    case h3_1q_20 => exact (HNeB.out _ _ u)
                  · intro A u hu hpu hsz hout hdeps
                    have e97 : A.eval (.tmp 97) = (.bool false) := by have h := depL hdeps 15 (by kernel_rfl) 97 (by kernel_rfl); exact h
                    have e102 : A.eval (.tmp 102) = (.bool false) := by have h := depL hdeps 20 (by kernel_rfl) 102 (by kernel_rfl); exact h
                    refine ifw_none rfl ?_
                    with_reducible refine shown_q (Value.bool false) ?qq_1q_21 (fun _ _ => ?qr_1q_21)
                    case qr_1q_21 => exact (rfl : (Value.bool false) = (Value.bool false))
                    with_reducible refine quietAt_pick (.tmp 97) (.const (.bool true)) (.tmp 102) false (Value.bool false) ?h0_1q_21 ?h1_1q_21 ?h2_1q_21
                    case h0_1q_21 => rfl
                    case h1_1q_21 => exact e97
                    case h2_1q_21 => rw [if_neg (by decide)]; exact e102
                  · intro A u14 listed hh hall
                    have hA := hh.frame
                    have HU := hid hh.grown
                    obtain ⟨x82, hx82⟩ : ∃ x, A.eval (.tmp 82) = x := ⟨_, rfl⟩
                    have f82 : (fun v _ => v = (Value.int .i64 0)) x82 u14 := by rw [← hx82]; exact hh.got 0 _ 82 rfl rfl (hall 0 (by decide))
                    obtain ⟨x83, hx83⟩ : ∃ x, A.eval (.tmp 83) = x := ⟨_, rfl⟩
                    have f83 : (fun v _ => v = (Value.int .i64 0)) x83 u14 := by rw [← hx83]; exact hh.got 1 _ 83 rfl rfl (hall 1 (by decide))
                    obtain ⟨x84, hx84⟩ : ∃ x, A.eval (.tmp 84) = x := ⟨_, rfl⟩
                    have f84 : (fun v _ => v = (Value.bool false)) x84 u14 := by rw [← hx84]; exact hh.got 2 _ 84 rfl rfl (hall 2 (by decide))
                    obtain ⟨x85, hx85⟩ : ∃ x, A.eval (.tmp 85) = x := ⟨_, rfl⟩
                    have f85 : (fun v _ => v = (Value.bool false)) x85 u14 := by rw [← hx85]; exact hh.got 3 _ 85 rfl rfl (hall 3 (by decide))
                    obtain ⟨x86, hx86⟩ : ∃ x, A.eval (.tmp 86) = x := ⟨_, rfl⟩
                    have f86 : (fun v _ => v = (Value.int .i64 0)) x86 u14 := by rw [← hx86]; exact hh.got 4 _ 86 rfl rfl (hall 4 (by decide))
                    obtain ⟨x87, hx87⟩ : ∃ x, A.eval (.tmp 87) = x := ⟨_, rfl⟩
                    have f87 : (fun v _ => v = (Value.int .i64 0)) x87 u14 := by rw [← hx87]; exact hh.got 5 _ 87 rfl rfl (hall 5 (by decide))
                    obtain ⟨x88, hx88⟩ : ∃ x, A.eval (.tmp 88) = x := ⟨_, rfl⟩
                    have f88 : (fun v _ => v = (Value.bool false)) x88 u14 := by rw [← hx88]; exact hh.got 6 _ 88 rfl rfl (hall 6 (by decide))
                    obtain ⟨x89, hx89⟩ : ∃ x, A.eval (.tmp 89) = x := ⟨_, rfl⟩
                    have f89 : (fun v _ => v = (Value.bool false)) x89 u14 := by rw [← hx89]; exact hh.got 7 _ 89 rfl rfl (hall 7 (by decide))
                    obtain ⟨x90, hx90⟩ : ∃ x, A.eval (.tmp 90) = x := ⟨_, rfl⟩
                    have f90 : (fun v _ => v = (Value.bool false)) x90 u14 := by rw [← hx90]; exact hh.got 8 _ 90 rfl rfl (hall 8 (by decide))
                    obtain ⟨x91, hx91⟩ : ∃ x, A.eval (.tmp 91) = x := ⟨_, rfl⟩
                    have f91 : (fun v _ => v = (Value.agg CA.toArray)) x91 u14 := by rw [← hx91]; exact hh.got 9 _ 91 rfl rfl (hall 9 (by decide))
                    obtain ⟨x92, hx92⟩ : ∃ x, A.eval (.tmp 92) = x := ⟨_, rfl⟩
                    have f92 : (fun v _ => v = (Value.slice xa xn xc)) x92 u14 := by rw [← hx92]; exact hh.got 10 _ 92 rfl rfl (hall 10 (by decide))
                    obtain ⟨x93, hx93⟩ : ∃ x, A.eval (.tmp 93) = x := ⟨_, rfl⟩
                    have f93 : (fun v u => ∃ z, v = z ∧ Rd u (fun _ => True) z xl) x93 u14 := by rw [← hx93]; exact hh.got 11 _ 93 rfl rfl (hall 11 (by decide))
                    obtain ⟨x94, hx94⟩ : ∃ x, A.eval (.tmp 94) = x := ⟨_, rfl⟩
                    have f94 : (fun v _ => v = (Value.agg CA.toArray)) x94 u14 := by rw [← hx94]; exact hh.got 12 _ 94 rfl rfl (hall 12 (by decide))
                    obtain ⟨x95, hx95⟩ : ∃ x, A.eval (.tmp 95) = x := ⟨_, rfl⟩
                    have f95 : (fun v _ => v = (Value.bool false)) x95 u14 := by rw [← hx95]; exact hh.got 13 _ 95 rfl rfl (hall 13 (by decide))
                    obtain ⟨x96, hx96⟩ : ∃ x, A.eval (.tmp 96) = x := ⟨_, rfl⟩
                    have f96 : (fun v _ => v = (Value.bool false)) x96 u14 := by rw [← hx96]; exact hh.got 14 _ 96 rfl rfl (hall 14 (by decide))
                    obtain ⟨x97, hx97⟩ : ∃ x, A.eval (.tmp 97) = x := ⟨_, rfl⟩
                    have f97 : (fun v _ => v = (Value.bool false)) x97 u14 := by rw [← hx97]; exact hh.got 15 _ 97 rfl rfl (hall 15 (by decide))
                    obtain ⟨x98, hx98⟩ : ∃ x, A.eval (.tmp 98) = x := ⟨_, rfl⟩
                    have f98 : (fun v _ => v = (Value.agg CB.toArray)) x98 u14 := by rw [← hx98]; exact hh.got 16 _ 98 rfl rfl (hall 16 (by decide))
                    obtain ⟨x99, hx99⟩ : ∃ x, A.eval (.tmp 99) = x := ⟨_, rfl⟩
                    have f99 : (fun v _ => v = (Value.slice ya yn yc)) x99 u14 := by rw [← hx99]; exact hh.got 17 _ 99 rfl rfl (hall 17 (by decide))
                    obtain ⟨x100, hx100⟩ : ∃ x, A.eval (.tmp 100) = x := ⟨_, rfl⟩
                    have f100 : (fun v u => ∃ z, v = z ∧ Rd u (fun _ => True) z yl) x100 u14 := by rw [← hx100]; exact hh.got 18 _ 100 rfl rfl (hall 18 (by decide))
                    obtain ⟨x101, hx101⟩ : ∃ x, A.eval (.tmp 101) = x := ⟨_, rfl⟩
                    have f101 : (fun v _ => v = (Value.agg CB.toArray)) x101 u14 := by rw [← hx101]; exact hh.got 19 _ 101 rfl rfl (hall 19 (by decide))
                    obtain ⟨x102, hx102⟩ : ∃ x, A.eval (.tmp 102) = x := ⟨_, rfl⟩
                    have f102 : (fun v _ => v = (Value.bool false)) x102 u14 := by rw [← hx102]; exact hh.got 20 _ 102 rfl rfl (hall 20 (by decide))
                    obtain ⟨x103, hx103⟩ : ∃ x, A.eval (.tmp 103) = x := ⟨_, rfl⟩
                    have f103 : (fun v _ => v = (Value.bool false)) x103 u14 := by rw [← hx103]; exact hh.got 21 _ 103 rfl rfl (hall 21 (by decide))
                    dsimp only [wrote, List.foldl] at hA
                    rw [hx82, hx83, hx84, hx85, hx86, hx87, hx88, hx89, hx90, hx91, hx92, hx93, hx94, hx95, hx96, hx97, hx98, hx99, hx100, hx101, hx102, hx103] at hA
                    clear hh hall hx82 hx83 hx84 hx85 hx86 hx87 hx88 hx89 hx90 hx91 hx92 hx93 hx94 hx95 hx96 hx97 hx98 hx99 hx100 hx101 hx102 hx103
                    replace f82 := (f82 : x82 = (.int .i64 0))
                    subst f82
                    replace f83 := (f83 : x83 = (.int .i64 0))
                    subst f83
                    replace f84 := (f84 : x84 = (.bool false))
                    subst f84
                    replace f85 := (f85 : x85 = (.bool false))
                    subst f85
                    replace f86 := (f86 : x86 = (.int .i64 0))
                    subst f86
                    replace f87 := (f87 : x87 = (.int .i64 0))
                    subst f87
                    replace f88 := (f88 : x88 = (.bool false))
                    subst f88
                    replace f89 := (f89 : x89 = (.bool false))
                    subst f89
                    replace f90 := (f90 : x90 = (.bool false))
                    subst f90
                    replace f91 := (f91 : x91 = (.agg CA.toArray))
                    subst f91
                    replace f92 := (f92 : x92 = (.slice xa xn xc))
                    subst f92
                    obtain ⟨Vx, e93, HVx⟩ := f93
                    subst e93
                    replace f94 := (f94 : x94 = (.agg CA.toArray))
                    subst f94
                    replace f95 := (f95 : x95 = (.bool false))
                    subst f95
                    replace f96 := (f96 : x96 = (.bool false))
                    subst f96
                    replace f97 := (f97 : x97 = (.bool false))
                    subst f97
                    replace f98 := (f98 : x98 = (.agg CB.toArray))
                    subst f98
                    replace f99 := (f99 : x99 = (.slice ya yn yc))
                    subst f99
                    obtain ⟨Vy, e100, HVy⟩ := f100
                    subst e100
                    replace f101 := (f101 : x101 = (.agg CB.toArray))
                    subst f101
                    replace f102 := (f102 : x102 = (.bool false))
                    subst f102
                    replace f103 := (f103 : x103 = (.bool false))
                    subst f103
                    subst hA
                    show wpList _ _ _ [] _ _
                    unfold wpList
                    simp only [Act.put, List.setIfInBounds_toArray, List.set_cons_succ, List.set_cons_zero]
                    have HT14 := hid HU.out
                    clear HU HCpx HCpy HSmx HSmy HNeA HNeB
                    have HB9' := hid (HB9.out.keep HT14.out)
                    have HB11' := hid (HB11.out.keep HT14.out)
                    have HXe := hid (HXd.out.keep HT14.out)
                    have HYe := hid (HYd.out.keep HT14.out)
                    have HAe := hid (HAd.out.keep HT14.out)
                    have HBe := hid (HBd.out.keep HT14.out)
                    have HWe := hid (gtrans HWd.out HT14.out)
                    clear HB9 HB11 HXd HYd HAd HBd HWd
                    have HEq : Hid (∀ (x y : Operand) (u : World), (do eqGuard .eql 26 x y (.agg CA.toArray) (.agg CB.toArray); binOp .eql 26 (.agg CA.toArray) (.agg CB.toArray) : Sem Value).run Tryd.prog u = .ok (.bool (DA == DB)) u) := fun x y u => by
                      rw [← HCA.out, ← HCB.out, neqG_32]
                      exact eql_32 DA DB HDAl.out HDBl.out u
                    obtain ⟨ed, Hed⟩ : ∃ x, Hid ((DA == DB) = x) := ⟨_, hid rfl⟩
                    rw [Hed.out] at HEq
                    cases ed with
                    | true =>
                      have HEy : Hid (∀ u, u14.grownBy u none → Calls Tryd.prog 20 #[.slice xa xn xc, .slice ya yn yc] u fun e w' => e = .returned (.bool false) ∧ u.grownBy w' none) := fun u hu => by
                        have := eq_any u (.slice xa xn xc) (.slice ya yn yc) _ _ xl yl (HXe.out.keep hu) (HYe.out.keep hu) (by have := HXL.out; omega)
                        rw [decide_eq_false HXY.out] at this
                        exact this.mono fun e w' ⟨he, m, hm⟩ => ⟨he, by rw [hm]; exact gdrew _ _ _⟩
                      go_wp2_with (first
                        | (refine wpList_load_part rfl 26 _ rfl p9 0 CA _ rfl HB9'.out.whole Tryd.underlying26 rfl (by rw [HCAl.out]; exact Tryd.size26) ?_)
                        | (refine wpList_load_part rfl 26 _ rfl p11 0 CB _ rfl HB11'.out.whole Tryd.underlying26 rfl (by rw [HCBl.out]; exact Tryd.size26) ?_)
                        | (with_reducible refine wpList_bin (by with_unfolding_all rfl) .eql 26 _ _ _ (by with_unfolding_all rfl) _ _ _ (by with_unfolding_all rfl) (by with_unfolding_all rfl) (HEq.out _ _ _) ?_)
                        | (go_at_call 20; (with_reducible refine (HEy.out _ (grefl _ _)).mono ?_); rintro e u15 ⟨rfl, hg15⟩; have HT15 := hid (gtrans HWe.out hg15); clear hg15)
                        | (go_at_call 12; (with_reducible refine (HWk.out _ HT15.out).mono ?_); rintro e w9 ⟨rfl, hg9⟩; have HG9 := hid hg9; clear hg9))
                      go_ret
                      exact ⟨rfl, gtrans HT15.out HG9.out⟩
                    | false =>
                      have HDne : Hid (DA ≠ DB) := hid (fun e => by have := Hed.out; rw [e] at this; simp at this)
                      go_upto_region 20 with (first
                        | (refine wpList_load_part rfl 26 _ rfl p9 0 CA _ rfl HB9'.out.whole Tryd.underlying26 rfl (by rw [HCAl.out]; exact Tryd.size26) ?_)
                        | (refine wpList_load_part rfl 26 _ rfl p11 0 CB _ rfl HB11'.out.whole Tryd.underlying26 rfl (by rw [HCBl.out]; exact Tryd.size26) ?_)
                        | (with_reducible refine wpList_bin (by with_unfolding_all rfl) .eql 26 _ _ _ (by with_unfolding_all rfl) _ _ _ (by with_unfolding_all rfl) (by with_unfolding_all rfl) (HEq.out _ _ _) ?_))
                      clear HEq
                      obtain ⟨wq, hwq⟩ : ∃ x, x = wd := ⟨_, rfl⟩
                      subst hwq
                      obtain ⟨wd, hwd⟩ : ∃ x, x = u14 := ⟨_, rfl⟩
                      subst hwd
                      have HCd : Hid (∀ u, wd.grownBy u none → Calls Tryd.prog 8 #[.slice (some ⟨p9, 0, none⟩) 32 32] u fun e w' => ∃ v', e = .returned v' ∧ Out u.heap.size w' v' DA ∧ u.grownBy w' none) := fun u hu => copyR_any u _ _ DA ((HB9'.out.keep hu).rdn HCA.out HDAl.out) (by rw [HDAl.out]; decide)
                      refine wp_region_list (by kernel_rfl) [fun v _ => v = (Value.slice (some ⟨p9, 0, none⟩) 32 32), fun v u => ∃ z, v = z ∧ Out wd.heap.size u z DA, fun v _ => v = (Value.pointer (some ⟨b4, 0, none⟩)), fun v _ => v = (Value.slice (some ⟨b4, 0, none⟩) 16 16)] (none) (fun _ => none) 4 (by kernel_rfl) (by kernel_rfl) (by kernel_rfl) (by kernel_rfl) (by decide) noRow_one (fun _ => .inl rfl) ⟨fun i v u u' hki h hg => h, fun i v u u' hki h hg => (by obtain ⟨z, rfl, h1⟩ := h; exact ⟨_, rfl, h1.keep hg⟩), fun i v u u' hki h hg => h, fun i v u u' hki h hg => h, trivial⟩ ⟨?_, ?_, ?_, ?_, trivial⟩ ?_
                      · intro A u hu hpu hsz hout hdeps
                        have e9 : A.eval (.tmp 9) = (.pointer (some ⟨p9, 0, none⟩)) := (hout 9 (by kernel_rfl)).trans rfl
                        refine ifw_none rfl ?_
                        with_reducible refine shown_q (Value.slice (some ⟨p9, 0, none⟩) 32 32) ?qq_2q_0 (fun _ _ => ?qr_2q_0)
                        case qr_2q_0 => exact (rfl : (Value.slice (some ⟨p9, 0, none⟩) 32 32) = (Value.slice (some ⟨p9, 0, none⟩) 32 32))
                        with_reducible refine quietAt_slice0 26 (.tmp 9) (Value.pointer (some ⟨p9, 0, none⟩)) (Value.slice (some ⟨p9, 0, none⟩) 32 32) ?h0_2q_0 ?h1_2q_0 ?h2_2q_0
                        case h0_2q_0 => rfl
                        case h1_2q_0 => exact e9
                        case h2_2q_0 => exact (arr24 p9 u)
                      · intro A u hu hpu hsz hout hdeps
                        have e111 : A.eval (.tmp 111) = (.slice (some ⟨p9, 0, none⟩) 32 32) := by have h := depL hdeps 0 (by kernel_rfl) 111 (by kernel_rfl); exact h
                        refine ifw_none rfl ?_
                        with_reducible refine shown_call 8 Tryd.f8 ?h0_2q_1 ?h1_2q_1 ?h2_2q_1 #[.tmp 111] #[25] ?h3_2q_1 #[(Value.slice (some ⟨p9, 0, none⟩) 32 32)] ?h4_2q_1 ?h5_2q_1
                        case h0_2q_1 => exact Tryd.func8
                        case h1_2q_1 => kernel_rfl
                        case h2_2q_1 => kernel_rfl
                        case h3_2q_1 => rfl
                        case h4_2q_1 => exact map1 _ _ _ e111
                        case h5_2q_1 => exact (HCd.out u hu).mono fun e w' ⟨v', he, ho, hg⟩ => ⟨v', he, hg, v', rfl, ho.below hu.size⟩
                      · intro A u hu hpu hsz hout hdeps
                        have e4 : A.eval (.tmp 4) = (.pointer (some ⟨b4, 0, none⟩)) := (hout 4 (by kernel_rfl)).trans rfl
                        refine ifw_none rfl ?_
                        with_reducible refine shown_q (Value.pointer (some ⟨b4, 0, none⟩)) ?qq_2q_2 (fun _ _ => ?qr_2q_2)
                        case qr_2q_2 => exact (rfl : (Value.pointer (some ⟨b4, 0, none⟩)) = (Value.pointer (some ⟨b4, 0, none⟩)))
                        with_reducible refine quietAt_field 47 (.tmp 4) 0 ?h0_2q_2 ⟨b4, 0, none⟩ ⟨b4, 0, none⟩ ?h1_2q_2 ?h2_2q_2
                        case h0_2q_2 => rfl
                        case h1_2q_2 => exact e4
                        case h2_2q_2 => kernel_rfl
                      · intro A u hu hpu hsz hout hdeps
                        have e113 : A.eval (.tmp 113) = (.pointer (some ⟨b4, 0, none⟩)) := by have h := depL hdeps 2 (by kernel_rfl) 113 (by kernel_rfl); exact h
                        refine ifw_none rfl ?_
                        with_reducible refine shown_q (Value.slice (some ⟨b4, 0, none⟩) 16 16) ?qq_2q_3 (fun _ _ => ?qr_2q_3)
                        case qr_2q_3 => exact (rfl : (Value.slice (some ⟨b4, 0, none⟩) 16 16) = (Value.slice (some ⟨b4, 0, none⟩) 16 16))
                        with_reducible refine quietAt_slice0 45 (.tmp 113) (Value.pointer (some ⟨b4, 0, none⟩)) (Value.slice (some ⟨b4, 0, none⟩) 16 16) ?h0_2q_3 ?h1_2q_3 ?h2_2q_3
                        case h0_2q_3 => rfl
                        case h1_2q_3 => exact e113
                        case h2_2q_3 => exact (arr53 b4 u)
                      · intro A u20 listed hh hall
                        have hA := hh.frame
                        have HU := hid hh.grown
                        obtain ⟨x111, hx111⟩ : ∃ x, A.eval (.tmp 111) = x := ⟨_, rfl⟩
                        have f111 : (fun v _ => v = (Value.slice (some ⟨p9, 0, none⟩) 32 32)) x111 u20 := by rw [← hx111]; exact hh.got 0 _ 111 rfl rfl (hall 0 (by decide))
                        obtain ⟨x112, hx112⟩ : ∃ x, A.eval (.tmp 112) = x := ⟨_, rfl⟩
                        have f112 : (fun v u => ∃ z, v = z ∧ Out wd.heap.size u z DA) x112 u20 := by rw [← hx112]; exact hh.got 1 _ 112 rfl rfl (hall 1 (by decide))
                        obtain ⟨x113, hx113⟩ : ∃ x, A.eval (.tmp 113) = x := ⟨_, rfl⟩
                        have f113 : (fun v _ => v = (Value.pointer (some ⟨b4, 0, none⟩))) x113 u20 := by rw [← hx113]; exact hh.got 2 _ 113 rfl rfl (hall 2 (by decide))
                        obtain ⟨x114, hx114⟩ : ∃ x, A.eval (.tmp 114) = x := ⟨_, rfl⟩
                        have f114 : (fun v _ => v = (Value.slice (some ⟨b4, 0, none⟩) 16 16)) x114 u20 := by rw [← hx114]; exact hh.got 3 _ 114 rfl rfl (hall 3 (by decide))
                        obtain ⟨x115, hx115⟩ : ∃ x, A.eval (.tmp 115) = x := ⟨_, rfl⟩
                        obtain ⟨x6, hx6⟩ : ∃ x, A.eval (.tmp 6) = x := ⟨_, rfl⟩
                        dsimp only [wrote, List.foldl] at hA
                        rw [hx111, hx112, hx113, hx114, hx115, hx6] at hA
                        clear hh hall hx111 hx112 hx113 hx114 hx115 hx6
                        replace f111 := (f111 : x111 = (.slice (some ⟨p9, 0, none⟩) 32 32))
                        subst f111
                        obtain ⟨Vx, e112, HVx⟩ := f112
                        subst e112
                        replace f113 := (f113 : x113 = (.pointer (some ⟨b4, 0, none⟩)))
                        subst f113
                        replace f114 := (f114 : x114 = (.slice (some ⟨b4, 0, none⟩) 16 16))
                        subst f114
                        subst hA
                        show wpList _ _ _ [_, _] _ _
                        simp only [Act.put, List.setIfInBounds_toArray, List.set_cons_succ, List.set_cons_zero]
                        have HT20 := hid HU.out
                        have HO20 := hid HVx
                        clear HU HVx HCd
                        have HRs : Hid (Rd u20 (fun g => g = b4) (.slice (some ⟨b4, 0, none⟩) 16 16) sA) := hid (rd16 (HcA.out _ _ (HAe.out.keep HT20.out)).2 (HAe.out.keep HT20.out).lt HSA.out HslA.out)
                        go_upto_region 21 with (refine wpList_append_rdW rfl _ _ rfl wd.heap.size _ DA sA HO20.out HRs.out (by rw [HDAl.out, HslA.out]; decide) HT20.out.size ?_; intro x5 u21 hO5 hg5 _; have HX5 := hid (hO5.rd.mono (G := fun _ => True) (fun _ _ _ => trivial)); have HT5 := hid (HT20.out.andThen hg5 (fun j hj => .inl (HO20.out.block j hj))); clear hO5 hg5)
                        have HB11f := hid (HB11'.out.keep HT5.out)
                        have HAf := hid (HAe.out.keep HT5.out)
                        have HBf := hid (HBe.out.keep HT5.out)
                        have HWf := hid (gtrans HWe.out HT5.out)
                        clear HT5 HT20 HO20 HRs HB11' HAe HBe HWe HB9' HXe HYe HT14
                        obtain ⟨wdd, hwdd⟩ : ∃ x, x = wd := ⟨_, rfl⟩
                        subst hwdd
                        obtain ⟨wd, hwd⟩ : ∃ x, x = u21 := ⟨_, rfl⟩
                        subst hwd
                        have HCd : Hid (∀ u, wd.grownBy u none → Calls Tryd.prog 8 #[.slice (some ⟨p11, 0, none⟩) 32 32] u fun e w' => ∃ v', e = .returned v' ∧ Out u.heap.size w' v' DB ∧ u.grownBy w' none) := fun u hu => copyR_any u _ _ DB ((HB11f.out.keep hu).rdn HCB.out HDBl.out) (by rw [HDBl.out]; decide)
                        refine wp_region_list (by kernel_rfl) [fun v _ => v = (Value.slice (some ⟨p11, 0, none⟩) 32 32), fun v u => ∃ z, v = z ∧ Out wd.heap.size u z DB, fun v _ => v = (Value.pointer (some ⟨b5, 0, none⟩)), fun v _ => v = (Value.slice (some ⟨b5, 0, none⟩) 16 16)] (none) (fun _ => none) 4 (by kernel_rfl) (by kernel_rfl) (by kernel_rfl) (by kernel_rfl) (by decide) noRow_one (fun _ => .inl rfl) ⟨fun i v u u' hki h hg => h, fun i v u u' hki h hg => (by obtain ⟨z, rfl, h1⟩ := h; exact ⟨_, rfl, h1.keep hg⟩), fun i v u u' hki h hg => h, fun i v u u' hki h hg => h, trivial⟩ ⟨?_, ?_, ?_, ?_, trivial⟩ ?_
                        · intro A u hu hpu hsz hout hdeps
                          have e11 : A.eval (.tmp 11) = (.pointer (some ⟨p11, 0, none⟩)) := (hout 11 (by kernel_rfl)).trans rfl
                          refine ifw_none rfl ?_
                          with_reducible refine shown_q (Value.slice (some ⟨p11, 0, none⟩) 32 32) ?qq_3q_0 (fun _ _ => ?qr_3q_0)
                          case qr_3q_0 => exact (rfl : (Value.slice (some ⟨p11, 0, none⟩) 32 32) = (Value.slice (some ⟨p11, 0, none⟩) 32 32))
                          with_reducible refine quietAt_slice0 26 (.tmp 11) (Value.pointer (some ⟨p11, 0, none⟩)) (Value.slice (some ⟨p11, 0, none⟩) 32 32) ?h0_3q_0 ?h1_3q_0 ?h2_3q_0
                          case h0_3q_0 => rfl
                          case h1_3q_0 => exact e11
                          case h2_3q_0 => exact (arr24 p11 u)
                        · intro A u hu hpu hsz hout hdeps
                          have e116 : A.eval (.tmp 116) = (.slice (some ⟨p11, 0, none⟩) 32 32) := by have h := depL hdeps 0 (by kernel_rfl) 116 (by kernel_rfl); exact h
                          refine ifw_none rfl ?_
                          with_reducible refine shown_call 8 Tryd.f8 ?h0_3q_1 ?h1_3q_1 ?h2_3q_1 #[.tmp 116] #[25] ?h3_3q_1 #[(Value.slice (some ⟨p11, 0, none⟩) 32 32)] ?h4_3q_1 ?h5_3q_1
                          case h0_3q_1 => exact Tryd.func8
                          case h1_3q_1 => kernel_rfl
                          case h2_3q_1 => kernel_rfl
                          case h3_3q_1 => rfl
                          case h4_3q_1 => exact map1 _ _ _ e116
                          case h5_3q_1 => exact (HCd.out u hu).mono fun e w' ⟨v', he, ho, hg⟩ => ⟨v', he, hg, v', rfl, ho.below hu.size⟩
                        · intro A u hu hpu hsz hout hdeps
                          have e5 : A.eval (.tmp 5) = (.pointer (some ⟨b5, 0, none⟩)) := (hout 5 (by kernel_rfl)).trans rfl
                          refine ifw_none rfl ?_
                          with_reducible refine shown_q (Value.pointer (some ⟨b5, 0, none⟩)) ?qq_3q_2 (fun _ _ => ?qr_3q_2)
                          case qr_3q_2 => exact (rfl : (Value.pointer (some ⟨b5, 0, none⟩)) = (Value.pointer (some ⟨b5, 0, none⟩)))
                          with_reducible refine quietAt_field 47 (.tmp 5) 0 ?h0_3q_2 ⟨b5, 0, none⟩ ⟨b5, 0, none⟩ ?h1_3q_2 ?h2_3q_2
                          case h0_3q_2 => rfl
                          case h1_3q_2 => exact e5
                          case h2_3q_2 => kernel_rfl
                        · intro A u hu hpu hsz hout hdeps
                          have e118 : A.eval (.tmp 118) = (.pointer (some ⟨b5, 0, none⟩)) := by have h := depL hdeps 2 (by kernel_rfl) 118 (by kernel_rfl); exact h
                          refine ifw_none rfl ?_
                          with_reducible refine shown_q (Value.slice (some ⟨b5, 0, none⟩) 16 16) ?qq_3q_3 (fun _ _ => ?qr_3q_3)
                          case qr_3q_3 => exact (rfl : (Value.slice (some ⟨b5, 0, none⟩) 16 16) = (Value.slice (some ⟨b5, 0, none⟩) 16 16))
                          with_reducible refine quietAt_slice0 45 (.tmp 118) (Value.pointer (some ⟨b5, 0, none⟩)) (Value.slice (some ⟨b5, 0, none⟩) 16 16) ?h0_3q_3 ?h1_3q_3 ?h2_3q_3
                          case h0_3q_3 => rfl
                          case h1_3q_3 => exact e118
                          case h2_3q_3 => exact (arr53 b5 u)
                        · intro A u22 listed hh hall
                          have hA := hh.frame
                          have HU := hid hh.grown
                          obtain ⟨x116, hx116⟩ : ∃ x, A.eval (.tmp 116) = x := ⟨_, rfl⟩
                          have f116 : (fun v _ => v = (Value.slice (some ⟨p11, 0, none⟩) 32 32)) x116 u22 := by rw [← hx116]; exact hh.got 0 _ 116 rfl rfl (hall 0 (by decide))
                          obtain ⟨x117, hx117⟩ : ∃ x, A.eval (.tmp 117) = x := ⟨_, rfl⟩
                          have f117 : (fun v u => ∃ z, v = z ∧ Out wd.heap.size u z DB) x117 u22 := by rw [← hx117]; exact hh.got 1 _ 117 rfl rfl (hall 1 (by decide))
                          obtain ⟨x118, hx118⟩ : ∃ x, A.eval (.tmp 118) = x := ⟨_, rfl⟩
                          have f118 : (fun v _ => v = (Value.pointer (some ⟨b5, 0, none⟩))) x118 u22 := by rw [← hx118]; exact hh.got 2 _ 118 rfl rfl (hall 2 (by decide))
                          obtain ⟨x119, hx119⟩ : ∃ x, A.eval (.tmp 119) = x := ⟨_, rfl⟩
                          have f119 : (fun v _ => v = (Value.slice (some ⟨b5, 0, none⟩) 16 16)) x119 u22 := by rw [← hx119]; exact hh.got 3 _ 119 rfl rfl (hall 3 (by decide))
                          obtain ⟨x120, hx120⟩ : ∃ x, A.eval (.tmp 120) = x := ⟨_, rfl⟩
                          obtain ⟨x7, hx7⟩ : ∃ x, A.eval (.tmp 7) = x := ⟨_, rfl⟩
                          dsimp only [wrote, List.foldl] at hA
                          rw [hx116, hx117, hx118, hx119, hx120, hx7] at hA
                          clear hh hall hx116 hx117 hx118 hx119 hx120 hx7
                          replace f116 := (f116 : x116 = (.slice (some ⟨p11, 0, none⟩) 32 32))
                          subst f116
                          obtain ⟨Vy, e117, HVy⟩ := f117
                          subst e117
                          replace f118 := (f118 : x118 = (.pointer (some ⟨b5, 0, none⟩)))
                          subst f118
                          replace f119 := (f119 : x119 = (.slice (some ⟨b5, 0, none⟩) 16 16))
                          subst f119
                          subst hA
                          show wpList _ _ _ [_, _] _ _
                          simp only [Act.put, List.setIfInBounds_toArray, List.set_cons_succ, List.set_cons_zero]
                          have HT22 := hid HU.out
                          have HO22 := hid HVy
                          clear HU HVy HCd
                          have HRs : Hid (Rd u22 (fun g => g = b5) (.slice (some ⟨b5, 0, none⟩) 16 16) sB) := hid (rd16 (HcB.out _ _ (HBf.out.keep HT22.out)).2 (HBf.out.keep HT22.out).lt HSB.out HslB.out)
                          go_wp2_with (refine wpList_append_rdW rfl _ _ rfl wd.heap.size _ DB sB HO22.out HRs.out (by rw [HDBl.out, HslB.out]; decide) HT22.out.size ?_; intro y5 u23 hO5 hg5 _; have HY5 := hid (hO5.rd.mono (G := fun _ => True) (fun _ _ _ => trivial)); have HT6 := hid (HT22.out.andThen hg5 (fun j hj => .inl (HO22.out.block j hj))); clear hO5 hg5)
                          go_roundw
                          case rel => exact ⟨k + 1, DA ++ sA, DB ++ sB, by rw [← HK1.out]; go_num, by omega, hid (HX5.out.keep HT6.out), HY5, hid (nxt_ne HDAl.out HDBl.out HDne.out), HNx, HNy, hid (by rw [List.length_append, List.length_append, HDAl.out, HDBl.out, HslA.out, HslB.out]; decide), hid (HAf.out.keep HT6.out), hid (HBf.out.keep HT6.out), hid (gtrans HWf.out HT6.out)⟩
                          case measure => simp [intOf]; have := HK1.out; omega
                · have hge : ¬ (K1 : Int) ≤ 5 := by omega
                  clear hK1
                  go_wp2_with fail
                  go_roundw
                  case rel => exact ⟨i + 1, by rw [← hJ]; go_num, by omega, HW⟩
                  case measure => simp [intOf]; omega
    · have hge : (decide ((J : Int) < (n : Int)) && decide ((J : Int) < 8)) = false := by
        simp only [Bool.and_eq_false_iff, decide_eq_false_iff_not]
        omega
      by_cases h1 : J < n
      · have i1 : (J : Int) < (n : Int) := by omega
        have i2 : ¬ (J : Int) < 8 := by omega
        clear hge hlt
        go_wp2_with (go_at_call 12; (with_reducible refine (HWk.out _ HG.out).mono ?_); rintro e w9 ⟨rfl, hg9⟩; have HG9 := hid hg9; clear hg9)
        go_ret
        exact ⟨rfl, gtrans HG.out HG9.out⟩
      · have i1 : ¬ (J : Int) < (n : Int) := by omega
        clear hge hlt
        go_wp2_with (go_at_call 12; (with_reducible refine (HWk.out _ HG.out).mono ?_); rintro e w9 ⟨rfl, hg9⟩; have HG9 := hid hg9; clear hg9)
        go_ret
        exact ⟨rfl, gtrans HG.out HG9.out⟩
end Go.Proofs.YtmiojplbcjhggabDoor
