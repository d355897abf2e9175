/- placeOf, isWhole, mayFollow. -/
import Derived.Test.YtlgjmhemgfjgnaaGreatVD
namespace Go.Proofs.YtlgjmhemgfjgnaaGreat
open Go Go.RowKit
open Go.RowKit (wrap32 wrap64)

set_option maxRecDepth 100000 in
set_option maxHeartbeats 800000 in
theorem placeOf_any (w : World) (v : Value) (F : Nat → Prop) (l : List Ky) (id : List UInt8) (m : Nat) (hv : RdK w F v l) (hl : l.length ≤ 1099511627776) (hid' : id.length = 16) (hm : m ≤ l.length)
    (hp : ∀ i (h : i < l.length), ltB l[i].id id = decide (i < m)) :
    Calls Tryz.prog 34 #[v, .agg (Lib.byteCells id).toArray] w fun e w' => e = .returned (.int .i64 m) ∧ w.grownBy w' none := by
  have HC : Hid (∀ (u : World) (p : Nat), Blk u p (Lib.byteCells id) 69 → w.grownBy u none → Calls Tryz.prog 75 #[v, .func (.func 78) #[] #[.pointer (some ⟨p, 0, none⟩)]] u fun e w' => e = .returned (.int .i64 m) ∧ u.grownBy w' none) := hid (fun u p hb hu =>
    place_32 u v F l p m (hv.keep hu) hl hm (fun x hx i hi => by
      have := lt_id x l[i] p id (hv.1.len _ (List.getElem_mem hi)) hid' (hb.keep hx)
      rw [hp i hi] at this
      exact this))
  obtain ⟨J, HJ⟩ : ∃ J, Hid (Lib.byteCells id = J) := ⟨_, hid rfl⟩
  rw [HJ.out] at HC ⊢
  obtain ⟨ho, a, b, off, c, rfl, hc, Ha, Hc⟩ := hv.open
  obtain ⟨n, HN⟩ : ∃ n, Hid (l.length = n) := ⟨_, hid rfl⟩
  rw [HN.out] at HC ⊢
  clear hv ho hc Ha Hc hp hl hm HN HJ
  go_enter Tryz.func34, Tryz.ntmps34
  go_wp2_with (first
    | (with_reducible refine wpList_box_row (by with_unfolding_all rfl) 69 _ (by with_unfolding_all rfl) J (by with_unfolding_all rfl) ?_; intro w1 B1 s1 g1; have HB1 := hid B1; have HG1 := hid g1; clear B1 g1 s1)
    | (go_at_call 75; (with_reducible refine (HC.out _ _ HB1.out HG1.out).mono ?_); rintro e w2 ⟨rfl, hg2⟩; have HG2 := hid (gtrans HG1.out hg2); clear hg2))
  go_ret
  exact ⟨rfl, HG2.out⟩
set_option maxRecDepth 100000 in
set_option maxHeartbeats 800000 in
theorem isWhole_any (w : World) (v : Value) (F : Nat → Prop) (l : List Ky) (hv : RdK w F v l) (hl : l.length ≤ 1099511627776) :
    Calls Tryz.prog 35 #[v] w fun e w' => e = .returned (.bool (isWh l)) ∧ w.grownBy w' none := by
  obtain ⟨ho, a, b, off, c, rfl, hc, Ha, Hc⟩ := hv.open
  obtain ⟨R, HR⟩ : ∃ R, Hid (isWh l = R) := ⟨_, hid rfl⟩
  by_cases h1 : l.length = 1
  · obtain ⟨r, rfl⟩ : ∃ r, l = [r] := List.length_eq_one_iff.1 h1
    obtain ⟨rfl, hb⟩ := Ha.out Nat.one_pos
    have hy := (Hc.out w (grefl _ _) 0 Nat.one_pos).1
    have y0 : w.cell? ⟨b, off, none⟩ = some (.bool r.wh) := by
      have := hy 0 _ (Ky.c0 r)
      simpa using this
    have hR : R = r.wh := HR.out.symm
    rw [HR.out, hR]
    obtain ⟨x, hx⟩ : ∃ x, r.wh = x := ⟨_, rfl⟩
    rw [hx] at y0 ⊢
    show Calls Tryz.prog 35 #[.slice (some ⟨b, off, none⟩) 1 c] w _
    clear hv ho Ha Hc hy hR hx h1 HR
    go_enter Tryz.func35, Tryz.ntmps35
    go_wp2_with fail
    go_ret
    exact ⟨rfl, grefl _ _⟩
  · have HRf : Hid (R = false) := hid (by
      rw [← HR.out]
      unfold isWh
      split
      · simp at h1
      · rfl)
    rw [HR.out]
    obtain ⟨n, hn⟩ : ∃ n, l.length = n := ⟨_, rfl⟩
    rw [hn] at h1 ⊢
    have hn1 : ((n : Int) == 1) = false := beq_eq_false_iff_ne.2 (by omega)
    have hn2 : ¬ (n : Int) = 1 := by omega
    clear hv ho Ha Hc hc hl hn h1
    go_enter Tryz.func35, Tryz.ntmps35
    go_wp2_with fail
    go_ret
    exact ⟨by rw [HRf.out]; rfl, grefl _ _⟩
set_option maxRecDepth 100000 in
set_option maxHeartbeats 1600000 in
theorem mayFollow_any (w : World) (x y : Ky) (hx : x.id.length = 16) (hy : y.id.length = 16) :
    Calls Tryz.prog 31 #[.agg x.cells.toArray, .agg y.cells.toArray] w fun e w' => e = .returned (.bool (mf x y)) ∧ w.grownBy w' none := by
  have hcx := fun (u : World) (B : Nat) (h : Blk u B x.cells 85) => (⟨by rw [h.cell]; exact Ky.c0 _, by rw [h.cell]; exact Ky.c1 _⟩ : u.cell? ⟨B, 0, none⟩ = some (.bool x.wh) ∧ u.cell? ⟨B, 1, none⟩ = some (.int .u64 x.g))
  have hcy := fun (u : World) (B : Nat) (h : Blk u B y.cells 85) => (⟨by rw [h.cell]; exact Ky.c0 _, by rw [h.cell]; exact Ky.c1 _⟩ : u.cell? ⟨B, 0, none⟩ = some (.bool y.wh) ∧ u.cell? ⟨B, 1, none⟩ = some (.int .u64 y.g))
  have hcmp := fun (u : World) (B C : Nat) (h : Blk u B x.cells 85) (hq : Blk u C y.cells 85) => (fun n => compare_any (u.drewN n) B 2 C 2 16 16 16 16 x.id y.id hx hy h.idr hq.idr)
  obtain ⟨K, HK⟩ : ∃ K, Hid (x.cells = K) := ⟨_, hid rfl⟩
  obtain ⟨J, HJ⟩ : ∃ K, Hid (y.cells = K) := ⟨_, hid rfl⟩
  have HD := hid (ltB_cmp x.id y.id)
  obtain ⟨R, HR⟩ : ∃ R, Hid (Lib.compareBytes x.id y.id = R) := ⟨_, hid rfl⟩
  obtain ⟨M, HM⟩ : ∃ R, Hid (mf x y = R) := ⟨_, hid rfl⟩
  have HMe : Hid (M = if x.g = y.g then !x.wh && (!y.wh && ltB x.id y.id) else decide (x.g < y.g)) := hid (by rw [← HM.out]; rfl)
  obtain ⟨xg, hxg⟩ : ∃ g, x.g = g := ⟨_, rfl⟩
  obtain ⟨yg, hyg⟩ : ∃ g, y.g = g := ⟨_, rfl⟩
  obtain ⟨xw, hxw⟩ : ∃ g, x.wh = g := ⟨_, rfl⟩
  obtain ⟨yw, hyw⟩ : ∃ g, y.wh = g := ⟨_, rfl⟩
  rw [HK.out, HJ.out, HR.out] at hcmp
  rw [HK.out, hxg, hxw] at hcx
  rw [HJ.out, hyg, hyw] at hcy
  rw [HR.out] at HD
  rw [hxg, hyg, hxw, hyw, ← HD.out] at HMe
  rw [HK.out, HJ.out, HM.out]
  have HC := hid hcmp
  have HX := hid hcx
  have HY := hid hcy
  clear hcmp hcx hcy HK HJ HR HM HD hxg hyg hxw hyw hx hy
  by_cases hg : xg = yg
  · have hg' : ((xg : Int) == (yg : Int)) = true := by rw [beq_iff_eq]; omega
    have hMe : M = (!xw && (!yw && decide (R < 0))) := by rw [HMe.out, if_pos hg]
    rw [hMe]
    subst hg
    clear HMe hMe
    cases xw with
    | true =>
      go_enter Tryz.func31, Tryz.ntmps31
      go_upto_region 1 with (first
        | (have hmark := HA1.out; clear hmark; (with_reducible refine wpList_box_row (by with_unfolding_all rfl) 85 _ (by with_unfolding_all rfl) J (by with_unfolding_all rfl) ?_); intro w2 B2 s2 g2; have HB2 := hid B2; have HB1 := hid (HA1.out.keep g2); have HG2 := hid (gtrans HG1.out g2); clear B2 g2 s2 HA1)
        | ((with_reducible refine wpList_box_row (by with_unfolding_all rfl) 85 _ (by with_unfolding_all rfl) K (by with_unfolding_all rfl) ?_); intro w1 B1 s1 g1; have HA1 := hid B1; have HG1 := hid g1; clear B1 g1 s1))
      obtain ⟨y0, y1⟩ := HX.out _ _ HB1.out
      obtain ⟨z0, z1⟩ := HY.out _ _ HB2.out
      go_wp2_with fail
      go_quiet (fail)
      go_wp2
      go_ret
      exact ⟨rfl, gtrans HG2.out (gdrew _ _ _)⟩
    | false =>
      cases yw with
      | true =>
        go_enter Tryz.func31, Tryz.ntmps31
        go_upto_region 1 with (first
        | (have hmark := HA1.out; clear hmark; (with_reducible refine wpList_box_row (by with_unfolding_all rfl) 85 _ (by with_unfolding_all rfl) J (by with_unfolding_all rfl) ?_); intro w2 B2 s2 g2; have HB2 := hid B2; have HB1 := hid (HA1.out.keep g2); have HG2 := hid (gtrans HG1.out g2); clear B2 g2 s2 HA1)
        | ((with_reducible refine wpList_box_row (by with_unfolding_all rfl) 85 _ (by with_unfolding_all rfl) K (by with_unfolding_all rfl) ?_); intro w1 B1 s1 g1; have HA1 := hid B1; have HG1 := hid g1; clear B1 g1 s1))
        obtain ⟨y0, y1⟩ := HX.out _ _ HB1.out
        obtain ⟨z0, z1⟩ := HY.out _ _ HB2.out
        go_wp2_with fail
        go_quiet (fail)
        go_wp2
        go_ret
        exact ⟨rfl, gtrans HG2.out (gdrew _ _ _)⟩
      | false =>
        go_enter Tryz.func31, Tryz.ntmps31
        go_upto_region 1 with (first
        | (have hmark := HA1.out; clear hmark; (with_reducible refine wpList_box_row (by with_unfolding_all rfl) 85 _ (by with_unfolding_all rfl) J (by with_unfolding_all rfl) ?_); intro w2 B2 s2 g2; have HB2 := hid B2; have HB1 := hid (HA1.out.keep g2); have HG2 := hid (gtrans HG1.out g2); clear B2 g2 s2 HA1)
        | ((with_reducible refine wpList_box_row (by with_unfolding_all rfl) 85 _ (by with_unfolding_all rfl) K (by with_unfolding_all rfl) ?_); intro w1 B1 s1 g1; have HA1 := hid B1; have HG1 := hid g1; clear B1 g1 s1))
        obtain ⟨y0, y1⟩ := HX.out _ _ HB1.out
        obtain ⟨z0, z1⟩ := HY.out _ _ HB2.out
        have HCq := hid (HC.out w2 _ _ HB1.out HB2.out)
        go_wp2_with fail
        go_quiet ((go_at_call 73; exact Calls.quiet_of_same (HCq.out _)))
        go_wp2
        go_ret
        exact ⟨rfl, gtrans HG2.out (gdrew _ _ _)⟩
  · have hg' : ((xg : Int) == (yg : Int)) = false := beq_eq_false_iff_ne.2 (by omega)
    have hg2 : ¬ (xg : Int) = (yg : Int) := by omega
    have HE0 : Hid (M = decide (xg < yg)) := hid (by rw [HMe.out, if_neg hg])
    clear HMe hg
    go_enter Tryz.func31, Tryz.ntmps31
    go_upto_region 1 with (first
        | (have hmark := HA1.out; clear hmark; (with_reducible refine wpList_box_row (by with_unfolding_all rfl) 85 _ (by with_unfolding_all rfl) J (by with_unfolding_all rfl) ?_); intro w2 B2 s2 g2; have HB2 := hid B2; have HB1 := hid (HA1.out.keep g2); have HG2 := hid (gtrans HG1.out g2); clear B2 g2 s2 HA1)
        | ((with_reducible refine wpList_box_row (by with_unfolding_all rfl) 85 _ (by with_unfolding_all rfl) K (by with_unfolding_all rfl) ?_); intro w1 B1 s1 g1; have HA1 := hid B1; have HG1 := hid g1; clear B1 g1 s1))
    obtain ⟨y0, y1⟩ := HX.out _ _ HB1.out
    obtain ⟨z0, z1⟩ := HY.out _ _ HB2.out
    go_wp2_with fail
    go_ret
    exact ⟨by rw [HE0.out]; rfl, HG2.out⟩
end Go.Proofs.YtlgjmhemgfjgnaaGreat
