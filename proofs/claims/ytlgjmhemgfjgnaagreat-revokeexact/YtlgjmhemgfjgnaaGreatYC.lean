/- due: the reference's step. -/
import Derived.Test.YtlgjmhemgfjgnaaGreatVP
import Derived.Test.YtlgjmhemgfjgnaaGreatXG
namespace Go.Proofs.YtlgjmhemgfjgnaaGreat
open Go Go.RowKit
open Go.RowKit (wrap32 wrap64)

set_option maxRecDepth 100000 in
set_option maxHeartbeats 1600000 in
theorem due_any (w : World) (v : Value) (F : Nat → Prop) (l : List Ky) (o : St) (hv : RdK w F v l) (hl : l.length ≤ 1000000) (ho : o.ok) :
    Calls Tryz.prog 6 #[v, .agg o.cells.toArray] w fun e w' => ∃ v', e = .returned v' ∧ OutK w.heap.size w' v' (stepL l o) ∧ w.grownBy w' none := by
  obtain ⟨hg, hid', hex, hrw⟩ := ho
  have HV := hid hv
  obtain ⟨_, a, b, off, c, rfl, hc, _, _⟩ := hv.open
  obtain ⟨n, HN⟩ : ∃ n, Hid (l.length = n) := ⟨_, hid rfl⟩
  have HC : Hid (∀ (u : World) (B : Nat), Blk u B o.cells 71 → u.cell? ⟨B, 0, none⟩ = some (.int .i64 o.dO) ∧ u.cell? ⟨B, 1, none⟩ = some (.int .u64 o.g) ∧ u.cell? ⟨B, 18, none⟩ = some (.int .i64 o.ex)) := hid (fun u B h => ⟨by rw [h.cell]; exact St.c0 _, by rw [h.cell]; exact St.c1 _, by rw [h.cell]; exact St.c18 hid'⟩)
  have HR : Hid (∀ (u : World) (B : Nat), Blk u B o.cells 71 → u.rangeAt B 2 (Lib.byteCells o.id)) := hid (fun u B h => by have := St.rid h.whole; rw [Nat.zero_add] at this; exact this)
  have HA : Hid (∀ u, w.grownBy u none → Calls Tryz.prog 21 #[.slice a n c, .int .u64 o.g, .agg (Lib.byteCells o.id).toArray, .int .i64 o.ex] u fun e w' => ∃ v', e = .returned v' ∧ OutK u.heap.size w' v' (addL l o.g o.id o.ex) ∧ u.grownBy w' none) := hid (fun u hu => by have := radd_any u _ F l o.g o.id o.ex hid' (HV.out.keep hu) hl hg hex; rw [HN.out] at this; exact this)
  have HK : Hid (∀ u, w.grownBy u none → Calls Tryz.prog 22 #[.slice a n c, .int .u64 o.g, .int .i64 o.ex] u fun e w' => ∃ v', e = .returned v' ∧ OutK u.heap.size w' v' (killL l o.g o.ex) ∧ u.grownBy w' none) := hid (fun u hu => by have := rkill_any u _ F l o.g o.ex (HV.out.keep hu) hl hg hex; rw [HN.out] at this; exact this)
  have HP : Hid (∀ u, w.grownBy u none → Calls Tryz.prog 23 #[.slice a n c, .int .i64 o.ex] u fun e w' => ∃ v', e = .returned v' ∧ OutK u.heap.size w' v' (prnL l o.ex) ∧ u.grownBy w' none) := hid (fun u hu => by have := rprune_any u _ F l o.ex (HV.out.keep hu) hl; rw [HN.out] at this; exact this)
  have HJL : Hid ((Tryz.prog.info? 69).map (·.size) = some (Lib.byteCells o.id).length) := hid (by rw [byteCells_length, hid']; exact Tryz.size69)
  have HSt : Hid (stepL l o = if o.dO = 1 then addL l o.g o.id o.ex else if o.dO = 2 then killL l o.g o.ex else prnL l o.ex) := hid rfl
  obtain ⟨K, HKe⟩ : ∃ x, Hid (o.cells = x) := ⟨_, hid rfl⟩
  obtain ⟨J, HJe⟩ : ∃ x, Hid (Lib.byteCells o.id = x) := ⟨_, hid rfl⟩
  obtain ⟨D, HD⟩ : ∃ x, Hid (o.dO = x) := ⟨_, hid rfl⟩
  obtain ⟨G, HG⟩ : ∃ x, Hid (o.g = x) := ⟨_, hid rfl⟩
  obtain ⟨E, HE⟩ : ∃ x, Hid (o.ex = x) := ⟨_, hid rfl⟩
  obtain ⟨RA, HRA⟩ : ∃ x, Hid (addL l o.g o.id o.ex = x) := ⟨_, hid rfl⟩
  obtain ⟨RK, HRK⟩ : ∃ x, Hid (killL l o.g o.ex = x) := ⟨_, hid rfl⟩
  obtain ⟨RP, HRP⟩ : ∃ x, Hid (prnL l o.ex = x) := ⟨_, hid rfl⟩
  obtain ⟨RS, HRS⟩ : ∃ x, Hid (stepL l o = x) := ⟨_, hid rfl⟩
  rw [HRA.out, HRK.out, HRP.out, HRS.out, HD.out] at HSt
  rw [HRA.out, HG.out, HJe.out, HE.out] at HA
  rw [HRK.out, HG.out, HE.out] at HK
  rw [HRP.out, HE.out] at HP
  rw [HKe.out, HD.out, HG.out, HE.out] at HC
  rw [HKe.out, HJe.out] at HR
  rw [HJe.out] at HJL
  rw [HKe.out, HN.out, HRS.out]
  clear hv hc hl hg hid' hex hrw HN HKe HJe HD HG HE HRA HRK HRP HRS HV
  have fld : ∀ (u : World), True := fun _ => trivial
  clear fld
  by_cases h1 : D = 1
  · subst h1
    have hr : RS = RA := by rw [HSt.out, if_pos rfl]
    rw [hr]
    clear HSt hr HK HP
    go_enter Tryz.func6, Tryz.ntmps6
    go_upto_region 1 with ((with_reducible refine wpList_box_row (by with_unfolding_all rfl) 71 _ (by with_unfolding_all rfl) K (by with_unfolding_all rfl) ?_); intro w1 B1 s1 g1; have HB1 := hid B1; have HG1 := hid g1; clear B1 g1 s1)
    obtain ⟨y0, y1, y18⟩ := HC.out _ _ HB1.out
    go_wp2_with (first
      | (with_reducible refine wpList_load_part (by with_unfolding_all rfl) 69 _ (by with_unfolding_all rfl) w.heap.size 2 J _ (by with_unfolding_all rfl) (HR.out _ _ HB1.out) Tryz.underlying69 (by with_unfolding_all rfl) HJL.out ?_)
      | (go_at_call 21; (with_reducible refine (HA.out _ HG1.out).mono ?_); rintro e w4 ⟨v4, rfl, ho4, hg4⟩; have HG4 := hid (gtrans HG1.out hg4); have HO4 := hid (ho4.below HG1.out.size); clear ho4 hg4))
    go_ret
    exact ⟨_, rfl, HO4.out, HG4.out⟩
  · have h1' : (D == 1) = false := beq_eq_false_iff_ne.2 h1
    by_cases h2 : D = 2
    · subst h2
      have hr : RS = RK := by rw [HSt.out, if_neg h1, if_pos rfl]
      rw [hr]
      clear HSt hr HA HP h1
      go_enter Tryz.func6, Tryz.ntmps6
      go_upto_region 1 with ((with_reducible refine wpList_box_row (by with_unfolding_all rfl) 71 _ (by with_unfolding_all rfl) K (by with_unfolding_all rfl) ?_); intro w1 B1 s1 g1; have HB1 := hid B1; have HG1 := hid g1; clear B1 g1 s1)
      obtain ⟨y0, y1, y18⟩ := HC.out _ _ HB1.out
      go_wp2_with (first
        | (with_reducible refine wpList_load_part (by with_unfolding_all rfl) 69 _ (by with_unfolding_all rfl) w.heap.size 2 J _ (by with_unfolding_all rfl) (HR.out _ _ HB1.out) Tryz.underlying69 (by with_unfolding_all rfl) HJL.out ?_)
        | (go_at_call 22; (with_reducible refine (HK.out _ HG1.out).mono ?_); rintro e w4 ⟨v4, rfl, ho4, hg4⟩; have HG4 := hid (gtrans HG1.out hg4); have HO4 := hid (ho4.below HG1.out.size); clear ho4 hg4))
      go_ret
      exact ⟨_, rfl, HO4.out, HG4.out⟩
    · have h2' : (D == 2) = false := beq_eq_false_iff_ne.2 h2
      have hr : RS = RP := by rw [HSt.out, if_neg h1, if_neg h2]
      rw [hr]
      clear HSt hr HA HK
      go_enter Tryz.func6, Tryz.ntmps6
      go_upto_region 1 with ((with_reducible refine wpList_box_row (by with_unfolding_all rfl) 71 _ (by with_unfolding_all rfl) K (by with_unfolding_all rfl) ?_); intro w1 B1 s1 g1; have HB1 := hid B1; have HG1 := hid g1; clear B1 g1 s1)
      obtain ⟨y0, y1, y18⟩ := HC.out _ _ HB1.out
      go_wp2_with (first
        | (with_reducible refine wpList_load_part (by with_unfolding_all rfl) 69 _ (by with_unfolding_all rfl) w.heap.size 2 J _ (by with_unfolding_all rfl) (HR.out _ _ HB1.out) Tryz.underlying69 (by with_unfolding_all rfl) HJL.out ?_)
        | (go_at_call 23; (with_reducible refine (HP.out _ HG1.out).mono ?_); rintro e w4 ⟨v4, rfl, ho4, hg4⟩; have HG4 := hid (gtrans HG1.out hg4); have HO4 := hid (ho4.below HG1.out.size); clear ho4 hg4))
      go_ret
      exact ⟨_, rfl, HO4.out, HG4.out⟩
end Go.Proofs.YtlgjmhemgfjgnaaGreat
