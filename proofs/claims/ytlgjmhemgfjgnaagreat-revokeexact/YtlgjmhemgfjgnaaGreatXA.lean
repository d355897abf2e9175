/- The reference's Less, ahead, greater. -/
import Derived.Test.YtlgjmhemgfjgnaaGreatX15
namespace Go.Proofs.YtlgjmhemgfjgnaaGreat
open Go Go.RowKit
open Go.RowKit (wrap32 wrap64)

theorem gd1n (w : World) (n : Nat) : w.grownBy (w.drewN n) none := gdrew _ _ _
theorem byteCells_at {A : List UInt8} {i : Nat} (h : i < A.length) : (Lib.byteCells A)[i]? = some (.int .u8 (A[i].toNat : Nat)) := by
  unfold Lib.byteCells
  rw [List.getElem?_map, List.getElem?_eq_getElem h]
  rfl
theorem ltB_drop {A B : List UInt8} {i : Nat} (hA : i < A.length) (hB : i < B.length) : ltB (A.drop i) (B.drop i) = if A[i].toNat = B[i].toNat then ltB (A.drop (i + 1)) (B.drop (i + 1)) else decide (A[i].toNat < B[i].toNat) := by
  rw [List.drop_eq_getElem_cons hA, List.drop_eq_getElem_cons hB]
  show (if A[i] = B[i] then _ else _) = _
  by_cases h : A[i] = B[i]
  · rw [if_pos h, if_pos (by rw [h])]
  · rw [if_neg h, if_neg (fun e => h (UInt8.toNat_inj.1 e))]
    rfl
set_option maxRecDepth 100000 in
set_option maxHeartbeats 1600000 in
theorem rless_any (w : World) (b1 o1 b2 o2 : Nat) (A B : List UInt8) (hA : A.length = 16) (hB : B.length = 16) (h1 : w.rangeAt b1 o1 (Lib.byteCells A)) (h2 : w.rangeAt b2 o2 (Lib.byteCells B)) (hb1 : b1 < w.heap.size) (hb2 : b2 < w.heap.size) :
    Calls Tryz.prog 74 #[.slice (some ⟨b1, o1, none⟩) 16 16, .slice (some ⟨b2, o2, none⟩) 16 16] w fun e w' => e = .returned (.bool (ltB A B)) ∧ ∃ n, w' = w.drewN n := by
  obtain ⟨R, HR⟩ : ∃ R, Hid (ltB A B = R) := ⟨_, hid rfl⟩
  rw [HR.out]
  have HS : Hid (ltB (A.drop 0) (B.drop 0) = R) := hid HR.out
  have HE : Hid (ltB (A.drop 16) (B.drop 16) = false) := hid (by rw [List.drop_of_length_le (by omega), List.drop_of_length_le (by omega)]; rfl)
  have HC : Hid (∀ u, w.grownBy u none → ∀ i (hi : i < 16), u.cell? ⟨b1, o1 + i, none⟩ = some (.int .u8 ((A[i]'(by omega)).toNat : Nat)) ∧ u.cell? ⟨b2, o2 + i, none⟩ = some (.int .u8 ((B[i]'(by omega)).toNat : Nat))) := hid (fun u hu i hi =>
    ⟨range_at hu hb1 (by simp) h1 i _ (byteCells_at (by omega)), range_at hu hb2 (by simp) h2 i _ (byteCells_at (by omega))⟩)
  have HL := hid (And.intro hA hB)
  clear h1 h2 hb1 hb2 HR
  go_enter Tryz.func74, Tryz.ntmps74
  go_wp2_with fail
  go_loopw [5] (fun iv wr => ∃ i : Nat, iv = .int .i64 i ∧ i ≤ 16 ∧ Hid (ltB (A.drop i) (B.drop i) = R) ∧ Hid (∃ n, wr = w.drewN n)) (fun iv _ => 16 - (intOf iv).toNat)
  case atStart => exact ⟨0, rfl, by omega, HS, hid ⟨0, rfl⟩⟩
  case round =>
    clear HS
    obtain ⟨i, rfl, hi, HT, HN⟩ := hrel
    obtain ⟨nn, hnn⟩ := HN.out
    have HG : Hid (w.grownBy wr none) := hid (by rw [hnn]; exact gd1n _ _)
    have HNn := hid hnn
    clear hnn HN
    by_cases hlt : i < 16
    · have hlt' : (i : Int) < 16 := by omega
      obtain ⟨q1, q2⟩ := HC.out wr HG.out i hlt
      have hl := ltB_drop (A := A) (B := B) (i := i) (by rw [HL.out.1]; omega) (by rw [HL.out.2]; omega)
      rw [HT.out] at hl
      obtain ⟨x, hx⟩ : ∃ x, (A[i]'(by rw [HL.out.1]; omega)).toNat = x := ⟨_, rfl⟩
      obtain ⟨y, hy⟩ : ∃ y, (B[i]'(by rw [HL.out.2]; omega)).toNat = y := ⟨_, rfl⟩
      rw [hx, hy] at hl
      rw [hx] at q1
      rw [hy] at q2
      have HLr := hid hl
      clear hl hx hy HT HC
      by_cases hxy : x = y
      · subst hxy
        have HT2 : Hid (ltB (A.drop (i + 1)) (B.drop (i + 1)) = R) := hid (by rw [HLr.out, if_pos rfl])
        go_wp2_with fail
        go_quiet (fail)
        go_wp2_with fail
        go_roundw
        case rel => exact ⟨i + 1, by go_num, by omega, HT2, hid ⟨_, by rw [HNn.out, World.drewN_drewN]⟩⟩
        case measure => simp [intOf]; omega
      · have hne : ¬ (x : Int) = (y : Int) := by omega
        have HRr : Hid (R = decide (x < y)) := hid (by rw [HLr.out, if_neg hxy])
        clear hxy
        go_wp2_with fail
        go_quiet (fail)
        go_wp2_with fail
        go_quiet (fail)
        go_wp2_with fail
        go_ret
        exact ⟨by rw [HRr.out]; rfl, _, by rw [HNn.out, World.drewN_drewN, World.drewN_drewN]⟩
    · have hlt' : ¬ (i : Int) < 16 := by omega
      obtain rfl : i = 16 := by omega
      have HRf : Hid (R = false) := hid (by rw [← HT.out, HE.out])
      go_wp2_with fail
      go_ret
      exact ⟨by rw [HRf.out]; rfl, _, HNn.out⟩
set_option maxRecDepth 100000 in
theorem greater_any (w : World) (a b : Int) : Calls Tryz.prog 36 #[.int .i64 a, .int .i64 b] w fun e w' => e = .returned (.int .i64 (mx b a)) ∧ w' = w := by
  by_cases h : b < a
  · go_enter Tryz.func36, Tryz.ntmps36
    go_wp2
    go_ret
    exact ⟨by unfold mx; rw [if_neg (by omega)]; rfl, rfl⟩
  · go_enter Tryz.func36, Tryz.ntmps36
    go_wp2
    go_ret
    refine ⟨?_, rfl⟩
    unfold mx
    by_cases e : b > a
    · rw [if_pos e]; rfl
    · rw [if_neg e, show a = b by omega]; rfl
/-- does an entry stand ahead of another one? -/
def ahd2 (x y : Ky) : Bool := if x.g = y.g then ltB x.id y.id else decide (x.g < y.g)
theorem Blk.idl {w : World} {B : Nat} {k : Ky} (h : Blk w B k.cells 85) : B < w.heap.size := (Array.getElem?_eq_some_iff.1 h).1
set_option maxRecDepth 100000 in
set_option maxHeartbeats 1600000 in
theorem ahead_any (w : World) (x y : Ky) (hx : x.id.length = 16) (hy : y.id.length = 16) :
    Calls Tryz.prog 32 #[.agg x.cells.toArray, .agg y.cells.toArray] w fun e w' => e = .returned (.bool (ahd2 x y)) ∧ w.grownBy w' none := by
  have hcx := fun (u : World) (B : Nat) (h : Blk u B x.cells 85) => (by rw [h.cell]; exact Ky.c1 _ : u.cell? ⟨B, 1, none⟩ = some (.int .u64 x.g))
  have hcy := fun (u : World) (B : Nat) (h : Blk u B y.cells 85) => (by rw [h.cell]; exact Ky.c1 _ : u.cell? ⟨B, 1, none⟩ = some (.int .u64 y.g))
  have hcmp := fun (u : World) (B C : Nat) (h : Blk u B x.cells 85) (hq : Blk u C y.cells 85) => (fun n => rless_any (u.drewN n) B 2 C 2 x.id y.id hx hy h.idr hq.idr h.idl hq.idl)
  obtain ⟨K, HK⟩ : ∃ K, Hid (x.cells = K) := ⟨_, hid rfl⟩
  obtain ⟨J, HJ⟩ : ∃ K, Hid (y.cells = K) := ⟨_, hid rfl⟩
  obtain ⟨R, HR⟩ : ∃ R, Hid (ltB x.id y.id = R) := ⟨_, hid rfl⟩
  obtain ⟨M, HM⟩ : ∃ R, Hid (ahd2 x y = R) := ⟨_, hid rfl⟩
  have HMe : Hid (M = if x.g = y.g then ltB x.id y.id else decide (x.g < y.g)) := hid (by rw [← HM.out]; rfl)
  obtain ⟨xg, hxg⟩ : ∃ g, x.g = g := ⟨_, rfl⟩
  obtain ⟨yg, hyg⟩ : ∃ g, y.g = g := ⟨_, rfl⟩
  rw [HK.out, HJ.out, HR.out] at hcmp
  rw [HK.out, hxg] at hcx
  rw [HJ.out, hyg] at hcy
  rw [hxg, hyg, HR.out] at HMe
  rw [HK.out, HJ.out, HM.out]
  have HC := hid hcmp
  have HX := hid hcx
  have HY := hid hcy
  clear hcmp hcx hcy HK HJ HR HM hxg hyg hx hy
  by_cases hg : xg = yg
  · have hMe : M = R := by rw [HMe.out, if_pos hg]
    rw [hMe]
    subst hg
    clear HMe hMe
    go_enter Tryz.func32, Tryz.ntmps32
    go_upto_region 1 with (first
      | (have hmark := HA1.out; clear hmark; (with_reducible refine wpList_box_row (by with_unfolding_all rfl) 85 _ (by with_unfolding_all rfl) J (by with_unfolding_all rfl) ?_); intro w2 B2 s2 g2; have HB2 := hid B2; have HB1 := hid (HA1.out.keep g2); have HG2 := hid (gtrans HG1.out g2); clear B2 g2 s2 HA1)
      | ((with_reducible refine wpList_box_row (by with_unfolding_all rfl) 85 _ (by with_unfolding_all rfl) K (by with_unfolding_all rfl) ?_); intro w1 B1 s1 g1; have HA1 := hid B1; have HG1 := hid g1; clear B1 g1 s1))
    have y1 := HX.out _ _ HB1.out
    have z1 := HY.out _ _ HB2.out
    have HCq := hid (HC.out w2 _ _ HB1.out HB2.out)
    go_wp2_with fail
    go_quiet ((go_at_call 74; exact Calls.quiet_of (HCq.out _)))
    go_wp2_with fail
    go_ret
    exact ⟨rfl, gtrans HG2.out (gdrew _ _ _)⟩
  · have hg2 : ¬ (xg : Int) = (yg : Int) := by omega
    have HE0 : Hid (M = decide (xg < yg)) := hid (by rw [HMe.out, if_neg hg])
    clear HMe hg
    go_enter Tryz.func32, Tryz.ntmps32
    go_upto_region 1 with (first
      | (have hmark := HA1.out; clear hmark; (with_reducible refine wpList_box_row (by with_unfolding_all rfl) 85 _ (by with_unfolding_all rfl) J (by with_unfolding_all rfl) ?_); intro w2 B2 s2 g2; have HB2 := hid B2; have HB1 := hid (HA1.out.keep g2); have HG2 := hid (gtrans HG1.out g2); clear B2 g2 s2 HA1)
      | ((with_reducible refine wpList_box_row (by with_unfolding_all rfl) 85 _ (by with_unfolding_all rfl) K (by with_unfolding_all rfl) ?_); intro w1 B1 s1 g1; have HA1 := hid B1; have HG1 := hid g1; clear B1 g1 s1))
    have y1 := HX.out _ _ HB1.out
    have z1 := HY.out _ _ HB2.out
    go_wp2_with fail
    go_ret
    exact ⟨by rw [HE0.out]; rfl, HG2.out⟩
end Go.Proofs.YtlgjmhemgfjgnaaGreat
