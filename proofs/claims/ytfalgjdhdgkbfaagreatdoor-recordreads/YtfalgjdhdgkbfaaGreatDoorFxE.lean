/- framed and unframed beside a row that is lent. -/
import Derived.Test.YtfalgjdhdgkbfaaGreatDoorFxD
namespace Go.Proofs.YtfalgjdhdgkbfaaGreatDoor.Bk
open Go Go.RowKit
open Go.RowKit (wrap32 wrap64)

theorem ST.front {w : World} {B bk lt T n : Nat} {ps qs : List Item} {x : Item} (h : ST w B bk lt T (ps ++ qs ++ [x]) n) (hn : n ≤ ps.length) (hq : qs.length ≤ 1) : ST w B bk lt T (ps ++ [x] ++ qs) n := by
  match qs, hq, h with
  | [], _, h => rw [List.append_nil] at h ⊢; exact h
  | [y], _, h =>
    rw [List.append_assoc] at h ⊢
    exact ST.swap h hn
theorem front_at (ps qs : List Item) (x : Item) : (ps ++ [x] ++ qs)[ps.length]? = some x := by
  rw [List.append_assoc, List.getElem?_append_right (Nat.le_refl _), Nat.sub_self]
  rfl

set_option maxRecDepth 100000 in
set_option maxHeartbeats 2000000 in
theorem framed2_any (w : World) (B bk lt T : Nat) (ps qs : List Item) (hq : qs.length ≤ 1) (l : List UInt8) (v b : Value) (h : ST w B bk lt T (ps ++ qs) ps.length) (hv : ∀ u, Below B w u → Same 5 w u → Rd u v l) (hb : ∀ u, Below B w u → Same 5 w u → Rd u b l) (hT : ∀ u, Below B w u → Tab u) (hB : B ≤ w.heap.size) (hl : l.length ≤ 2097139) (hn : ps.length ≤ 8388607) :
    Calls Tryz.prog 22 #[v, b, .pointer (some ⟨lt, 0, none⟩)] w fun e w' => e = .returned (.bool true) ∧ Hid (∃ g, ST w' B bk lt T (ps ++ [(g, frameL l)] ++ qs) (ps ++ [(g, frameL l)]).length ∧ Below B w w' ∧ Same 5 w w') := by
  have HF1 := hid (frame_ok l _ v w (by omega) (hv w (Below.refl _ _) (Same.refl _ _)).up (hT w (Below.refl _ _)))
  have HF2 : Hid (∀ u, Below B w u → Same 5 w u → Calls Tryz.prog 62 #[b] u fun e w' => ∃ v', e = .returned (.tuple #[v', .int .i64 0]) ∧ Out u.heap.size w' v' (frameL l) ∧ u.grownBy w' none) := hid (fun u h1 h2 => frameR_ok l _ b u (by omega) (hb u h1 h2).up)
  have HS1 : Hid (∀ u, Below B w u → Same 5 w u → Calls Tryz.prog 63 #[v] u fun e w' => e = .returned (.int .u32 (sumL l)) ∧ w' = u) := hid (fun u h1 h2 => sum_any l _ v u (by omega) (hv u h1 h2).up (hT u h1))
  have HS2 : Hid (∀ u, Below B w u → Same 5 w u → Calls Tryz.prog 64 #[b] u fun e w' => e = .returned (.int .u32 (sumL l)) ∧ w' = u) := hid (fun u h1 h2 => sumR_any l _ b u (by omega) (hb u h1 h2).up)
  have hfl : (frameL l).length ≤ 2097152 := by rw [frameL_length]; omega
  have HFL := hid hfl
  have HST := hid h
  have HQ := hid hq
  have HB0 := hid hB
  have HNn := hid hn
  obtain ⟨fl, HFl⟩ : ∃ z, Hid (frameL l = z) := ⟨_, hid rfl⟩
  obtain ⟨S, HSm⟩ : ∃ z : Nat, Hid (sumL l = z) := ⟨_, hid rfl⟩
  obtain ⟨s, HSs⟩ : ∃ z : ByteArray, Hid ((⟨fl.toArray⟩ : ByteArray) = z) := ⟨_, hid rfl⟩
  rw [HFl.out] at HF1 HF2 HFL ⊢
  rw [HSm.out] at HS1 HS2
  clear h hq hv hb hT hB hl hn hfl
  go_enter Tryz.func22, Tryz.ntmps22
  go_wp2_with (first
    | (go_at_call 47; (with_reducible refine HF1.out.mono ?_); rintro e w1 ⟨v1, rfl, hO1, hg1⟩; have HO1 := hid hO1; have HL1 := hid (gbelow hg1); have HB1 : Hid (Below B w w1) := hid ((gbelow hg1).mono HB0.out); have HM1 : Hid (Same 5 w w1) := hid (Same.below (gbelow hg1)); clear hO1 hg1)
    | (go_at_call 62; (refine (HF2.out w1 HB1.out HM1.out).mono ?_); rintro e w2 ⟨v2, rfl, hO2, hg2⟩; have HO2 := hid hO2; have HO1' := hid (HO1.out.keep hg2); have HL2 := hid (gbelow hg2); have HB2 : Hid (Below B w w2) := hid (HB1.out.trans ((gbelow hg2).mono (Nat.le_trans HB0.out HL1.out.size))); have HM2 : Hid (Same 5 w w2) := hid (HM1.out.trans (Same.below (gbelow hg2))); clear hO2 hg2)
    | (go_at_call 40; (refine ((((HST.out.item HL1.out (out_own HO1.out) HFL.out).front (Nat.le_refl _) HQ.out).below HL2.out).add (p := (v1, fl)) (front_at ps qs (v1, fl)) (own_rd5 (out_own HO2.out)) HNn.out).mono ?_); rintro e w3 ⟨rfl, hST3, hb3, hs3⟩; have HST3 : Hid (ST w3 B bk lt T (ps ++ [(v1, fl)] ++ qs) (ps ++ [(v1, fl)]).length) := hid (by rw [List.length_append]; exact hST3); have HB3 : Hid (Below B w w3) := hid (HB2.out.trans hb3); have HM3 : Hid (Same 5 w w3) := hid (HM2.out.trans hs3); have k1 : (convert 28 9 v1).run Tryz.prog w3 = .ok (.string s) w3 := (by rw [← HSs.out]; exact (Rd.own (own_same (out_own HO1'.out) hs3)).convert); have k2 : (convert 28 9 v2).run Tryz.prog w3 = .ok (.string s) w3 := (by rw [← HSs.out]; exact (Rd.own (own_same (out_own HO2.out) hs3)).convert); clear hST3 hb3 hs3)
    | (go_at_call 19; (with_reducible refine (num19_any _ _).mono ?_); rintro e w4 ⟨rfl, hw⟩; have hw' := hw.symm; clear hw; subst hw')
    | (go_at_call 63; (refine (HS1.out _ HB3.out HM3.out).mono ?_); rintro e w4 ⟨rfl, hw⟩; have hw' := hw.symm; clear hw; subst hw')
    | (go_at_call 64; (refine (HS2.out _ HB3.out HM3.out).mono ?_); rintro e w4 ⟨rfl, hw⟩; have hw' := hw.symm; clear hw; subst hw'))
  go_ret
  exact ⟨rfl, hid ⟨v1, HST3.out, HB3.out, HM3.out⟩⟩

set_option maxRecDepth 100000 in
set_option maxHeartbeats 2000000 in
theorem unframed2_any (w : World) (B bk lt T : Nat) (ps qs : List Item) (hq : qs.length ≤ 1) (l : List UInt8) (v b : Value) (h : ST w B bk lt T (ps ++ qs) ps.length) (hv : ∀ u, Below B w u → Same 5 w u → Rd u v l) (hb : ∀ u, Below B w u → Same 5 w u → Rd u b l) (hT : ∀ u, Below B w u → Tab u) (hB : B ≤ w.heap.size) (hl : l.length ≤ 2097152) (hn : ps.length ≤ 8388607) :
    Calls Tryz.prog 25 #[v, b, .pointer (some ⟨lt, 0, none⟩)] w fun e w' => e = .returned (.bool true) ∧ Hid (∃ g, ST w' B bk lt T (ps ++ [(g, unfB l)] ++ qs) (ps ++ [(g, unfB l)]).length ∧ Below B w w' ∧ Same 5 w w') := by
  have HF1 := hid (unframe_any l _ v w (by omega) (hv w (Below.refl _ _) (Same.refl _ _)).up (hT w (Below.refl _ _)))
  have HF2 : Hid (∀ u, Below B w u → Same 5 w u → Calls Tryz.prog 65 #[b] u fun e w' => ∃ v', e = .returned (.tuple #[v', .int .i64 (if unfrE l = 0 then ((Go.Proofs.YtfalgjdhdgkbfaaGreatDoor.cnt l + 13 : Nat) : Int) else 0), .int .i64 (unfrE l)]) ∧ Out u.heap.size w' v' (unfB l) ∧ u.grownBy w' none) := hid (fun u h1 h2 => unframeR_any l _ b u (by omega) (hb u h1 h2).up)
  have HFL : Hid ((unfB l).length ≤ 2097152) := hid (Nat.le_trans (unfB_length l) hl)
  have HST := hid h
  have HQ := hid hq
  have HB0 := hid hB
  have HNn := hid hn
  obtain ⟨fl, HFl⟩ : ∃ z, Hid (unfB l = z) := ⟨_, hid rfl⟩
  obtain ⟨E, HE⟩ : ∃ z : Int, Hid ((unfrE l : Int) = z) := ⟨_, hid rfl⟩
  obtain ⟨N, HN⟩ : ∃ z : Int, Hid ((if unfrE l = 0 then ((Go.Proofs.YtfalgjdhdgkbfaaGreatDoor.cnt l + 13 : Nat) : Int) else 0) = z) := ⟨_, hid rfl⟩
  obtain ⟨s, HSs⟩ : ∃ z : ByteArray, Hid ((⟨fl.toArray⟩ : ByteArray) = z) := ⟨_, hid rfl⟩
  rw [HFl.out] at HF1 HF2 HFL ⊢
  rw [HN.out, HE.out] at HF1 HF2
  clear h hq hv hb hT hB hl hn HN HE
  go_enter Tryz.func25, Tryz.ntmps25
  go_wp2_with (first
    | (go_at_call 48; (with_reducible refine HF1.out.mono ?_); rintro e w1 ⟨v1, rfl, hO1, hg1⟩; have HO1 := hid hO1; have HL1 := hid (gbelow hg1); have HB1 : Hid (Below B w w1) := hid ((gbelow hg1).mono HB0.out); have HM1 : Hid (Same 5 w w1) := hid (Same.below (gbelow hg1)); clear hO1 hg1)
    | (go_at_call 65; (refine (HF2.out w1 HB1.out HM1.out).mono ?_); rintro e w2 ⟨v2, rfl, hO2, hg2⟩; have HO2 := hid hO2; have HO1' := hid (HO1.out.keep hg2); have HL2 := hid (gbelow hg2); have HB2 : Hid (Below B w w2) := hid (HB1.out.trans ((gbelow hg2).mono (Nat.le_trans HB0.out HL1.out.size))); have HM2 : Hid (Same 5 w w2) := hid (HM1.out.trans (Same.below (gbelow hg2))); clear hO2 hg2)
    | (go_at_call 40; (refine ((((HST.out.item HL1.out (out_own HO1.out) HFL.out).front (Nat.le_refl _) HQ.out).below HL2.out).add (p := (v1, fl)) (front_at ps qs (v1, fl)) (own_rd5 (out_own HO2.out)) HNn.out).mono ?_); rintro e w3 ⟨rfl, hST3, hb3, hs3⟩; have HST3 : Hid (ST w3 B bk lt T (ps ++ [(v1, fl)] ++ qs) (ps ++ [(v1, fl)]).length) := hid (by rw [List.length_append]; exact hST3); have HB3 : Hid (Below B w w3) := hid (HB2.out.trans hb3); have HM3 : Hid (Same 5 w w3) := hid (HM2.out.trans hs3); have k1 : (convert 28 9 v1).run Tryz.prog w3 = .ok (.string s) w3 := (by rw [← HSs.out]; exact (Rd.own (own_same (out_own HO1'.out) hs3)).convert); have k2 : (convert 28 9 v2).run Tryz.prog w3 = .ok (.string s) w3 := (by rw [← HSs.out]; exact (Rd.own (own_same (out_own HO2.out) hs3)).convert); clear hST3 hb3 hs3)
    | (go_at_call 19; (with_reducible refine (num19_any _ _).mono ?_); rintro e w4 ⟨rfl, hw⟩; have hw' := hw.symm; clear hw; subst hw'))
  go_ret
  exact ⟨rfl, hid ⟨v1, HST3.out, HB3.out, HM3.out⟩⟩
end Go.Proofs.YtfalgjdhdgkbfaaGreatDoor.Bk
