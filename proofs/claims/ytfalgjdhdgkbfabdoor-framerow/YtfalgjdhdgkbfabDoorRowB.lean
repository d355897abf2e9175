/- The walk of FrameRow. -/
import Derived.Test.YtfalgjdhdgkbfabDoorRowA
import Derived.Deep.CutRange
import Derived.Deep.CutBlock
namespace Go.Proofs.YtfalgjdhdgkbfabDoor
open Go Go.RowKit
open Go.RowKit (wrap32 wrap64)

theorem Out.own {B : Nat} {w : World} {v : Value} {l : List UInt8} (h : Out B w v l) : w.ownsRow B 5 1 v l.length (Lib.byteCells l) := h

set_option maxRecDepth 100000 in
set_option maxHeartbeats 8000000 in
theorem row_walk (w : World) (aB : Option Addr) (bB oB nB cB : Nat) (V : Nat → Value) (L : Nat → List UInt8) (ht : Tab w) (hn : nB ≤ 140737488355328) (hA : ArgB w aB bB oB nB V L) :
    Calls Tryd.prog 5 #[.slice aB nB cB] w fun e w' => e = .returned (.bool true) ∧ w.grownBy w' none := by
  have HT : Hid (∀ u, w.grownBy u none → Tab u) := fun u hu => ht.keep hu
  have HA : Hid (∀ u, w.grownBy u none → ArgB u aB bB oB nB V L) := fun u hu => hA.on hu
  have HWk : Hid (∀ u, w.grownBy u none → Calls Tryd.prog 10 #[] u fun e w' => e = .returned (.bool true) ∧ u.grownBy w' none) := fun u hu => works_any u (HT.out u hu)
  have HCp : Hid (∀ (u : World) (v : Value) (l : List UInt8), l.length ≤ 1048576 → Rd u (fun _ => True) v l → Calls Tryd.prog 6 #[v] u fun e w' => ∃ v', e = .returned v' ∧ Out u.heap.size w' v' l ∧ u.grownBy w' none) := fun u v l hl hv => copy_any l _ v u (by omega) hv
  have HFm : Hid (∀ (u : World) (B : Nat) (v : Value) (l : List UInt8), l.length ≤ 1048576 → w.grownBy u none → Out B u v l → Calls Tryd.prog 26 #[v] u fun e w' => ∃ v', e = .returned (.tuple #[v', .int .i64 0]) ∧ Out u.heap.size w' v' (frameL l) ∧ u.grownBy w' none) := fun u B v l hl hu hv => frame_ok l _ v u (by omega) hv.rd (HT.out u hu)
  have HUn : Hid (∀ (u : World) (v : Value) (i k : Nat) (G : Nat → Prop), (L i).length ≤ 1048576 → (frs L i (k + 1)).length ≤ 2097152 → w.grownBy u none → Rd u G v (frs L i (k + 1)) → Calls Tryd.prog 27 #[v] u fun e w' => ∃ v', e = .returned (.tuple #[v', .int .i64 ((L i).length + 13 : Int), .int .i64 0]) ∧ Out u.heap.size w' v' (L i) ∧ u.grownBy w' none) := fun u v i k G hl hl2 hu hv => by
    have := unframe_any (frs L i (k + 1)) G v u (by omega) hv (HT.out u hu)
    obtain ⟨e1, e2, e3, _⟩ := frs_one L i k (by omega)
    rw [e1, e2, e3, if_pos rfl, show (((L i).length + 13 : Nat) : Int) = ((L i).length : Int) + 13 by omega] at this
    exact this
  clear ht hA
  go_enter Tryd.func5, Tryd.ntmps5
  go_wp2_with fail
  go_loopw [3, 4, 5] (fun bv kv iv wr => ∃ (i : Nat) (acc : List UInt8), iv = .int .i64 i ∧ i ≤ nB ∧ i ≤ 100 ∧ Hid (acc = frs L 0 i) ∧ acc.length ≤ 1048600 ∧ Hid (∀ j, j < i → (L j).length ≤ 1048576) ∧ Hid (Out w.heap.size wr bv acc) ∧ Hid (wr.ownsRow w.heap.size 29 1 kv i (kept V i)) ∧ Hid (w.grownBy wr none)) (fun _ _ iv _ => nB - (intOf iv).toNat)
  case atStart => exact ⟨0, [], rfl, Nat.zero_le _, Nat.zero_le _, hid rfl, by simp, hid (fun j hj => by omega), Out.nil _ _, World.ownsRow_nil _ _ _ _, grefl _ _⟩
  case round =>
    obtain ⟨i, acc, rfl, hin, hi100, HAC, hal, HLS, HO, HK, HG⟩ := hrel
    have hz := HG.out.size
    obtain ⟨ab, bb, ob, cb, hbv, -⟩ := HO.out.rd
    subst hbv
    by_cases hall : i < nB ∧ i < 100 ∧ acc.length + (L i).length < 1048576
    · obtain ⟨h1, h2, h3⟩ := hall
      obtain ⟨⟨rfl, hbb⟩, _⟩ := And.intro ((HA.out wr HG.out).1 (by omega)) trivial
      obtain ⟨hcell, hrd, hll⟩ := (HA.out wr HG.out).2 i h1
      have HRD := hid hrd
      obtain ⟨av, bv', ov, cv, hV, -⟩ := hrd
      have HV := hid hV
      rw [hV] at hcell HRD
      have i1 : (i : Int) < (nB : Int) := by omega
      have i2 : (i : Int) < 100 := by omega
      have i3 : (acc.length : Int) + ((L i).length : Int) < 1048576 := by omega
      have HLI : Hid ((L i).length ≤ 1048576) := hid (by omega)
      have HFL := hid (frameL_length (L i))
      have HNEW : Hid (frs L 0 (i + 1) = acc ++ frameL (L i)) := hid (by rw [frs_snoc, ← HAC.out, Nat.zero_add])
      obtain ⟨AL, HAL⟩ : ∃ n, Hid (acc.length = n) := ⟨_, hid rfl⟩
      obtain ⟨LL, HLL⟩ : ∃ n, Hid ((L i).length = n) := ⟨_, hid rfl⟩
      rw [HAL.out] at hal i3 h3
      rw [HAL.out] at HO ⊢
      rw [HLL.out] at hcell HRD i3 h3 hll HFL
      have hd1 : decide ((i : Int) < (nB : Int)) = true := decide_eq_true i1
      have hd2 : decide ((i : Int) < 100) = true := decide_eq_true i2
      obtain ⟨X, hx⟩ : ∃ X : Int, (AL : Int) = X := ⟨_, rfl⟩
      obtain ⟨Y, hy⟩ : ∃ Y : Int, (LL : Int) = Y := ⟨_, rfl⟩
      have x0 : 0 ≤ X := by omega
      have y0 : 0 ≤ Y := by omega
      have hxy : X + Y < 1048576 := by omega
      have H3 := hid h3
      have HAB := hid hal
      have HNB := hid hn
      clear h3 i3 hal hll hn
      go_wp2_with (first
        | (go_at_call 6; refine (HCp.out _ _ _ HLI.out HRD.out).mono ?_; rintro e w1 ⟨v1, rfl, hO1, hg1⟩; have HO1 := hid hO1; have HB1 := hid (HO.out.keep hg1); have HK1 := hid (row_on HK.out hg1 (fun k hk => by cases hk)); have HG1 := hid (gtrans HG.out hg1); clear hO1 hg1)
        | (go_at_call 26; refine (HFm.out _ _ _ _ HLI.out HG1.out HO1.out).mono ?_; rintro e w2 ⟨v2, rfl, hO2, hg2⟩; have HO2 := hid hO2; have HB2 := hid (HB1.out.keep hg2); have HK2 := hid (row_on HK1.out hg2 (fun k hk => by cases hk)); have HG2 := hid (gtrans HG1.out hg2); have hz2 := HG2.out.size; clear hO2 hg2)
        | (go_at_call 9; refine (num_any _ _).mono ?_; rintro e w' ⟨rfl, hw⟩; have hw' := hw.symm; clear hw; subst hw')
        | (at_builtin; refine wpList_append_rd rfl _ _ rfl w.heap.size _ acc (frameL (L i)) HB2.out HO2.out.rd (by rw [HAL.out, HFL.out]; have := H3.out; omega) hz2 ?_; intro v3 w3 hO3 hg3 _; have HO3 := hid hO3; have HG3 := hid (HG2.out.andThen hg3 (fun j hj => .inl (HB2.out.block j hj))); have HK3 := hid (row_on HK2.out hg3 (fun k hk => fun hk2 => apart_rows HK2.out HB2.out.own (by decide) k hk2 hk)); have hz3 := HG3.out.size; have hc3 := ((HA.out w3 HG3.out).2 i h1).1; rw [HV.out, HLL.out] at hc3; clear hO3 hg3)
        | (at_builtin; refine wpList_append_slice rfl _ _ rfl w.heap.size w3.heap.size i (kept V i) (.slice av LL cv) (row_on HK3.out (galloc w3 _ none) (fun k hk => by cases hk)) rfl (heap_new w3 _ _) rfl (by omega) (by simp; omega) ?_; intro v4 w4 hown4 hg4; have HK4 := hid hown4; have HO4 := hid ((HO3.out.keep (galloc w3 _ none)).on hg4 (fun k hk => fun hk2 => apart_rows HO3.out.own HK3.out (by decide) k hk2 hk)); have HG4 := hid ((HG3.out.andThen (galloc w3 _ none) (fun j hj => by cases hj)).andThen hg4 (fun j hj => .inl (by have := (HK3.out.lt j hj).1; omega))); clear hown4 hg4))
      refine ⟨⟨i + 1, acc ++ frameL (L i), by go_num, by omega, by omega, hid HNEW.out.symm, by rw [List.length_append, HAL.out, HFL.out]; have := H3.out; omega, hid (fun j hj => ?_), HO4, ?_, HG4⟩, by simp only [intOf]; omega⟩
      · by_cases e : j = i
        · rw [e]; exact HLI.out
        · exact HLS.out j (by omega)
      · refine hid ?_
        rw [kept_succ, HV.out, HLL.out]
        exact HK4.out
    · have HRB : Hid (Rd wr (fun _ => True) (.slice ab acc.length cb) (frs L 0 i)) := hid (by have := HO.out.rd.mono (G := fun _ => True) (fun _ _ _ => trivial); rw [← HAC.out]; exact this)
      obtain ⟨ka, kc, g, hkv, hkc, hka, hkcell⟩ := kept_open HK.out
      subst hkv
      have HKA := hid hka
      have HKC := hid hkcell
      have HIN := hid hin
      have HI1 := hid hi100
      obtain ⟨AL, HAL⟩ : ∃ n, Hid (acc.length = n) := ⟨_, hid rfl⟩
      have HFL : Hid (∀ j k, j + k = i → (frs L j k).length ≤ AL) := hid (fun j k hjk => by
        have : ∀ (k j : Nat), j + k = i → (frs L j k).length ≤ (frs L 0 i).length := fun k j hjk => by
          have h1 : ∀ (m a c : Nat), (frs L a m).length + (frs L (a + m) c).length = (frs L a (m + c)).length := fun m => by
            induction m with
            | zero => intro a c; simp [frs]
            | succ m ih =>
              intro a c
              rw [show m + 1 + c = (m + c) + 1 by omega, frs, frs, List.length_append, List.length_append, ← ih (a + 1) c, show a + 1 + m = a + (m + 1) by omega]
              omega
          have := h1 j 0 k
          rw [Nat.zero_add, hjk] at this
          omega
        rw [← HAL.out, HAC.out]
        exact this k j hjk)
      have HAB : Hid (AL ≤ 1048600) := hid (by rw [← HAL.out]; exact hal)
      rw [HAL.out] at HRB
      have hcase : ¬ i < nB ∨ (i < nB ∧ ¬ i < 100) ∨ (i < nB ∧ i < 100 ∧ ¬ AL + (L i).length < 1048576) := by
        rw [HAL.out] at hall
        by_cases h1 : i < nB
        · by_cases h2 : i < 100
          · exact .inr (.inr ⟨h1, h2, fun h3 => hall ⟨h1, h2, h3⟩⟩)
          · exact .inr (.inl ⟨h1, h2⟩)
        · exact .inl h1
      rw [HAL.out]
      clear hall hal hin hi100 hka hkcell hkc
      rcases hcase with d1 | ⟨d1, d2⟩ | ⟨h1, h2, h3⟩
      · have d3 : ¬ (i : Int) < (nB : Int) := by omega
        go_wp2_with fail
        all_goals
          obtain ⟨wo, hwo⟩ : ∃ x, x = wr := ⟨_, rfl⟩
          subst hwo
          go_loopw [3, 8] (fun bv jv W2 => ∃ (j k : Nat), jv = .int .i64 j ∧ j + k = i ∧ Hid (Rd W2 (fun _ => True) bv (frs L j k)) ∧ Hid (wo.grownBy W2 none)) (fun _ jv _ => i - (intOf jv).toNat)
          case atStart => exact ⟨0, i, rfl, Nat.zero_add _, HRB, grefl _ _⟩
          case round =>
            obtain ⟨j, k, rfl, hjk, HR2, HG2⟩ := hrel
            have HJK := hid hjk
            have HGW := hid (gtrans HG.out HG2.out)
            have HIB : Hid (i ≤ 100) := HI1
            clear hjk
            cases k with
            | zero =>
              have hd : ¬ (j : Int) < (i : Int) := by have := HJK.out; omega
              have hd2 : ¬ j < i := by omega
              obtain ⟨a2, b2, o2, c2, hb2, -⟩ := HR2.out
              subst hb2
              have hl0 : (frs L j 0).length = 0 := rfl
              rw [hl0]
              go_wp2_with (go_at_call 10; refine (HWk.out _ HGW.out).mono ?_; rintro e w9 ⟨rfl, hg9⟩)
              go_ret
              exact ⟨rfl, gtrans HGW.out hg9⟩
            | succ k =>
              have hji : j < i := by have := HJK.out; omega
              have hj100 : j ≤ 100 := by have := HI1.out; omega
              have hji2 : (j : Int) < (i : Int) := by omega
              have hka := HKA.out (by omega)
              subst hka
              have HLJ := hid (HLS.out j hji)
              have HFJ := hid (HFL.out j (k + 1) HJK.out)
              have HF1 := hid (frs_one L j k (by have := HLJ.out; omega))
              have HFLN : Hid ((frs L j (k + 1)).length = (L j).length + 13 + (frs L (j + 1) k).length) := hid (by rw [frs, List.length_append, frameL_length])
              obtain ⟨hcj, hrj, -⟩ := (HA.out wr HGW.out).2 j (by have := HIN.out; omega)
              have HRJ := hid hrj
              obtain ⟨av, bv', ov, cv, hV, -⟩ := hrj
              have HVJ := hid hV
              obtain ⟨a2, b2, o2, c2, hb2, hc2, hn2, ha2, hcell2⟩ := HR2.out
              subst hb2
              obtain ⟨rfl, hb2', -⟩ := ha2 (by have := HFLN.out; omega)
              have HREST : Hid (∀ u, wr.grownBy u none → ∀ p n c, n = (frs L (j + 1) k).length → c = c2 - ((L j).length + 13) → (0 < (frs L (j + 1) k).length → p = some (⟨b2, o2 + ((L j).length + 13), none⟩ : Addr)) → p ≠ none → Rd u (fun _ => True) (.slice p n c) (frs L (j + 1) k)) := hid (fun u hu p n c en ec hp hp2 => by
                have := Rd.rest (F := fun _ => True) ha2 hcell2 hc2 ((L j).length + 13) (by have := HFLN.out; omega) p (fun h => hp (by have := HFLN.out; omega)) (fun h => absurd h hp2)
                rw [HF1.out.2.2.2, show (frs L j (k + 1)).length - ((L j).length + 13) = (frs L (j + 1) k).length by have := HFLN.out; omega, ← en, ← ec] at this
                exact this.keep hu)
              have HUJ := hid (HUn.out wr _ j k _ HLJ.out (by have := HFJ.out; have := HAB.out; omega) HGW.out HR2.out)
              obtain ⟨LL, HLL⟩ : ∃ n, Hid ((L j).length = n) := ⟨_, hid rfl⟩
              obtain ⟨NL, HNL⟩ : ∃ n, Hid ((frs L j (k + 1)).length = n) := ⟨_, hid rfl⟩
              obtain ⟨RL, HRL⟩ : ∃ n, Hid ((frs L (j + 1) k).length = n) := ⟨_, hid rfl⟩
              rw [HLL.out] at HUJ HREST HVJ HFLN
              rw [HNL.out] at HUJ hc2 HFLN HFJ
              rw [HRL.out] at HREST HFLN
              rw [HNL.out]
              obtain ⟨Y, hy⟩ : ∃ Y : Int, (LL : Int) = Y := ⟨_, rfl⟩
              obtain ⟨M, hm⟩ : ∃ Y : Int, (NL : Int) = Y := ⟨_, rfl⟩
              have y0 : 0 ≤ Y := by omega
              have y1 : Y ≤ 1048600 := by have := HFLN.out; have := HFJ.out; have := HAB.out; omega
              have m1 : M ≤ 1048600 := by have := HFJ.out; have := HAB.out; omega
              have hym : Y + 13 ≤ M := by have := HFLN.out; omega
              have t1 : (Y + 13).toNat = LL + 13 := by omega
              have q1 : decide (Y + 13 < 13) = false := decide_eq_false (by omega)
              have q2 : decide (M < Y + 13) = false := decide_eq_false (by omega)
              have hNL2 : NL - (LL + 13) = RL := by have := HFLN.out; omega
              have HHC := hid hc2
              rw [hy] at HUJ
              have HUJ' : Hid (Calls Tryd.prog 27 #[.slice (some ⟨b2, o2, none⟩) NL c2] wr fun e w' => ∃ v', e = .returned (.tuple #[v', .int .i64 (Y + 13), .int .i64 0]) ∧ Out wr.heap.size w' v' (L j) ∧ wr.grownBy w' none) := HUJ
              clear HUJ ha2 hcell2 hn2 hcj
              go_wp2_with (go_at_call 27; refine (HUJ'.out).mono ?_; rintro e w3 ⟨v3, rfl, hO3, hg3⟩; have HO3 := hid hO3; have HG3 := hid hg3; clear hO3 hg3)
              have hck := HKC.out w3 (gtrans HG2.out HG3.out) j hji
              rw [HVJ.out] at hck
              have hcx : ∀ n, (convert 29 9 v3).run Tryd.prog (w3.drewN n) = .ok (.string (str (L j))) (w3.drewN n) := fun n => (HO3.out.keep (gdrew w3 n none)).rd.convert
              have hcv : ∀ n, (convert 29 9 (.slice av LL cv)).run Tryd.prog (w3.drewN n) = .ok (.string (str (L j))) (w3.drewN n) := fun n => by
                have := ((HRJ.out.keep HG3.out).keep (gdrew w3 n none)).convert
                rw [HVJ.out] at this
                exact this
              generalize str (L j) = S at hcx hcv
              go_quiet ((go_at_call 9; exact Calls.quiet_of_same (num_any _ _)))
              rename_i nq
              by_cases hcz : c2 = LL + 13
              · have HCZ := hid hcz
                have hR0 : RL = 0 := by have := HHC.out; have := HFLN.out; omega
                have HR0 := hid hR0
                have f1 : c2 - (LL + 13) = 0 := by omega
                clear hR0
                go_wp2_with fail
                refine ⟨⟨j + 1, k, by go_num, by have := HJK.out; omega, ?_, hid (gtrans HG2.out (gtrans HG3.out (gdrew _ _ _)))⟩, by simp only [intOf]; omega⟩
                exact hid (HREST.out _ (gtrans HG3.out (gdrew _ _ _)) _ _ _ (by first | rfl | omega) (by first | rfl | omega) (fun h => by have := HR0.out; omega) (by simp))
              · have f1 : ¬ c2 - (LL + 13) = 0 := by have := HHC.out; have := HFLN.out; omega
                have f2 : ¬ c2 ≤ LL + 13 := by have := HHC.out; have := HFLN.out; omega
                have f3 : ¬ LL + 13 = c2 := by omega
                go_wp2_with fail
                refine ⟨⟨j + 1, k, by go_num, by have := HJK.out; omega, ?_, hid (gtrans HG2.out (gtrans HG3.out (gdrew _ _ _)))⟩, by simp only [intOf]; omega⟩
                exact hid (HREST.out _ (gtrans HG3.out (gdrew _ _ _)) _ _ _ (by first | rfl | omega) (by first | rfl | omega) (fun h => rfl) (by simp))
      · have d3 : (i : Int) < (nB : Int) := by omega
        have d4 : ¬ (i : Int) < 100 := by omega
        go_wp2_with fail
        all_goals
          obtain ⟨wo, hwo⟩ : ∃ x, x = wr := ⟨_, rfl⟩
          subst hwo
          go_loopw [3, 8] (fun bv jv W2 => ∃ (j k : Nat), jv = .int .i64 j ∧ j + k = i ∧ Hid (Rd W2 (fun _ => True) bv (frs L j k)) ∧ Hid (wo.grownBy W2 none)) (fun _ jv _ => i - (intOf jv).toNat)
          case atStart => exact ⟨0, i, rfl, Nat.zero_add _, HRB, grefl _ _⟩
          case round =>
            obtain ⟨j, k, rfl, hjk, HR2, HG2⟩ := hrel
            have HJK := hid hjk
            have HGW := hid (gtrans HG.out HG2.out)
            have HIB : Hid (i ≤ 100) := HI1
            clear hjk
            cases k with
            | zero =>
              have hd : ¬ (j : Int) < (i : Int) := by have := HJK.out; omega
              have hd2 : ¬ j < i := by omega
              obtain ⟨a2, b2, o2, c2, hb2, -⟩ := HR2.out
              subst hb2
              have hl0 : (frs L j 0).length = 0 := rfl
              rw [hl0]
              go_wp2_with (go_at_call 10; refine (HWk.out _ HGW.out).mono ?_; rintro e w9 ⟨rfl, hg9⟩)
              go_ret
              exact ⟨rfl, gtrans HGW.out hg9⟩
            | succ k =>
              have hji : j < i := by have := HJK.out; omega
              have hj100 : j ≤ 100 := by have := HI1.out; omega
              have hji2 : (j : Int) < (i : Int) := by omega
              have hka := HKA.out (by omega)
              subst hka
              have HLJ := hid (HLS.out j hji)
              have HFJ := hid (HFL.out j (k + 1) HJK.out)
              have HF1 := hid (frs_one L j k (by have := HLJ.out; omega))
              have HFLN : Hid ((frs L j (k + 1)).length = (L j).length + 13 + (frs L (j + 1) k).length) := hid (by rw [frs, List.length_append, frameL_length])
              obtain ⟨hcj, hrj, -⟩ := (HA.out wr HGW.out).2 j (by have := HIN.out; omega)
              have HRJ := hid hrj
              obtain ⟨av, bv', ov, cv, hV, -⟩ := hrj
              have HVJ := hid hV
              obtain ⟨a2, b2, o2, c2, hb2, hc2, hn2, ha2, hcell2⟩ := HR2.out
              subst hb2
              obtain ⟨rfl, hb2', -⟩ := ha2 (by have := HFLN.out; omega)
              have HREST : Hid (∀ u, wr.grownBy u none → ∀ p n c, n = (frs L (j + 1) k).length → c = c2 - ((L j).length + 13) → (0 < (frs L (j + 1) k).length → p = some (⟨b2, o2 + ((L j).length + 13), none⟩ : Addr)) → p ≠ none → Rd u (fun _ => True) (.slice p n c) (frs L (j + 1) k)) := hid (fun u hu p n c en ec hp hp2 => by
                have := Rd.rest (F := fun _ => True) ha2 hcell2 hc2 ((L j).length + 13) (by have := HFLN.out; omega) p (fun h => hp (by have := HFLN.out; omega)) (fun h => absurd h hp2)
                rw [HF1.out.2.2.2, show (frs L j (k + 1)).length - ((L j).length + 13) = (frs L (j + 1) k).length by have := HFLN.out; omega, ← en, ← ec] at this
                exact this.keep hu)
              have HUJ := hid (HUn.out wr _ j k _ HLJ.out (by have := HFJ.out; have := HAB.out; omega) HGW.out HR2.out)
              obtain ⟨LL, HLL⟩ : ∃ n, Hid ((L j).length = n) := ⟨_, hid rfl⟩
              obtain ⟨NL, HNL⟩ : ∃ n, Hid ((frs L j (k + 1)).length = n) := ⟨_, hid rfl⟩
              obtain ⟨RL, HRL⟩ : ∃ n, Hid ((frs L (j + 1) k).length = n) := ⟨_, hid rfl⟩
              rw [HLL.out] at HUJ HREST HVJ HFLN
              rw [HNL.out] at HUJ hc2 HFLN HFJ
              rw [HRL.out] at HREST HFLN
              rw [HNL.out]
              obtain ⟨Y, hy⟩ : ∃ Y : Int, (LL : Int) = Y := ⟨_, rfl⟩
              obtain ⟨M, hm⟩ : ∃ Y : Int, (NL : Int) = Y := ⟨_, rfl⟩
              have y0 : 0 ≤ Y := by omega
              have y1 : Y ≤ 1048600 := by have := HFLN.out; have := HFJ.out; have := HAB.out; omega
              have m1 : M ≤ 1048600 := by have := HFJ.out; have := HAB.out; omega
              have hym : Y + 13 ≤ M := by have := HFLN.out; omega
              have t1 : (Y + 13).toNat = LL + 13 := by omega
              have q1 : decide (Y + 13 < 13) = false := decide_eq_false (by omega)
              have q2 : decide (M < Y + 13) = false := decide_eq_false (by omega)
              have hNL2 : NL - (LL + 13) = RL := by have := HFLN.out; omega
              have HHC := hid hc2
              rw [hy] at HUJ
              have HUJ' : Hid (Calls Tryd.prog 27 #[.slice (some ⟨b2, o2, none⟩) NL c2] wr fun e w' => ∃ v', e = .returned (.tuple #[v', .int .i64 (Y + 13), .int .i64 0]) ∧ Out wr.heap.size w' v' (L j) ∧ wr.grownBy w' none) := HUJ
              clear HUJ ha2 hcell2 hn2 hcj
              go_wp2_with (go_at_call 27; refine (HUJ'.out).mono ?_; rintro e w3 ⟨v3, rfl, hO3, hg3⟩; have HO3 := hid hO3; have HG3 := hid hg3; clear hO3 hg3)
              have hck := HKC.out w3 (gtrans HG2.out HG3.out) j hji
              rw [HVJ.out] at hck
              have hcx : ∀ n, (convert 29 9 v3).run Tryd.prog (w3.drewN n) = .ok (.string (str (L j))) (w3.drewN n) := fun n => (HO3.out.keep (gdrew w3 n none)).rd.convert
              have hcv : ∀ n, (convert 29 9 (.slice av LL cv)).run Tryd.prog (w3.drewN n) = .ok (.string (str (L j))) (w3.drewN n) := fun n => by
                have := ((HRJ.out.keep HG3.out).keep (gdrew w3 n none)).convert
                rw [HVJ.out] at this
                exact this
              generalize str (L j) = S at hcx hcv
              go_quiet ((go_at_call 9; exact Calls.quiet_of_same (num_any _ _)))
              rename_i nq
              by_cases hcz : c2 = LL + 13
              · have HCZ := hid hcz
                have hR0 : RL = 0 := by have := HHC.out; have := HFLN.out; omega
                have HR0 := hid hR0
                have f1 : c2 - (LL + 13) = 0 := by omega
                clear hR0
                go_wp2_with fail
                refine ⟨⟨j + 1, k, by go_num, by have := HJK.out; omega, ?_, hid (gtrans HG2.out (gtrans HG3.out (gdrew _ _ _)))⟩, by simp only [intOf]; omega⟩
                exact hid (HREST.out _ (gtrans HG3.out (gdrew _ _ _)) _ _ _ (by first | rfl | omega) (by first | rfl | omega) (fun h => by have := HR0.out; omega) (by simp))
              · have f1 : ¬ c2 - (LL + 13) = 0 := by have := HHC.out; have := HFLN.out; omega
                have f2 : ¬ c2 ≤ LL + 13 := by have := HHC.out; have := HFLN.out; omega
                have f3 : ¬ LL + 13 = c2 := by omega
                go_wp2_with fail
                refine ⟨⟨j + 1, k, by go_num, by have := HJK.out; omega, ?_, hid (gtrans HG2.out (gtrans HG3.out (gdrew _ _ _)))⟩, by simp only [intOf]; omega⟩
                exact hid (HREST.out _ (gtrans HG3.out (gdrew _ _ _)) _ _ _ (by first | rfl | omega) (by first | rfl | omega) (fun h => rfl) (by simp))
      · obtain ⟨rfl, hbb⟩ := (HA.out wr HG.out).1 (by omega)
        obtain ⟨hcell, hrd, hll⟩ := (HA.out wr HG.out).2 i h1
        obtain ⟨av, bv', ov, cv, hV, -⟩ := hrd
        rw [hV] at hcell
        obtain ⟨X, hx⟩ : ∃ X : Int, (AL : Int) = X := ⟨_, rfl⟩
        obtain ⟨LL, HLL⟩ : ∃ n, Hid ((L i).length = n) := ⟨_, hid rfl⟩
        rw [HLL.out] at hcell h3 hll
        obtain ⟨Y, hy⟩ : ∃ Y : Int, (LL : Int) = Y := ⟨_, rfl⟩
        have x0 : 0 ≤ X := by omega
        have y0 : 0 ≤ Y := by omega
        have x1 : X ≤ 1048600 := by have := HAB.out; omega
        have y1 : Y ≤ 140737488355328 := by omega
        have hxy : ¬ X + Y < 1048576 := by omega
        have d3 : (i : Int) < (nB : Int) := by omega
        have d4 : (i : Int) < 100 := by omega
        clear h3 hll hV
        go_wp2_with fail
        all_goals
          obtain ⟨wo, hwo⟩ : ∃ x, x = wr := ⟨_, rfl⟩
          subst hwo
          go_loopw [3, 8] (fun bv jv W2 => ∃ (j k : Nat), jv = .int .i64 j ∧ j + k = i ∧ Hid (Rd W2 (fun _ => True) bv (frs L j k)) ∧ Hid (wo.grownBy W2 none)) (fun _ jv _ => i - (intOf jv).toNat)
          case atStart => exact ⟨0, i, rfl, Nat.zero_add _, HRB, grefl _ _⟩
          case round =>
            obtain ⟨j, k, rfl, hjk, HR2, HG2⟩ := hrel
            have HJK := hid hjk
            have HGW := hid (gtrans HG.out HG2.out)
            have HIB : Hid (i ≤ 100) := HI1
            clear hjk
            cases k with
            | zero =>
              have hd : ¬ (j : Int) < (i : Int) := by have := HJK.out; omega
              have hd2 : ¬ j < i := by omega
              obtain ⟨a2, b2, o2, c2, hb2, -⟩ := HR2.out
              subst hb2
              have hl0 : (frs L j 0).length = 0 := rfl
              rw [hl0]
              go_wp2_with (go_at_call 10; refine (HWk.out _ HGW.out).mono ?_; rintro e w9 ⟨rfl, hg9⟩)
              go_ret
              exact ⟨rfl, gtrans HGW.out hg9⟩
            | succ k =>
              have hji : j < i := by have := HJK.out; omega
              have hj100 : j ≤ 100 := by have := HI1.out; omega
              have hji2 : (j : Int) < (i : Int) := by omega
              have hka := HKA.out (by omega)
              subst hka
              have HLJ := hid (HLS.out j hji)
              have HFJ := hid (HFL.out j (k + 1) HJK.out)
              have HF1 := hid (frs_one L j k (by have := HLJ.out; omega))
              have HFLN : Hid ((frs L j (k + 1)).length = (L j).length + 13 + (frs L (j + 1) k).length) := hid (by rw [frs, List.length_append, frameL_length])
              obtain ⟨hcj, hrj, -⟩ := (HA.out wr HGW.out).2 j (by have := HIN.out; omega)
              have HRJ := hid hrj
              obtain ⟨av, bv', ov, cv, hV, -⟩ := hrj
              have HVJ := hid hV
              obtain ⟨a2, b2, o2, c2, hb2, hc2, hn2, ha2, hcell2⟩ := HR2.out
              subst hb2
              obtain ⟨rfl, hb2', -⟩ := ha2 (by have := HFLN.out; omega)
              have HREST : Hid (∀ u, wr.grownBy u none → ∀ p n c, n = (frs L (j + 1) k).length → c = c2 - ((L j).length + 13) → (0 < (frs L (j + 1) k).length → p = some (⟨b2, o2 + ((L j).length + 13), none⟩ : Addr)) → p ≠ none → Rd u (fun _ => True) (.slice p n c) (frs L (j + 1) k)) := hid (fun u hu p n c en ec hp hp2 => by
                have := Rd.rest (F := fun _ => True) ha2 hcell2 hc2 ((L j).length + 13) (by have := HFLN.out; omega) p (fun h => hp (by have := HFLN.out; omega)) (fun h => absurd h hp2)
                rw [HF1.out.2.2.2, show (frs L j (k + 1)).length - ((L j).length + 13) = (frs L (j + 1) k).length by have := HFLN.out; omega, ← en, ← ec] at this
                exact this.keep hu)
              have HUJ := hid (HUn.out wr _ j k _ HLJ.out (by have := HFJ.out; have := HAB.out; omega) HGW.out HR2.out)
              obtain ⟨LL, HLL⟩ : ∃ n, Hid ((L j).length = n) := ⟨_, hid rfl⟩
              obtain ⟨NL, HNL⟩ : ∃ n, Hid ((frs L j (k + 1)).length = n) := ⟨_, hid rfl⟩
              obtain ⟨RL, HRL⟩ : ∃ n, Hid ((frs L (j + 1) k).length = n) := ⟨_, hid rfl⟩
              rw [HLL.out] at HUJ HREST HVJ HFLN
              rw [HNL.out] at HUJ hc2 HFLN HFJ
              rw [HRL.out] at HREST HFLN
              rw [HNL.out]
              obtain ⟨Y, hy⟩ : ∃ Y : Int, (LL : Int) = Y := ⟨_, rfl⟩
              obtain ⟨M, hm⟩ : ∃ Y : Int, (NL : Int) = Y := ⟨_, rfl⟩
              have y0 : 0 ≤ Y := by omega
              have y1 : Y ≤ 1048600 := by have := HFLN.out; have := HFJ.out; have := HAB.out; omega
              have m1 : M ≤ 1048600 := by have := HFJ.out; have := HAB.out; omega
              have hym : Y + 13 ≤ M := by have := HFLN.out; omega
              have t1 : (Y + 13).toNat = LL + 13 := by omega
              have q1 : decide (Y + 13 < 13) = false := decide_eq_false (by omega)
              have q2 : decide (M < Y + 13) = false := decide_eq_false (by omega)
              have hNL2 : NL - (LL + 13) = RL := by have := HFLN.out; omega
              have HHC := hid hc2
              rw [hy] at HUJ
              have HUJ' : Hid (Calls Tryd.prog 27 #[.slice (some ⟨b2, o2, none⟩) NL c2] wr fun e w' => ∃ v', e = .returned (.tuple #[v', .int .i64 (Y + 13), .int .i64 0]) ∧ Out wr.heap.size w' v' (L j) ∧ wr.grownBy w' none) := HUJ
              clear HUJ ha2 hcell2 hn2 hcj
              go_wp2_with (go_at_call 27; refine (HUJ'.out).mono ?_; rintro e w3 ⟨v3, rfl, hO3, hg3⟩; have HO3 := hid hO3; have HG3 := hid hg3; clear hO3 hg3)
              have hck := HKC.out w3 (gtrans HG2.out HG3.out) j hji
              rw [HVJ.out] at hck
              have hcx : ∀ n, (convert 29 9 v3).run Tryd.prog (w3.drewN n) = .ok (.string (str (L j))) (w3.drewN n) := fun n => (HO3.out.keep (gdrew w3 n none)).rd.convert
              have hcv : ∀ n, (convert 29 9 (.slice av LL cv)).run Tryd.prog (w3.drewN n) = .ok (.string (str (L j))) (w3.drewN n) := fun n => by
                have := ((HRJ.out.keep HG3.out).keep (gdrew w3 n none)).convert
                rw [HVJ.out] at this
                exact this
              generalize str (L j) = S at hcx hcv
              go_quiet ((go_at_call 9; exact Calls.quiet_of_same (num_any _ _)))
              rename_i nq
              by_cases hcz : c2 = LL + 13
              · have HCZ := hid hcz
                have hR0 : RL = 0 := by have := HHC.out; have := HFLN.out; omega
                have HR0 := hid hR0
                have f1 : c2 - (LL + 13) = 0 := by omega
                clear hR0
                go_wp2_with fail
                refine ⟨⟨j + 1, k, by go_num, by have := HJK.out; omega, ?_, hid (gtrans HG2.out (gtrans HG3.out (gdrew _ _ _)))⟩, by simp only [intOf]; omega⟩
                exact hid (HREST.out _ (gtrans HG3.out (gdrew _ _ _)) _ _ _ (by first | rfl | omega) (by first | rfl | omega) (fun h => by have := HR0.out; omega) (by simp))
              · have f1 : ¬ c2 - (LL + 13) = 0 := by have := HHC.out; have := HFLN.out; omega
                have f2 : ¬ c2 ≤ LL + 13 := by have := HHC.out; have := HFLN.out; omega
                have f3 : ¬ LL + 13 = c2 := by omega
                go_wp2_with fail
                refine ⟨⟨j + 1, k, by go_num, by have := HJK.out; omega, ?_, hid (gtrans HG2.out (gtrans HG3.out (gdrew _ _ _)))⟩, by simp only [intOf]; omega⟩
                exact hid (HREST.out _ (gtrans HG3.out (gdrew _ _ _)) _ _ _ (by first | rfl | omega) (by first | rfl | omega) (fun h => rfl) (by simp))
end Go.Proofs.YtfalgjdhdgkbfabDoor
