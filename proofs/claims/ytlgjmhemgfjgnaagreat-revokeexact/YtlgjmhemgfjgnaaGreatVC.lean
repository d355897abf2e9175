/- place: the place that is sought, by whichever test. -/
import Derived.Test.YtlgjmhemgfjgnaaGreatVB
namespace Go.Proofs.YtlgjmhemgfjgnaaGreat
open Go Go.RowKit
open Go.RowKit (wrap32 wrap64)

theorem RdK.open {w : World} {F : Nat → Prop} {v : Value} {l : List Ky} (h : RdK w F v l) : okL l ∧ ∃ (a : Option Addr) (b off c : Nat), v = .slice a l.length c ∧ l.length ≤ c ∧ Hid (0 < l.length → a = some ⟨b, off, none⟩ ∧ b < w.heap.size) ∧ Hid (∀ u, w.grownBy u none → ∀ i (h : i < l.length), u.rangeAt b (off + i * 19) (l[i]).cells ∧ b < u.heap.size) := by
  obtain ⟨ho, a, b, off, c, hv, hc, hn, ha, hcell⟩ := h
  exact ⟨ho, a, b, off, c, hv, hc, hid (fun h => ⟨(ha h).1, (ha h).2.1⟩), hid (fun u hu i hi => ⟨range_at hu (ha (by omega)).2.1 (by simp) (hcell i hi), Nat.lt_of_lt_of_le (ha (by omega)).2.1 hu.size⟩)⟩

set_option maxRecDepth 100000 in
set_option maxHeartbeats 800000 in
theorem place_30 (w : World) (v : Value) (F : Nat → Prop) (l : List Ky) (p m : Nat) (hv : RdK w F v l) (hl : l.length ≤ 1099511627776) (hm : m ≤ l.length)
    (hf : ∀ u, w.grownBy u none → ∀ i (h : i < l.length), Calls Tryz.prog 76 #[.agg l[i].cells.toArray, .pointer (some ⟨p, 0, none⟩)] u fun e w' => e = .returned (.bool (decide (i < m))) ∧ u.grownBy w' none) :
    Calls Tryz.prog 75 #[v, .func (.func 76) #[] #[.pointer (some ⟨p, 0, none⟩)]] w fun e w' => e = .returned (.int .i64 m) ∧ w.grownBy w' none := by
  obtain ⟨ho, a, b, off, c, rfl, hc, Ha, Hc⟩ := hv.open
  obtain ⟨n, HN⟩ : ∃ n, Hid (l.length = n) := ⟨_, hid rfl⟩
  have HO := hid ho
  have HF := hid hf
  have HA : Hid (0 < n → a = some ⟨b, off, none⟩) := hid (fun h => (Ha.out (by rw [HN.out]; exact h)).1)
  have HNc : Hid (n ≤ c) := hid (by rw [← HN.out]; exact hc)
  rw [HN.out] at hl hm ⊢
  clear hv hc ho hf Ha
  go_enter Tryz.func75, Tryz.ntmps75
  go_wp2_with fail
  go_loopw [5, 6] (fun lv hv wr => ∃ i j : Nat, lv = .int .i64 i ∧ hv = .int .i64 j ∧ i ≤ m ∧ m ≤ j ∧ j ≤ n ∧ Hid (w.grownBy wr none)) (fun lv hv _ => (intOf hv).toNat - (intOf lv).toNat)
  case atStart => exact ⟨0, n, rfl, rfl, Nat.zero_le _, hm, Nat.le_refl _, hid (grefl _ _)⟩
  case round =>
    clear hm
    obtain ⟨i, j, rfl, rfl, him, hmj, hjn, HG⟩ := hrel
    by_cases hlt : i < j
    · have hlt' : (i : Int) < (j : Int) := by omega
      obtain ⟨k, HK⟩ : ∃ k, Hid (i + (j - i) / 2 = k) := ⟨_, hid rfl⟩
      have hkk : i ≤ k ∧ k < j := by have := HK.out; omega
      have hkv : (i : Int) + ((j : Int) - (i : Int)).tdiv 2 = (k : Int) := by
        rw [← HK.out, show ((j : Int) - (i : Int)) = ((j - i : Nat) : Int) by omega, show (2 : Int) = ((2 : Nat) : Int) from rfl, ← Int.ofNat_tdiv]
        omega
      have hkl : k < l.length := by rw [HN.out]; omega
      have hkn : (k : Int) < (n : Int) := by omega
      obtain rfl : a = some ⟨b, off, none⟩ := HA.out (by omega)
      have HFi : Hid (∀ u, w.grownBy u none → Calls Tryz.prog 76 #[.agg l[k].cells.toArray, .pointer (some ⟨p, 0, none⟩)] u fun e w' => e = .returned (.bool (decide (k < m))) ∧ u.grownBy w' none) := hid (fun u hu => HF.out u hu k hkl)
      have HRr := hid (Hc.out wr HG.out k hkl).1
      have HKL : Hid (l[k].cells.length = 19) := hid (Ky.cells_length (HO.out.len _ (List.getElem_mem hkl)))
      obtain ⟨K, HKc⟩ : ∃ K, Hid (l[k].cells = K) := ⟨_, hid rfl⟩
      rw [HKc.out] at HFi HRr HKL
      obtain ⟨g, HGd⟩ : ∃ g, Hid (decide (k < m) = g) := ⟨_, hid rfl⟩
      rw [HGd.out] at HFi
      have HJ : Hid (i ≤ m ∧ m ≤ j ∧ j ≤ n ∧ i ≤ k ∧ k < j) := hid ⟨him, hmj, hjn, hkk.1, hkk.2⟩
      have hj0 : (j : Int) ≤ 1099511627776 := by omega
      clear HK HKc hkl him hmj hjn hkk hlt
      cases g with
      | true =>
        have hkm : k < m := by have := HGd.out; simpa using this
        have HKM := hid hkm
        clear HGd hkm
        go_wp2_with (first
          | (with_reducible refine wpList_load_part (by with_unfolding_all rfl) 85 _ (by with_unfolding_all rfl) b (off + k * 19) K _ (by with_unfolding_all rfl) HRr.out Tryz.underlying85 (by with_unfolding_all rfl) (by rw [HKL.out]; exact Tryz.size85) ?_)
          | (go_at_call 76; with_reducible refine (HFi.out _ HG.out).mono ?_; rintro e w2 ⟨rfl, hg2⟩; have HG2 := hid hg2; clear hg2))
        go_roundw
        case rel => exact ⟨k + 1, j, by go_num, rfl, by have := HKM.out; omega, HJ.out.2.1, HJ.out.2.2.1, hid (gtrans HG.out HG2.out)⟩
        case measure => have := HJ.out; simp [intOf]; omega
      | false =>
        have hkm : ¬ k < m := by have := HGd.out; simpa using this
        have HKM := hid hkm
        clear HGd hkm
        go_wp2_with (first
          | (with_reducible refine wpList_load_part (by with_unfolding_all rfl) 85 _ (by with_unfolding_all rfl) b (off + k * 19) K _ (by with_unfolding_all rfl) HRr.out Tryz.underlying85 (by with_unfolding_all rfl) (by rw [HKL.out]; exact Tryz.size85) ?_)
          | (go_at_call 76; with_reducible refine (HFi.out _ HG.out).mono ?_; rintro e w2 ⟨rfl, hg2⟩; have HG2 := hid hg2; clear hg2))
        go_roundw
        case rel => exact ⟨i, k, rfl, by go_num, HJ.out.1, by have := HKM.out; omega, by have := HJ.out; omega, hid (gtrans HG.out HG2.out)⟩
        case measure => have := HJ.out; simp [intOf]; omega
    · have hge : ¬ (i : Int) < (j : Int) := by omega
      have him : i = m := by omega
      go_wp2_with fail
      go_ret
      exact ⟨ret_int (by omega), HG.out⟩

set_option maxRecDepth 100000 in
set_option maxHeartbeats 800000 in
theorem place_31 (w : World) (v : Value) (F : Nat → Prop) (l : List Ky) (p m : Nat) (hv : RdK w F v l) (hl : l.length ≤ 1099511627776) (hm : m ≤ l.length)
    (hf : ∀ u, w.grownBy u none → ∀ i (h : i < l.length), Calls Tryz.prog 77 #[.agg l[i].cells.toArray, .pointer (some ⟨p, 0, none⟩)] u fun e w' => e = .returned (.bool (decide (i < m))) ∧ u.grownBy w' none) :
    Calls Tryz.prog 75 #[v, .func (.func 77) #[] #[.pointer (some ⟨p, 0, none⟩)]] w fun e w' => e = .returned (.int .i64 m) ∧ w.grownBy w' none := by
  obtain ⟨ho, a, b, off, c, rfl, hc, Ha, Hc⟩ := hv.open
  obtain ⟨n, HN⟩ : ∃ n, Hid (l.length = n) := ⟨_, hid rfl⟩
  have HO := hid ho
  have HF := hid hf
  have HA : Hid (0 < n → a = some ⟨b, off, none⟩) := hid (fun h => (Ha.out (by rw [HN.out]; exact h)).1)
  have HNc : Hid (n ≤ c) := hid (by rw [← HN.out]; exact hc)
  rw [HN.out] at hl hm ⊢
  clear hv hc ho hf Ha
  go_enter Tryz.func75, Tryz.ntmps75
  go_wp2_with fail
  go_loopw [5, 6] (fun lv hv wr => ∃ i j : Nat, lv = .int .i64 i ∧ hv = .int .i64 j ∧ i ≤ m ∧ m ≤ j ∧ j ≤ n ∧ Hid (w.grownBy wr none)) (fun lv hv _ => (intOf hv).toNat - (intOf lv).toNat)
  case atStart => exact ⟨0, n, rfl, rfl, Nat.zero_le _, hm, Nat.le_refl _, hid (grefl _ _)⟩
  case round =>
    clear hm
    obtain ⟨i, j, rfl, rfl, him, hmj, hjn, HG⟩ := hrel
    by_cases hlt : i < j
    · have hlt' : (i : Int) < (j : Int) := by omega
      obtain ⟨k, HK⟩ : ∃ k, Hid (i + (j - i) / 2 = k) := ⟨_, hid rfl⟩
      have hkk : i ≤ k ∧ k < j := by have := HK.out; omega
      have hkv : (i : Int) + ((j : Int) - (i : Int)).tdiv 2 = (k : Int) := by
        rw [← HK.out, show ((j : Int) - (i : Int)) = ((j - i : Nat) : Int) by omega, show (2 : Int) = ((2 : Nat) : Int) from rfl, ← Int.ofNat_tdiv]
        omega
      have hkl : k < l.length := by rw [HN.out]; omega
      have hkn : (k : Int) < (n : Int) := by omega
      obtain rfl : a = some ⟨b, off, none⟩ := HA.out (by omega)
      have HFi : Hid (∀ u, w.grownBy u none → Calls Tryz.prog 77 #[.agg l[k].cells.toArray, .pointer (some ⟨p, 0, none⟩)] u fun e w' => e = .returned (.bool (decide (k < m))) ∧ u.grownBy w' none) := hid (fun u hu => HF.out u hu k hkl)
      have HRr := hid (Hc.out wr HG.out k hkl).1
      have HKL : Hid (l[k].cells.length = 19) := hid (Ky.cells_length (HO.out.len _ (List.getElem_mem hkl)))
      obtain ⟨K, HKc⟩ : ∃ K, Hid (l[k].cells = K) := ⟨_, hid rfl⟩
      rw [HKc.out] at HFi HRr HKL
      obtain ⟨g, HGd⟩ : ∃ g, Hid (decide (k < m) = g) := ⟨_, hid rfl⟩
      rw [HGd.out] at HFi
      have HJ : Hid (i ≤ m ∧ m ≤ j ∧ j ≤ n ∧ i ≤ k ∧ k < j) := hid ⟨him, hmj, hjn, hkk.1, hkk.2⟩
      have hj0 : (j : Int) ≤ 1099511627776 := by omega
      clear HK HKc hkl him hmj hjn hkk hlt
      cases g with
      | true =>
        have hkm : k < m := by have := HGd.out; simpa using this
        have HKM := hid hkm
        clear HGd hkm
        go_wp2_with (first
          | (with_reducible refine wpList_load_part (by with_unfolding_all rfl) 85 _ (by with_unfolding_all rfl) b (off + k * 19) K _ (by with_unfolding_all rfl) HRr.out Tryz.underlying85 (by with_unfolding_all rfl) (by rw [HKL.out]; exact Tryz.size85) ?_)
          | (go_at_call 77; with_reducible refine (HFi.out _ HG.out).mono ?_; rintro e w2 ⟨rfl, hg2⟩; have HG2 := hid hg2; clear hg2))
        go_roundw
        case rel => exact ⟨k + 1, j, by go_num, rfl, by have := HKM.out; omega, HJ.out.2.1, HJ.out.2.2.1, hid (gtrans HG.out HG2.out)⟩
        case measure => have := HJ.out; simp [intOf]; omega
      | false =>
        have hkm : ¬ k < m := by have := HGd.out; simpa using this
        have HKM := hid hkm
        clear HGd hkm
        go_wp2_with (first
          | (with_reducible refine wpList_load_part (by with_unfolding_all rfl) 85 _ (by with_unfolding_all rfl) b (off + k * 19) K _ (by with_unfolding_all rfl) HRr.out Tryz.underlying85 (by with_unfolding_all rfl) (by rw [HKL.out]; exact Tryz.size85) ?_)
          | (go_at_call 77; with_reducible refine (HFi.out _ HG.out).mono ?_; rintro e w2 ⟨rfl, hg2⟩; have HG2 := hid hg2; clear hg2))
        go_roundw
        case rel => exact ⟨i, k, rfl, by go_num, HJ.out.1, by have := HKM.out; omega, by have := HJ.out; omega, hid (gtrans HG.out HG2.out)⟩
        case measure => have := HJ.out; simp [intOf]; omega
    · have hge : ¬ (i : Int) < (j : Int) := by omega
      have him : i = m := by omega
      go_wp2_with fail
      go_ret
      exact ⟨ret_int (by omega), HG.out⟩

set_option maxRecDepth 100000 in
set_option maxHeartbeats 800000 in
theorem place_32 (w : World) (v : Value) (F : Nat → Prop) (l : List Ky) (p m : Nat) (hv : RdK w F v l) (hl : l.length ≤ 1099511627776) (hm : m ≤ l.length)
    (hf : ∀ u, w.grownBy u none → ∀ i (h : i < l.length), Calls Tryz.prog 78 #[.agg l[i].cells.toArray, .pointer (some ⟨p, 0, none⟩)] u fun e w' => e = .returned (.bool (decide (i < m))) ∧ u.grownBy w' none) :
    Calls Tryz.prog 75 #[v, .func (.func 78) #[] #[.pointer (some ⟨p, 0, none⟩)]] w fun e w' => e = .returned (.int .i64 m) ∧ w.grownBy w' none := by
  obtain ⟨ho, a, b, off, c, rfl, hc, Ha, Hc⟩ := hv.open
  obtain ⟨n, HN⟩ : ∃ n, Hid (l.length = n) := ⟨_, hid rfl⟩
  have HO := hid ho
  have HF := hid hf
  have HA : Hid (0 < n → a = some ⟨b, off, none⟩) := hid (fun h => (Ha.out (by rw [HN.out]; exact h)).1)
  have HNc : Hid (n ≤ c) := hid (by rw [← HN.out]; exact hc)
  rw [HN.out] at hl hm ⊢
  clear hv hc ho hf Ha
  go_enter Tryz.func75, Tryz.ntmps75
  go_wp2_with fail
  go_loopw [5, 6] (fun lv hv wr => ∃ i j : Nat, lv = .int .i64 i ∧ hv = .int .i64 j ∧ i ≤ m ∧ m ≤ j ∧ j ≤ n ∧ Hid (w.grownBy wr none)) (fun lv hv _ => (intOf hv).toNat - (intOf lv).toNat)
  case atStart => exact ⟨0, n, rfl, rfl, Nat.zero_le _, hm, Nat.le_refl _, hid (grefl _ _)⟩
  case round =>
    clear hm
    obtain ⟨i, j, rfl, rfl, him, hmj, hjn, HG⟩ := hrel
    by_cases hlt : i < j
    · have hlt' : (i : Int) < (j : Int) := by omega
      obtain ⟨k, HK⟩ : ∃ k, Hid (i + (j - i) / 2 = k) := ⟨_, hid rfl⟩
      have hkk : i ≤ k ∧ k < j := by have := HK.out; omega
      have hkv : (i : Int) + ((j : Int) - (i : Int)).tdiv 2 = (k : Int) := by
        rw [← HK.out, show ((j : Int) - (i : Int)) = ((j - i : Nat) : Int) by omega, show (2 : Int) = ((2 : Nat) : Int) from rfl, ← Int.ofNat_tdiv]
        omega
      have hkl : k < l.length := by rw [HN.out]; omega
      have hkn : (k : Int) < (n : Int) := by omega
      obtain rfl : a = some ⟨b, off, none⟩ := HA.out (by omega)
      have HFi : Hid (∀ u, w.grownBy u none → Calls Tryz.prog 78 #[.agg l[k].cells.toArray, .pointer (some ⟨p, 0, none⟩)] u fun e w' => e = .returned (.bool (decide (k < m))) ∧ u.grownBy w' none) := hid (fun u hu => HF.out u hu k hkl)
      have HRr := hid (Hc.out wr HG.out k hkl).1
      have HKL : Hid (l[k].cells.length = 19) := hid (Ky.cells_length (HO.out.len _ (List.getElem_mem hkl)))
      obtain ⟨K, HKc⟩ : ∃ K, Hid (l[k].cells = K) := ⟨_, hid rfl⟩
      rw [HKc.out] at HFi HRr HKL
      obtain ⟨g, HGd⟩ : ∃ g, Hid (decide (k < m) = g) := ⟨_, hid rfl⟩
      rw [HGd.out] at HFi
      have HJ : Hid (i ≤ m ∧ m ≤ j ∧ j ≤ n ∧ i ≤ k ∧ k < j) := hid ⟨him, hmj, hjn, hkk.1, hkk.2⟩
      have hj0 : (j : Int) ≤ 1099511627776 := by omega
      clear HK HKc hkl him hmj hjn hkk hlt
      cases g with
      | true =>
        have hkm : k < m := by have := HGd.out; simpa using this
        have HKM := hid hkm
        clear HGd hkm
        go_wp2_with (first
          | (with_reducible refine wpList_load_part (by with_unfolding_all rfl) 85 _ (by with_unfolding_all rfl) b (off + k * 19) K _ (by with_unfolding_all rfl) HRr.out Tryz.underlying85 (by with_unfolding_all rfl) (by rw [HKL.out]; exact Tryz.size85) ?_)
          | (go_at_call 78; with_reducible refine (HFi.out _ HG.out).mono ?_; rintro e w2 ⟨rfl, hg2⟩; have HG2 := hid hg2; clear hg2))
        go_roundw
        case rel => exact ⟨k + 1, j, by go_num, rfl, by have := HKM.out; omega, HJ.out.2.1, HJ.out.2.2.1, hid (gtrans HG.out HG2.out)⟩
        case measure => have := HJ.out; simp [intOf]; omega
      | false =>
        have hkm : ¬ k < m := by have := HGd.out; simpa using this
        have HKM := hid hkm
        clear HGd hkm
        go_wp2_with (first
          | (with_reducible refine wpList_load_part (by with_unfolding_all rfl) 85 _ (by with_unfolding_all rfl) b (off + k * 19) K _ (by with_unfolding_all rfl) HRr.out Tryz.underlying85 (by with_unfolding_all rfl) (by rw [HKL.out]; exact Tryz.size85) ?_)
          | (go_at_call 78; with_reducible refine (HFi.out _ HG.out).mono ?_; rintro e w2 ⟨rfl, hg2⟩; have HG2 := hid hg2; clear hg2))
        go_roundw
        case rel => exact ⟨i, k, rfl, by go_num, HJ.out.1, by have := HKM.out; omega, by have := HJ.out; omega, hid (gtrans HG.out HG2.out)⟩
        case measure => have := HJ.out; simp [intOf]; omega
    · have hge : ¬ (i : Int) < (j : Int) := by omega
      have him : i = m := by omega
      go_wp2_with fail
      go_ret
      exact ⟨ret_int (by omega), HG.out⟩
end Go.Proofs.YtlgjmhemgfjgnaaGreat
