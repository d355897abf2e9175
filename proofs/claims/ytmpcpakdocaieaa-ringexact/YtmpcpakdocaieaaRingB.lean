/- goodKeys. -/
import Derived.Test.YtmpcpakdocaieaaRingA
namespace Go.Proofs.Ytmpcpakdocaieaa
open Go Go.RowKit
open Go.RowKit (wrap32 wrap64)

set_option maxRecDepth 100000 in
set_option maxHeartbeats 800000 in
theorem goodKeys_any (w : World) (v : Value) (F : Nat → Prop) (l : List Ky) (hv : RdK w F v l) (hl : l.length ≤ 1099511627776) :
    Calls Try.prog 50 #[v] w fun e w' => e = .returned (.bool (goodL l)) ∧ w.grownBy w' none := by
  obtain ⟨ho, a, b, off, c, rfl, hc, Ha, Hc⟩ := hv.open
  obtain ⟨n, HN⟩ : ∃ n, Hid (l.length = n) := ⟨_, hid rfl⟩
  obtain ⟨R, HR⟩ : ∃ R, Hid (goodL l = R) := ⟨_, hid rfl⟩
  have HO := hid ho
  rw [HR.out, HN.out]
  rw [HN.out] at hl
  clear hv hc ho
  by_cases h0 : n = 0
  · have HRf : Hid (R = false) := hid (by rw [← HR.out]; unfold goodL; rw [HN.out, h0]; rfl)
    have h0' : (n : Int) = 0 := by omega
    clear h0
    go_enter Try.func50, Try.ntmps50
    go_wp2_with fail
    go_ret
    exact ⟨by rw [HRf.out]; rfl, grefl _ _⟩
  · have hn0 : ¬ (n : Int) = 0 := by omega
    by_cases h8 : 8 < n
    · have HRf : Hid (R = false) := hid (by rw [← HR.out]; unfold goodL; rw [HN.out, decide_eq_false (show ¬ n ≤ 8 by omega)]; simp)
      have hn8 : (8 : Int) < (n : Int) := by omega
      clear h8
      go_enter Try.func50, Try.ntmps50
      go_wp2_with fail
      go_ret
      exact ⟨by rw [HRf.out]; rfl, grefl _ _⟩
    · have hn8 : ¬ (8 : Int) < (n : Int) := by omega
      obtain ⟨rfl, -⟩ := Ha.out (by rw [HN.out]; omega)
      have HRg : Hid (R = goodFrom 0 (l.drop 0)) := hid (by rw [← HR.out]; unfold goodL; rw [HN.out, decide_eq_true (show 0 < n by omega), decide_eq_true (show n ≤ 8 by omega)]; rfl)
      have HN8 : Hid (n ≤ 8) := hid (by omega)
      clear h0 h8 Ha
      go_enter Try.func50, Try.ntmps50
      go_wp2_with fail
      go_loopw [3, 16] (fun av iv wr => ∃ (x i : Nat), av = .int .u64 x ∧ iv = .int .i64 i ∧ i ≤ n ∧ x < 18446744073709551616 ∧ Hid (R = goodFrom x (l.drop i)) ∧ Hid (w.grownBy wr none)) (fun _ iv _ => n - (intOf iv).toNat)
      case atStart => exact ⟨0, 0, rfl, rfl, Nat.zero_le _, by omega, HRg, hid (grefl _ _)⟩
      case round =>
        clear HRg
        obtain ⟨x, i, rfl, rfl, hi, hx, HRg, HG⟩ := hrel
        by_cases hlt : i < n
        · have hil : i < l.length := by rw [HN.out]; exact hlt
          have hlt' : (i : Int) < (n : Int) := by omega
          obtain ⟨hr, hb⟩ := Hc.out wr HG.out i hil
          obtain ⟨hk1, hk2, -, -⟩ := HO.out _ (List.getElem_mem hil)
          have HSt := hid (goodFrom_drop x l i hil)
          have hcc := fun (u : World) (B : Nat) (h : Blk u B l[i].cells 107) => (⟨by rw [h.cell]; exact Ky.c0 _, by rw [h.cell]; exact Ky.c33 hk2⟩ : u.cell? ⟨B, 0, none⟩ = some (.int .u64 l[i].kid) ∧ u.cell? ⟨B, 33, none⟩ = some (.int .i64 l[i].til))
          have HKL : Hid (l[i].cells.length = 34) := hid (Ky.cells_length hk2)
          have HK1 : Hid (∀ v ∈ l[i].cells, v.oneCell' = true) := hid (Ky.one _)
          obtain ⟨K, HK⟩ : ∃ K, Hid (l[i].cells = K) := ⟨_, hid rfl⟩
          obtain ⟨kid, HKid⟩ : ∃ K, Hid (l[i].kid = K) := ⟨_, hid rfl⟩
          obtain ⟨til, HTil⟩ : ∃ K, Hid (l[i].til = K) := ⟨_, hid rfl⟩
          rw [HN.out] at HSt
          rw [HK.out] at HKL HK1 hr
          rw [HK.out, HKid.out, HTil.out] at hcc
          rw [HKid.out, HTil.out] at HSt
          rw [HKid.out] at hk1
          have HCC := hid hcc
          have HRr := hid hr
          clear hcc hr hk2 HTil HKid HK hil
          by_cases hle : kid ≤ x
          · have hle' : (kid : Int) ≤ (x : Int) := by omega
            have HRf : Hid (R = false) := hid (by rw [HRg.out, HSt.out, decide_eq_false (show ¬ x < kid by omega)]; rfl)
            go_wp2_with (first
              | (with_reducible refine wpList_load_part (by with_unfolding_all rfl) 107 _ (by with_unfolding_all rfl) b (off + i * 34) K _ (by with_unfolding_all rfl) HRr.out Try.underlying107 (by with_unfolding_all rfl) (by rw [HKL.out]; exact Try.size107) ?_)
              | (with_reducible refine wpList_alloc_row (by with_unfolding_all rfl) 107 (by with_unfolding_all rfl) zky.cells Try.zero107 ?_; intro w1 B1 s1 g1; have HB1 := hid B1; have HG1 := hid g1; have HS1 := hid s1; clear B1 g1 s1)
              | (with_reducible refine wpList_store_all (by with_unfolding_all rfl) 107 _ _ (by with_unfolding_all rfl) _ zky.cells K 107 (by with_unfolding_all rfl) (by with_unfolding_all rfl) HB1.out (by rw [HKL.out]; with_unfolding_all rfl) (by rw [HKL.out]; exact Try.size107) HK1.out ?_; intro w2 B2 g2 s2; have HB2 := hid B2; have HG2 := hid g2; have HS2 := hid s2; clear B2 g2 s2; obtain ⟨y0, y1⟩ := HCC.out w2 _ HB2.out))
            go_ret
            exact ⟨by rw [HRf.out]; rfl, gtrans HG.out (HG1.out.andThen HG2.out (fun j hj => .inl (by injection hj with hj; omega)))⟩
          · have hle' : ¬ (kid : Int) ≤ (x : Int) := by omega
            obtain ⟨cb, HCb⟩ : ∃ cb, Hid (decide (i = n - 1) = cb) := ⟨_, hid rfl⟩
            obtain ⟨g, HGv⟩ : ∃ g, Hid (gu til cb = g) := ⟨_, hid rfl⟩
            have HGu : Hid (∀ u : World, Calls Try.prog 85 #[.int .i64 til, .bool cb] u fun e w' => e = .returned (.bool g) ∧ w' = u) := fun u => by rw [← HGv.out]; exact goodUntil_any til cb u
            rw [HCb.out, HGv.out, decide_eq_true (show x < kid by omega), Bool.true_and] at HSt
            have hcb : ((i : Int) == (n : Int) - 1) = cb := by
              rw [← HCb.out]
              by_cases h : i = n - 1
              · rw [decide_eq_true h]; simp; omega
              · rw [decide_eq_false h]; simp; omega
            cases g with
            | false =>
              have HRf : Hid (R = false) := hid (by rw [HRg.out, HSt.out]; rfl)
              go_wp2_with (first
                | (with_reducible refine wpList_load_part (by with_unfolding_all rfl) 107 _ (by with_unfolding_all rfl) b (off + i * 34) K _ (by with_unfolding_all rfl) HRr.out Try.underlying107 (by with_unfolding_all rfl) (by rw [HKL.out]; exact Try.size107) ?_)
                | (with_reducible refine wpList_alloc_row (by with_unfolding_all rfl) 107 (by with_unfolding_all rfl) zky.cells Try.zero107 ?_; intro w1 B1 s1 g1; have HB1 := hid B1; have HG1 := hid g1; have HS1 := hid s1; clear B1 g1 s1)
                | (with_reducible refine wpList_store_all (by with_unfolding_all rfl) 107 _ _ (by with_unfolding_all rfl) _ zky.cells K 107 (by with_unfolding_all rfl) (by with_unfolding_all rfl) HB1.out (by rw [HKL.out]; with_unfolding_all rfl) (by rw [HKL.out]; exact Try.size107) HK1.out ?_; intro w2 B2 g2 s2; have HB2 := hid B2; have HG2 := hid g2; have HS2 := hid s2; clear B2 g2 s2; obtain ⟨y0, y1⟩ := HCC.out w2 _ HB2.out)
                | (go_at_call 85; with_reducible refine (HGu.out _).mono ?_; rintro e w3 ⟨rfl, hw3⟩; have hw4 := hw3.symm; clear hw3; subst hw4))
              go_ret
              exact ⟨by rw [HRf.out]; rfl, gtrans HG.out (HG1.out.andThen HG2.out (fun j hj => .inl (by injection hj with hj; omega)))⟩
            | true =>
              have HRt : Hid (R = goodFrom kid (l.drop (i + 1))) := hid (by rw [HRg.out, HSt.out, Bool.true_and])
              go_wp2_with (first
                | (with_reducible refine wpList_load_part (by with_unfolding_all rfl) 107 _ (by with_unfolding_all rfl) b (off + i * 34) K _ (by with_unfolding_all rfl) HRr.out Try.underlying107 (by with_unfolding_all rfl) (by rw [HKL.out]; exact Try.size107) ?_)
                | (with_reducible refine wpList_alloc_row (by with_unfolding_all rfl) 107 (by with_unfolding_all rfl) zky.cells Try.zero107 ?_; intro w1 B1 s1 g1; have HB1 := hid B1; have HG1 := hid g1; have HS1 := hid s1; clear B1 g1 s1)
                | (with_reducible refine wpList_store_all (by with_unfolding_all rfl) 107 _ _ (by with_unfolding_all rfl) _ zky.cells K 107 (by with_unfolding_all rfl) (by with_unfolding_all rfl) HB1.out (by rw [HKL.out]; with_unfolding_all rfl) (by rw [HKL.out]; exact Try.size107) HK1.out ?_; intro w2 B2 g2 s2; have HB2 := hid B2; have HG2 := hid g2; have HS2 := hid s2; clear B2 g2 s2; obtain ⟨y0, y1⟩ := HCC.out w2 _ HB2.out)
                | (go_at_call 85; with_reducible refine (HGu.out _).mono ?_; rintro e w3 ⟨rfl, hw3⟩; have hw4 := hw3.symm; clear hw3; subst hw4))
              go_roundw
              case rel => exact ⟨kid, i + 1, rfl, by go_num, by omega, hk1, HRt, hid (gtrans HG.out (HG1.out.andThen HG2.out (fun j hj => .inl (by injection hj with hj; omega))))⟩
              case measure => simp [intOf]; omega
        · have hge : ¬ (i : Int) < (n : Int) := by omega
          have HRt : Hid (R = true) := hid (by rw [HRg.out, List.drop_of_length_le (by rw [HN.out]; omega)]; rfl)
          go_wp2_with fail
          go_ret
          exact ⟨by rw [HRt.out]; rfl, HG.out⟩
end Go.Proofs.Ytmpcpakdocaieaa
