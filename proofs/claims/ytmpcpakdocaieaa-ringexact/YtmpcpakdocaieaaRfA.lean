/- The reference's Check. -/
import Derived.Test.YtmpcpakdocaieaaWk
import Derived.Test.YtmpcpakdocaieaaPlR
namespace Go.Proofs.Ytmpcpakdocaieaa
open Go Go.RowKit
open Go.RowKit (wrap32 wrap64)

theorem gu_last (t : Int) : gu t true = decide (t = 0) := by unfold gu; rw [if_pos rfl]; rw [Bool.eq_iff_iff]; simp
theorem gu_not (t : Int) : gu t false = decide (0 < t) := by unfold gu; rw [if_neg (by decide)]
theorem chk_no {l : List Ky} {nx : Nat} (h : isRing l nx = false) : chk l nx = 50 := by unfold chk; rw [h, if_neg (by decide)]
theorem chk_yes {l : List Ky} {nx : Nat} (h : isRing l nx = true) : chk l nx = 0 := by unfold chk; rw [h, if_pos rfl]
theorem Ky.at_ {k : Ky} {u : World} {b o : Nat} (hk : k.ok) (h : u.rangeAt b o k.cells) : u.cell? ⟨b, o, none⟩ = some (.int .u64 k.kid) ∧ u.cell? ⟨b, o + 33, none⟩ = some (.int .i64 k.til) := ⟨h 0 _ rfl, h 33 _ (Ky.c33 hk.2.1)⟩
set_option maxRecDepth 100000 in
set_option maxHeartbeats 1600000 in
theorem rchk_any (w : World) (v : Value) (F : Nat → Prop) (l : List Ky) (nx : Nat) (hv : RdK w F v l) (hl : l.length ≤ 1099511627776) :
    Calls Try.prog 34 #[.agg #[v, .int .u64 nx]] w fun e w' => e = .returned (.int .i64 (chk l nx)) ∧ w.grownBy w' none := by
  obtain ⟨ho, a, b, off, c, rfl, hc, Ha, Hc⟩ := hv.open
  obtain ⟨n, HN⟩ : ∃ n, Hid (l.length = n) := ⟨_, hid rfl⟩
  obtain ⟨R, HR⟩ : ∃ R, Hid (chk l nx = R) := ⟨_, hid rfl⟩
  have HO := hid ho
  rw [HR.out, HN.out]
  rw [HN.out] at hl
  have HR5 : Hid (isRing l nx = false → R = 50) := hid (fun h => by rw [← HR.out]; exact chk_no h)
  have HR0 : Hid (isRing l nx = true → R = 0) := hid (fun h => by rw [← HR.out]; exact chk_yes h)
  clear hv hc ho HR
  obtain ⟨W1, hW1⟩ : ∃ x, w.alloc (.cells #[.slice a n c, .int .u64 nx] 69) = x := ⟨_, rfl⟩
  have HG1 : Hid (w.grownBy W1 none) := hid (by rw [← hW1]; exact galloc _ _ _)
  have HB1 : Hid (Blk W1 w.heap.size [.slice a n c, .int .u64 nx] 69) := hid (by rw [← hW1]; exact Blk.new w _ _)
  have x0 := HB1.out.cell 0
  have x1 := HB1.out.cell 1
  have x0' : W1.cell? ⟨w.heap.size, 0, none⟩ = some (.slice a n c) := x0
  have x1' : W1.cell? ⟨w.heap.size, 1, none⟩ = some (.int .u64 nx) := x1
  clear x0 x1
  by_cases h0 : n < 1
  · have h0' : (n : Int) < 1 := by omega
    have HRf : Hid (R = 50) := hid (HR5.out (by unfold isRing goodL; rw [HN.out, decide_eq_false (show ¬ 0 < n by omega)]; rfl))
    clear h0
    go_enter Try.func34, Try.ntmps34
    go_wp2_with fail
    go_ret
    exact ⟨by rw [HRf.out]; rfl, HG1.out⟩
  · have h0' : ¬ (n : Int) < 1 := by omega
    by_cases h8 : 8 < n
    · have h8' : (8 : Int) < (n : Int) := by omega
      have HRf : Hid (R = 50) := hid (HR5.out (by unfold isRing goodL; rw [HN.out, decide_eq_false (show ¬ n ≤ 8 by omega)]; simp))
      clear h8
      go_enter Try.func34, Try.ntmps34
      go_wp2_with fail
      go_ret
      exact ⟨by rw [HRf.out]; rfl, HG1.out⟩
    · have h8' : ¬ (8 : Int) < (n : Int) := by omega
      by_cases hx : 9223372036854775807 < nx
      · have hx' : (9223372036854775807 : Int) < (nx : Int) := by omega
        have HRf : Hid (R = 50) := hid (HR5.out (by unfold isRing; rw [decide_eq_false (show ¬ nx ≤ 9223372036854775807 by omega)]; simp))
        clear hx
        go_enter Try.func34, Try.ntmps34
        go_wp2_with fail
        go_ret
        exact ⟨by rw [HRf.out]; rfl, HG1.out⟩
      · have hx' : ¬ (9223372036854775807 : Int) < (nx : Int) := by omega
        have HX := hid hx
        obtain ⟨rfl, -⟩ := Ha.out (by rw [HN.out]; omega)
        have HRg : Hid (isRing l nx = (goodFrom 0 (l.drop 0) && decide ((lastK l).kid < nx))) := hid (by
          unfold isRing goodL
          rw [HN.out, decide_eq_true (show 0 < n by omega), decide_eq_true (show n ≤ 8 by omega), decide_eq_true (show nx ≤ 9223372036854775807 by omega), Bool.true_and, Bool.true_and, Bool.and_true]
          rfl)
        have hn8 : n ≤ 8 := by omega
        have hn1 : 1 ≤ n := by omega
        clear h8 hx Ha hx'
        have hx' : ¬ (9223372036854775807 : Int) < (nx : Int) := by have := HX.out; omega
        go_enter Try.func34, Try.ntmps34
        go_wp2_with fail
        go_loopw [4, 5] (fun bv iv wr => ∃ (x i : Nat), bv = .int .u64 x ∧ iv = .int .i64 i ∧ i ≤ n ∧ Hid (0 < i → x = (l.getD (i - 1) zky).kid) ∧ Hid (isRing l nx = (goodFrom x (l.drop i) && decide ((lastK l).kid < nx))) ∧ Hid (W1.grownBy wr none)) (fun _ iv _ => n - (intOf iv).toNat)
        case atStart => exact ⟨0, 0, rfl, rfl, Nat.zero_le _, hid (fun h => by omega), HRg, hid (grefl _ _)⟩
        case round =>
          clear HRg x0' x1' hW1
          obtain ⟨x, i, rfl, rfl, hi, HXi, HRg, HG⟩ := hrel
          have x0 : wr.cell? ⟨w.heap.size, 0, none⟩ = some (.slice (some ⟨b, off, none⟩) n c) := (HB1.out.keep HG.out).cell 0
          have x1 : wr.cell? ⟨w.heap.size, 1, none⟩ = some (.int .u64 nx) := (HB1.out.keep HG.out).cell 1
          by_cases hlt : i < n
          · have hlt' : (i : Int) < (n : Int) := by omega
            have hil : i < l.length := by rw [HN.out]; exact hlt
            obtain ⟨y0, y33⟩ := Ky.at_ (HO.out _ (List.getElem_mem hil)) (Hc.out wr (gtrans HG1.out HG.out) i hil).1
            have hgd := HRg.out
            rw [goodFrom_drop x l i hil, HN.out] at hgd
            have HKd : Hid (l.getD i zky = l[i]) := hid (by rw [List.getD_eq_getElem?_getD, List.getElem?_eq_getElem hil]; rfl)
            obtain ⟨q, hq⟩ : ∃ q, l[i] = q := ⟨_, rfl⟩
            rw [hq] at y0 y33 hgd HKd
            have HGd := hid hgd
            obtain ⟨kid, hkid⟩ : ∃ x, q.kid = x := ⟨_, rfl⟩
            obtain ⟨til, htil⟩ : ∃ x, q.til = x := ⟨_, rfl⟩
            rw [hkid] at y0 HGd
            rw [htil] at y33 HGd
            have HKid := hid hkid
            clear hgd hq hkid htil hil
            by_cases hk : kid ≤ x
            · have HRf : Hid (R = 50) := hid (HR5.out (by rw [HGd.out, decide_eq_false (show ¬ x < kid by omega)]; rfl))
              have hk' : (kid : Int) ≤ (x : Int) := by omega
              clear hk
              go_wp2_with fail
              go_ret
              exact ⟨by rw [HRf.out]; rfl, gtrans HG1.out HG.out⟩
            · have hk' : ¬ (kid : Int) ≤ (x : Int) := by omega
              have HGe := hid HGd.out
              rw [decide_eq_true (show x < kid by omega), Bool.true_and] at HGe
              clear hk HGd
              by_cases hlast : i = n - 1
              · have hl1 : ¬ (i : Int) < (n : Int) - 1 := by omega
                rw [decide_eq_true hlast, gu_last] at HGe
                clear hlast
                by_cases ht : 0 < til
                · have HRf : Hid (R = 50) := hid (HR5.out (by rw [HGe.out, decide_eq_false (show ¬ til = 0 by omega)]; rfl))
                  go_wp2_with fail
                  go_ret
                  exact ⟨by rw [HRf.out]; rfl, gtrans HG1.out HG.out⟩
                · by_cases ht2 : til < 0
                  · have HRf : Hid (R = 50) := hid (HR5.out (by rw [HGe.out, decide_eq_false (show ¬ til = 0 by omega)]; rfl))
                    go_wp2_with fail
                    go_ret
                    exact ⟨by rw [HRf.out]; rfl, gtrans HG1.out HG.out⟩
                  · rw [decide_eq_true (show til = 0 by omega), Bool.true_and] at HGe
                    go_wp2_with fail
                    go_roundw
                    case rel => exact ⟨kid, i + 1, rfl, by go_num, by omega, hid (fun _ => by rw [Nat.add_sub_cancel, HKd.out, HKid.out]), HGe, HG⟩
                    case measure => simp [intOf]; omega
              · have hl1 : (i : Int) < (n : Int) - 1 := by omega
                rw [decide_eq_false hlast, gu_not] at HGe
                clear hlast
                by_cases ht : 0 < til
                · have ht2 : ¬ til < 0 := by omega
                  rw [decide_eq_true ht, Bool.true_and] at HGe
                  go_wp2_with fail
                  go_roundw
                  case rel => exact ⟨kid, i + 1, rfl, by go_num, by omega, hid (fun _ => by rw [Nat.add_sub_cancel, HKd.out, HKid.out]), HGe, HG⟩
                  case measure => simp [intOf]; omega
                · have HRf : Hid (R = 50) := hid (HR5.out (by rw [HGe.out, decide_eq_false ht]; rfl))
                  go_wp2_with fail
                  go_ret
                  exact ⟨by rw [HRf.out]; rfl, gtrans HG1.out HG.out⟩
          · have hlt' : ¬ (i : Int) < (n : Int) := by omega
            have HLk : Hid (isRing l nx = decide (x < nx)) := hid (by
              rw [HRg.out, List.drop_of_length_le (by rw [HN.out]; omega), HXi.out (by omega)]
              show (true && decide ((lastK l).kid < nx)) = _
              rw [Bool.true_and]
              have e : lastK l = l.getD (i - 1) zky := by
                unfold lastK
                rw [List.getLast?_eq_getElem?, HN.out, List.getD_eq_getElem?_getD, show i = n by omega]
              rw [e])
            by_cases hnx : nx ≤ x
            · have HRf : Hid (R = 50) := hid (HR5.out (by rw [HLk.out, decide_eq_false (by omega)]))
              have hnx' : (nx : Int) ≤ (x : Int) := by omega
              clear hnx
              go_wp2_with fail
              go_ret
              exact ⟨by rw [HRf.out]; rfl, gtrans HG1.out HG.out⟩
            · have HRf : Hid (R = 0) := hid (HR0.out (by rw [HLk.out, decide_eq_true (by omega)]))
              have hnx' : ¬ (nx : Int) ≤ (x : Int) := by omega
              clear hnx
              go_wp2_with fail
              go_ret
              exact ⟨by rw [HRf.out]; rfl, gtrans HG1.out HG.out⟩
end Go.Proofs.Ytmpcpakdocaieaa
