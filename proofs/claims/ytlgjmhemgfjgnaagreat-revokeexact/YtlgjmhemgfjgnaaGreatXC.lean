/- The reference's Prune, Has. -/
import Derived.Test.YtlgjmhemgfjgnaaGreatXB
import Derived.Test.YtlgjmhemgfjgnaaGreatX04
namespace Go.Proofs.YtlgjmhemgfjgnaaGreat
open Go Go.RowKit
open Go.RowKit (wrap32 wrap64)

set_option maxRecDepth 100000 in
set_option maxHeartbeats 3200000 in
theorem rprune_any (w : World) (v : Value) (F : Nat → Prop) (l : List Ky) (now : Int) (hv : RdK w F v l) (hl : l.length ≤ 1000000) :
    Calls Tryz.prog 23 #[v, .int .i64 now] w fun e w' => ∃ v', e = .returned v' ∧ OutK w.heap.size w' v' (prnL l now) ∧ w.grownBy w' none := by
  obtain ⟨ho, a, b, off, c, rfl, hc, Ha, Hc⟩ := hv.open
  have HCk : Hid (∀ u, w.grownBy u none → Calls Tryz.prog 18 #[.slice a l.length c] u fun e w' => e = .returned (.int .i64 (if chk l = true then 0 else 140)) ∧ u.grownBy w' none) := hid (fun u hu => rcheck_any u _ F l (hv.keep hu) (by omega))
  obtain ⟨n, HN⟩ : ∃ n, Hid (l.length = n) := ⟨_, hid rfl⟩
  have HO := hid ho
  have HLn : Hid (n ≤ 1000000) := hid (by rw [← HN.out]; exact hl)
  have HA : Hid (0 < n → a = some ⟨b, off, none⟩) := hid (fun h => (Ha.out (by rw [HN.out]; exact h)).1)
  rw [HN.out] at HCk hl ⊢
  have HPt : Hid (chk l = true → prnL l now = (l.take n).filter (fun r => decide (now < r.ex))) := hid (fun h => by rw [List.take_of_length_le (by rw [HN.out]; omega)]; unfold prnL; rw [if_pos h])
  have HPf : Hid (chk l = false → prnL l now = []) := hid (fun h => by unfold prnL; rw [h, if_neg (by decide)])
  obtain ⟨T, HT⟩ : ∃ T, Hid (prnL l now = T) := ⟨_, hid rfl⟩
  rw [HT.out] at HPt HPf ⊢
  obtain ⟨R, HR⟩ : ∃ R, Hid (chk l = R) := ⟨_, hid rfl⟩
  rw [HR.out] at HPt HPf HCk
  clear hv hc ho Ha HT HR
  cases R with
  | false =>
    have HC0 : Hid (∀ u, w.grownBy u none → Calls Tryz.prog 18 #[.slice a n c] u fun e w' => e = .returned (.int .i64 140) ∧ u.grownBy w' none) := hid (fun u hu => HCk.out u hu)
    have hT := HPf.out rfl
    subst hT
    clear HPt HPf HCk
    go_enter Tryz.func23, Tryz.ntmps23
    go_wp2_with (go_at_call 18; (with_reducible refine (HC0.out _ (grefl _ _)).mono ?_); rintro e w1 ⟨rfl, gg⟩; have HG1 := hid gg; clear gg)
    go_ret
    exact ⟨_, rfl, OutK.nil _ _, HG1.out⟩
  | true =>
    have HC0 : Hid (∀ u, w.grownBy u none → Calls Tryz.prog 18 #[.slice a n c] u fun e w' => e = .returned (.int .i64 0) ∧ u.grownBy w' none) := hid (fun u hu => HCk.out u hu)
    have HP := hid (HPt.out rfl)
    clear HPt HPf HCk
    go_enter Tryz.func23, Tryz.ntmps23
    go_wp2_with (go_at_call 18; (with_reducible refine (HC0.out _ (grefl _ _)).mono ?_); rintro e w1 ⟨rfl, gg⟩; have HG1 := hid gg; clear gg)
    go_loopw [5, 6] (fun sv iv wr => ∃ (x : Value) (i : Nat) (acc : List Ky), x = sv ∧ iv = .int .i64 i ∧ i ≤ n ∧ Hid (OutK w.heap.size wr x acc) ∧ Hid (acc = (l.take i).filter (fun r => decide (now < r.ex))) ∧ Hid (w.grownBy wr none)) (fun _ iv _ => n - (intOf iv).toNat)
    case atStart => exact ⟨_, 0, [], rfl, rfl, Nat.zero_le _, hid (OutK.nil _ _), hid rfl, HG1⟩
    case round =>
      obtain ⟨x, i, acc, rfl, rfl, hi, HS, HAc, HG⟩ := hrel
      obtain ⟨w0, hw0⟩ : ∃ x, x = wr := ⟨_, rfl⟩
      subst hw0
      by_cases hlt : i < n
      · have hil : i < l.length := by rw [HN.out]; exact hlt
        have hlt' : (i : Int) < (n : Int) := by omega
        obtain rfl : a = some ⟨b, off, none⟩ := HA.out (by omega)
        have hko := HO.out _ (List.getElem_mem hil)
        have HKr := hid (Hc.out w0 HG.out i hil).1
        have HKL : Hid ((Tryz.prog.info? 85).map (·.size) = some l[i].cells.length) := hid (by rw [Ky.cells_length hko.2.1]; exact Tryz.size85)
        have hq0 : w0.cell? ⟨b, off + i * 19, none⟩ = some (.bool l[i].wh) := HKr.out 0 _ (Ky.c0 _)
        have hq1 : w0.cell? ⟨b, off + i * 19 + 1, none⟩ = some (.int .u64 l[i].g) := HKr.out 1 _ (Ky.c1 _)
        have hq18 : w0.cell? ⟨b, off + i * 19 + 18, none⟩ = some (.int .i64 l[i].ex) := HKr.out 18 _ (Ky.c18 hko.2.1)
        have HAl : Hid (acc.length ≤ i) := hid (by rw [HAc.out]; exact Nat.le_trans (List.length_filter_le _ _) (by rw [List.length_take]; omega))
        have HNx : Hid ((l.take (i + 1)).filter (fun r => decide (now < r.ex)) = acc ++ (if now < l[i].ex then [l[i]] else [])) := hid (by
          rw [List.take_succ_eq_append_getElem hil, List.filter_append, ← HAc.out]
          by_cases h : now < l[i].ex
          · rw [if_pos h, List.filter_cons_of_pos (by simpa using h)]; rfl
          · rw [if_neg h, List.filter_cons_of_neg (by simpa using h)]; rfl)
        have HQo := hid hko
        have HQl : Hid (l[i].id.length = 16) := hid hko.2.1
        obtain ⟨q, hq⟩ : ∃ q, l[i] = q := ⟨_, rfl⟩
        rw [hq] at HKr HKL hq18 HNx HQo HQl
        obtain ⟨ex, hex⟩ : ∃ x, q.ex = x := ⟨_, rfl⟩
        rw [hex] at hq18 HNx
        obtain ⟨K, HKe⟩ : ∃ x, Hid (q.cells = x) := ⟨_, hid rfl⟩
        rw [HKe.out] at HKr HKL
        have HIn := hid hlt
        clear hq hex hko hil hq0 hq1 hi hlt
        by_cases he : now < ex
        · have HNy : Hid ((l.take (i + 1)).filter (fun r => decide (now < r.ex)) = acc ++ [q]) := hid (by rw [HNx.out, if_pos he])
          clear HNx
          go_wp2_with (first
            | (have hb9 := HK9.out; clear HK9; at_builtin; refine wpList_append_keys rfl _ _ rfl w.heap.size (fun _ => True) acc [q] (HS.out.keep HG9.out) (one_rd HQo.out hb9 _ trivial) (by have := HAl.out; have := HLn.out; have := HIn.out; show acc.length + 1 ≤ _; omega) (Nat.le_trans HG.out.size HG9.out.size) ?_; intro v10 w10 hO10 hg10; have HO10 := hid hO10; have HG10 : Hid (w.grownBy w10 none) := hid ((gtrans HG.out HG9.out).andThen hg10 (fun j hj => .inl (HS.out.block j hj))); clear hO10 hg10)
            | ((with_reducible refine wpList_slice1 (by with_unfolding_all rfl) _ (by with_unfolding_all rfl) q HQl.out (by rw [HKe.out]; with_unfolding_all rfl) ?_); intro w9 B9 s9 g9; have HK9 := hid B9; have HG9 := hid g9; clear B9 s9 g9)
            | (with_reducible refine wpList_load_part (by with_unfolding_all rfl) 85 _ (by with_unfolding_all rfl) b (off + i * 19) K _ (by with_unfolding_all rfl) HKr.out Tryz.under48 (by with_unfolding_all rfl) HKL.out ?_))
          go_roundw
          case rel => exact ⟨_, i + 1, _, rfl, by go_num, by have := HIn.out; omega, HO10, hid HNy.out.symm, HG10⟩
          case measure => have := HIn.out; simp [intOf]; omega
        · have HNy : Hid ((l.take (i + 1)).filter (fun r => decide (now < r.ex)) = acc) := hid (by rw [HNx.out, if_neg he, List.append_nil])
          clear HNx
          go_wp2_with fail
          go_roundw
          case rel => exact ⟨_, i + 1, acc, rfl, by go_num, by have := HIn.out; omega, HS, hid HNy.out.symm, HG⟩
          case measure => have := HIn.out; simp [intOf]; omega
      · have hlt' : ¬ (i : Int) < (n : Int) := by omega
        obtain rfl : i = n := by omega
        have HF : Hid (OutK w.heap.size w0 x T) := hid (by rw [HP.out, ← HAc.out]; exact HS.out)
        go_wp2_with fail
        go_ret
        exact ⟨_, rfl, HF.out, HG.out⟩
end Go.Proofs.YtlgjmhemgfjgnaaGreat
