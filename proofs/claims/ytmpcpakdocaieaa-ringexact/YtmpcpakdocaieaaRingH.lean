/- without, Prune, Distrust: keys left out. -/
import Derived.Test.YtmpcpakdocaieaaRingG
namespace Go.Proofs.Ytmpcpakdocaieaa
open Go Go.RowKit
open Go.RowKit (wrap32 wrap64)

def goesP (now : Int) (k : Ky) : Bool := decide (0 < k.til) && decide (k.til ≤ now)
set_option maxRecDepth 100000 in
set_option maxHeartbeats 800000 in
theorem goes_prune (w : World) (k : Ky) (hk : k.ok) (p : Nat) (now : Int) (hp : w.cell? ⟨p, 0, none⟩ = some (.int .i64 now)) :
    Calls Try.prog 37 #[.agg k.cells.toArray, .pointer (some ⟨p, 0, none⟩)] w fun e w' => e = .returned (.bool (goesP now k)) ∧ w.grownBy w' none := by
  have hpl : p < w.heap.size := cell_lt hp
  have HP := hid hp
  have hc0 := fun (u : World) (B : Nat) (h : Blk u B k.cells 107) => (by rw [h.cell]; exact Ky.c33 hk.2.1 : u.cell? ⟨B, 33, none⟩ = some (.int .i64 k.til))
  obtain ⟨K, HK⟩ : ∃ K, Hid (k.cells = K) := ⟨_, hid rfl⟩
  unfold goesP
  obtain ⟨x, HX⟩ : ∃ x, Hid (k.til = x) := ⟨_, hid rfl⟩
  rw [HK.out, HX.out] at hc0
  rw [HK.out, HX.out]
  have HC0 := hid hc0
  clear hc0 hk hp
  by_cases h0 : 0 < x
  · rw [decide_eq_true h0, Bool.true_and]
    go_enter Try.func37, Try.ntmps37
    go_wp2_with (with_reducible refine wpList_box_row (by with_unfolding_all rfl) 107 _ (by with_unfolding_all rfl) K (by with_unfolding_all rfl) ?_; intro w1 B1 s1 g1; have HB1 := hid B1; have HG1 := hid g1; have HS1 := hid s1; clear B1 g1 s1; have y0 := HC0.out _ _ HB1.out; have y1 := (cell_at HG1.out hpl (by simp)).trans HP.out)
    go_ret
    exact ⟨rfl, HG1.out⟩
  · rw [decide_eq_false h0, Bool.false_and]
    go_enter Try.func37, Try.ntmps37
    go_wp2_with (with_reducible refine wpList_box_row (by with_unfolding_all rfl) 107 _ (by with_unfolding_all rfl) K (by with_unfolding_all rfl) ?_; intro w1 B1 s1 g1; have HB1 := hid B1; have HG1 := hid g1; have HS1 := hid s1; clear B1 g1 s1; have y0 := HC0.out _ _ HB1.out; have y1 := (cell_at HG1.out hpl (by simp)).trans HP.out)
    go_ret
    exact ⟨rfl, HG1.out⟩
set_option maxRecDepth 100000 in
set_option maxHeartbeats 800000 in
theorem goes_bad (w : World) (k bad : Ky) (hk : k.ok) (hb : bad.ok) (p : Nat) (hp : Blk w p bad.cells 107) :
    Calls Try.prog 40 #[.agg k.cells.toArray, .pointer (some ⟨p, 0, none⟩)] w fun e w' => e = .returned (.bool (k == bad)) ∧ w.grownBy w' none := by
  have HP := hid hp
  have HKL : Hid (k.cells.length = 34) := hid (Ky.cells_length hk.2.1)
  have HQL : Hid (bad.cells.length = 34) := hid (Ky.cells_length hb.2.1)
  have HEq : Hid (∀ (x y : Operand) (u : World), (do eqGuard .eql 107 x y (.agg k.cells.toArray) (.agg bad.cells.toArray); binOp .eql 107 (.agg k.cells.toArray) (.agg bad.cells.toArray) : Sem Value).run Try.prog u = .ok (.bool (k == bad)) u) := fun x y u => eql_key hk.2.1 hb.2.1 u
  clear hp
  go_enter Try.func40, Try.ntmps40
  go_wp2_with (first
    | (with_reducible refine wpList_box_row (by with_unfolding_all rfl) 107 _ (by with_unfolding_all rfl) k.cells (by with_unfolding_all rfl) ?_; intro w1 B1 s1 g1; have HB1 := hid B1; have HG1 := hid g1; have HS1 := hid s1; clear B1 g1 s1; have HP1 := hid (HP.out.keep HG1.out))
    | (with_reducible refine wpList_load_part (by with_unfolding_all rfl) 107 _ (by with_unfolding_all rfl) w.heap.size 0 k.cells _ (by with_unfolding_all rfl) HB1.out.whole Try.underlying107 (by with_unfolding_all rfl) (by rw [HKL.out]; exact Try.size107) ?_)
    | (with_reducible refine wpList_load_part (by with_unfolding_all rfl) 107 _ (by with_unfolding_all rfl) p 0 bad.cells _ (by with_unfolding_all rfl) HP1.out.whole Try.underlying107 (by with_unfolding_all rfl) (by rw [HQL.out]; exact Try.size107) ?_)
    | (with_reducible refine wpList_bin (by with_unfolding_all rfl) .eql 107 _ _ _ (by with_unfolding_all rfl) _ _ _ (by with_unfolding_all rfl) (by with_unfolding_all rfl) (HEq.out _ _ _) ?_))
  go_ret
  exact ⟨rfl, HG1.out⟩
set_option maxRecDepth 100000 in
set_option maxHeartbeats 1600000 in
theorem without_prune (w : World) (v : Value) (F : Nat → Prop) (l : List Ky) (p : Nat) (now : Int) (hp : w.cell? ⟨p, 0, none⟩ = some (.int .i64 now)) (hv : RdK w F v l) (hl : l.length ≤ 1000000) :
    Calls Try.prog 36 #[v, .func (.func 37) #[] #[.pointer (some ⟨p, 0, none⟩)]] w fun e w' => ∃ v', e = .returned v' ∧ OutK w.heap.size w' v' (l.filter fun k => !goesP now k) ∧ w.grownBy w' none := by
  obtain ⟨inf, hi, hz0, hz1, hz2⟩ := info_parts Try.info107
  have hpl : p < w.heap.size := cell_lt hp
  have HP := hid hp
  have HF : Hid (∀ (u : World) (k : Ky), k.ok → w.grownBy u none → Calls Try.prog 37 #[.agg k.cells.toArray, .pointer (some ⟨p, 0, none⟩)] u fun e w' => e = .returned (.bool (goesP now k)) ∧ u.grownBy w' none) := fun u k hk hu => goes_prune u k hk p now ((cell_at hu hpl (by simp)).trans HP.out)
  obtain ⟨ho, a, b, off, c, rfl, hc, Ha, Hc⟩ := hv.open
  obtain ⟨n, HN⟩ : ∃ n, Hid (l.length = n) := ⟨_, hid rfl⟩
  have HO := hid ho
  rw [HN.out] at hl ⊢
  clear hv hc ho hp
  go_enter Try.func36, Try.ntmps36
  go_wp2_with (at_make; refine wpList_make_own _ rfl _ _ 55 rfl w.heap.size 107 inf (.agg zky.cells.toArray) 34 Try.underlying55 hi hz0 hz1 _ _ _ n rfl rfl (by omega) (by rw [hz2]; omega) (by unfold maxLen; omega) (Nat.le_refl _) ?_; intro w1 hown1 hg1; have HO1 : Hid (OutK w.heap.size w1 _ []) := hid ⟨(fun k hk => by simp at hk), hown1⟩; have HG1 := hid hg1; clear hown1 hg1)
  go_loopw [5, 13] (fun rv iv wr => ∃ i : Nat, iv = .int .i64 i ∧ i ≤ n ∧ Hid (OutK w.heap.size wr rv ((l.take i).filter fun k => !goesP now k)) ∧ Hid (w.grownBy wr none)) (fun _ iv _ => n - (intOf iv).toNat)
  case atStart => exact ⟨0, rfl, Nat.zero_le _, HO1, HG1⟩
  case round =>
    clear HO1 HG1
    obtain ⟨i, rfl, hin, HOw, HG⟩ := hrel
    by_cases hlt : i < n
    · have hil : i < l.length := by rw [HN.out]; exact hlt
      have hlt' : (i : Int) < (n : Int) := by omega
      obtain ⟨rfl, -⟩ := Ha.out (by omega)
      obtain ⟨hr, hb⟩ := Hc.out wr HG.out i hil
      have hko := HO.out _ (List.getElem_mem hil)
      have hts : l.take (i + 1) = l.take i ++ [l[i]] := List.take_succ_eq_append_getElem hil
      have hlen : ((l.take i).filter fun k => !goesP now k).length ≤ n := Nat.le_trans (List.length_filter_le _ _) (by rw [List.length_take]; omega)
      obtain ⟨K, HK⟩ : ∃ K, Hid (l[i] = K) := ⟨_, hid rfl⟩
      rw [HK.out] at hr hko hts
      have HKo := hid hko
      have HKL : Hid (K.cells.length = 34) := hid (Ky.cells_length hko.2.1)
      have HK1 : Hid (∀ v ∈ K.cells, v.oneCell' = true) := hid (Ky.one _)
      have HSL : Hid (K.sec.length = 32) := hid hko.2.1
      have HFi : Hid (∀ u, w.grownBy u none → Calls Try.prog 37 #[.agg K.cells.toArray, .pointer (some ⟨p, 0, none⟩)] u fun e w' => e = .returned (.bool (goesP now K)) ∧ u.grownBy w' none) := fun u hu => HF.out u _ hko hu
      obtain ⟨g, HGv⟩ : ∃ g, Hid (goesP now K = g) := ⟨_, hid rfl⟩
      rw [HGv.out] at HFi
      have HRr := hid hr
      have HTs := hid hts
      have HLe := hid hlen
      clear hr hko HK hil HF hts hlen
      cases g with
      | true =>
        go_wp2_with (first
          | (with_reducible refine wpList_load_part (by with_unfolding_all rfl) 107 _ (by with_unfolding_all rfl) b (off + i * 34) K.cells _ (by with_unfolding_all rfl) HRr.out Try.underlying107 (by with_unfolding_all rfl) (by rw [HKL.out]; exact Try.size107) ?_)
          | (with_reducible refine wpList_alloc_row (by with_unfolding_all rfl) 107 (by with_unfolding_all rfl) zky.cells Try.zero107 ?_; intro w2 B2 s2 g2; have HB2 := hid B2; have HG2 := hid g2; have HS2 := hid s2; clear B2 g2 s2)
          | (with_reducible refine wpList_store_all (by with_unfolding_all rfl) 107 _ _ (by with_unfolding_all rfl) _ zky.cells K.cells 107 (by with_unfolding_all rfl) (by with_unfolding_all rfl) HB2.out (by rw [HKL.out]; with_unfolding_all rfl) (by rw [HKL.out]; exact Try.size107) HK1.out ?_; intro w3 B3 g3 s3; have HB3 := hid B3; have HG3 := hid g3; have HS3 := hid s3; clear B3 g3 s3; have HGy := hid (HG2.out.andThen HG3.out (fun j hj => .inl (by injection hj with hj; omega))); have HGx := hid (gtrans HG.out HGy.out))
          | (with_reducible refine wpList_load_part (by with_unfolding_all rfl) 107 _ (by with_unfolding_all rfl) wr.heap.size 0 K.cells _ (by with_unfolding_all rfl) HB3.out.whole Try.underlying107 (by with_unfolding_all rfl) (by rw [HKL.out]; exact Try.size107) ?_)
          | (go_at_call 37; with_reducible refine (HFi.out _ HGx.out).mono ?_; rintro e w4 ⟨rfl, hg4⟩; have HG4 := hid hg4; clear hg4))
        go_roundw
        case rel => exact ⟨i + 1, by go_num, by omega, hid (by rw [HTs.out, List.filter_append]; simp only [List.filter_cons, HGv.out, List.filter_nil]; simpa using ((HOw.out.keep HGy.out).keep HG4.out)), hid (gtrans HGx.out HG4.out)⟩
        case measure => simp [intOf]; omega
      | false =>
        obtain ⟨R5, HR5⟩ : ∃ x, Hid ((l.take i).filter (fun k => !goesP now k) = x) := ⟨_, hid rfl⟩
        rw [HR5.out] at HOw HLe
        go_wp2_with (first
          | (with_reducible refine wpList_load_part (by with_unfolding_all rfl) 107 _ (by with_unfolding_all rfl) b (off + i * 34) K.cells _ (by with_unfolding_all rfl) HRr.out Try.underlying107 (by with_unfolding_all rfl) (by rw [HKL.out]; exact Try.size107) ?_)
          | (with_reducible refine wpList_alloc_row (by with_unfolding_all rfl) 107 (by with_unfolding_all rfl) zky.cells Try.zero107 ?_; intro w2 B2 s2 g2; have HB2 := hid B2; have HG2 := hid g2; have HS2 := hid s2; clear B2 g2 s2)
          | (with_reducible refine wpList_store_all (by with_unfolding_all rfl) 107 _ _ (by with_unfolding_all rfl) _ zky.cells K.cells 107 (by with_unfolding_all rfl) (by with_unfolding_all rfl) HB2.out (by rw [HKL.out]; with_unfolding_all rfl) (by rw [HKL.out]; exact Try.size107) HK1.out ?_; intro w3 B3 g3 s3; have HB3 := hid B3; have HG3 := hid g3; have HS3 := hid s3; clear B3 g3 s3; have HGy := hid (HG2.out.andThen HG3.out (fun j hj => .inl (by injection hj with hj; omega))); have HGx := hid (gtrans HG.out HGy.out))
          | (with_reducible refine wpList_load_part (by with_unfolding_all rfl) 107 _ (by with_unfolding_all rfl) wr.heap.size 0 K.cells _ (by with_unfolding_all rfl) HB3.out.whole Try.underlying107 (by with_unfolding_all rfl) (by rw [HKL.out]; exact Try.size107) ?_)
          | (with_reducible refine wpList_load_part (by with_unfolding_all rfl) 107 _ (by with_unfolding_all rfl) wr.heap.size 0 K.cells _ (by with_unfolding_all rfl) HB4.out.whole Try.underlying107 (by with_unfolding_all rfl) (by rw [HKL.out]; exact Try.size107) ?_)
          | (go_at_call 37; with_reducible refine (HFi.out _ HGx.out).mono ?_; rintro e w4 ⟨rfl, hg4⟩; have HG4 := hid hg4; clear hg4; have HB4 := hid (HB3.out.keep HG4.out))
          | (with_reducible refine wpList_slice1 (by with_unfolding_all rfl) _ (by with_unfolding_all rfl) K HSL.out (by with_unfolding_all rfl) ?_; intro w5 B5 s5 g5; have HB5 := hid B5; have HG5 := hid g5; have HS5 := hid s5; clear B5 s5 g5; have HO5 := hid (((HOw.out.keep HGy.out).keep HG4.out).keep HG5.out); have HGz := hid (gtrans (gtrans HGx.out HG4.out) HG5.out))
          | (at_builtin; refine wpList_append_keys rfl _ _ rfl w.heap.size (fun _ => True) R5 [K] HO5.out (one_rd HKo.out HB5.out _ trivial) (by show R5.length + 1 ≤ _; have := HLe.out; omega) HGz.out.size ?_; intro v6 w6 hO6 hg6; have HO6 := hid hO6; have HG6 := hid hg6; clear hO6 hg6))
        go_roundw
        case rel => exact ⟨i + 1, by go_num, by omega, hid (by rw [HTs.out, List.filter_append, HR5.out]; simp only [List.filter_cons, HGv.out, List.filter_nil]; exact HO6.out), hid (HGz.out.andThen HG6.out (fun j hj => .inl (HO5.out.block j hj)))⟩
        case measure => simp [intOf]; omega
    · have hge : ¬ (i : Int) < (n : Int) := by omega
      go_wp2_with fail
      go_ret
      refine ⟨_, rfl, ?_, HG.out⟩
      have h := HOw.out
      rw [List.take_of_length_le (by rw [HN.out]; omega)] at h
      exact h
set_option maxRecDepth 100000 in
set_option maxHeartbeats 1600000 in
theorem without_bad (w : World) (v : Value) (F : Nat → Prop) (l : List Ky) (p : Nat) (bad : Ky) (hbo : bad.ok) (hp : Blk w p bad.cells 107) (hv : RdK w F v l) (hl : l.length ≤ 1000000) :
    Calls Try.prog 36 #[v, .func (.func 40) #[] #[.pointer (some ⟨p, 0, none⟩)]] w fun e w' => ∃ v', e = .returned v' ∧ OutK w.heap.size w' v' (l.filter fun k => !(k == bad)) ∧ w.grownBy w' none := by
  obtain ⟨inf, hi, hz0, hz1, hz2⟩ := info_parts Try.info107
  have hpl : p < w.heap.size := hp.lt
  have HP := hid hp
  have HF : Hid (∀ (u : World) (k : Ky), k.ok → w.grownBy u none → Calls Try.prog 40 #[.agg k.cells.toArray, .pointer (some ⟨p, 0, none⟩)] u fun e w' => e = .returned (.bool ((k == bad))) ∧ u.grownBy w' none) := fun u k hk hu => goes_bad u k bad hk hbo p (HP.out.keep hu)
  obtain ⟨ho, a, b, off, c, rfl, hc, Ha, Hc⟩ := hv.open
  obtain ⟨n, HN⟩ : ∃ n, Hid (l.length = n) := ⟨_, hid rfl⟩
  have HO := hid ho
  rw [HN.out] at hl ⊢
  clear hv hc ho hp
  go_enter Try.func36, Try.ntmps36
  go_wp2_with (at_make; refine wpList_make_own _ rfl _ _ 55 rfl w.heap.size 107 inf (.agg zky.cells.toArray) 34 Try.underlying55 hi hz0 hz1 _ _ _ n rfl rfl (by omega) (by rw [hz2]; omega) (by unfold maxLen; omega) (Nat.le_refl _) ?_; intro w1 hown1 hg1; have HO1 : Hid (OutK w.heap.size w1 _ []) := hid ⟨(fun k hk => by simp at hk), hown1⟩; have HG1 := hid hg1; clear hown1 hg1)
  go_loopw [5, 13] (fun rv iv wr => ∃ i : Nat, iv = .int .i64 i ∧ i ≤ n ∧ Hid (OutK w.heap.size wr rv ((l.take i).filter fun k => !(k == bad))) ∧ Hid (w.grownBy wr none)) (fun _ iv _ => n - (intOf iv).toNat)
  case atStart => exact ⟨0, rfl, Nat.zero_le _, HO1, HG1⟩
  case round =>
    clear HO1 HG1
    obtain ⟨i, rfl, hin, HOw, HG⟩ := hrel
    by_cases hlt : i < n
    · have hil : i < l.length := by rw [HN.out]; exact hlt
      have hlt' : (i : Int) < (n : Int) := by omega
      obtain ⟨rfl, -⟩ := Ha.out (by omega)
      obtain ⟨hr, hb⟩ := Hc.out wr HG.out i hil
      have hko := HO.out _ (List.getElem_mem hil)
      have hts : l.take (i + 1) = l.take i ++ [l[i]] := List.take_succ_eq_append_getElem hil
      have hlen : ((l.take i).filter fun k => !(k == bad)).length ≤ n := Nat.le_trans (List.length_filter_le _ _) (by rw [List.length_take]; omega)
      obtain ⟨K, HK⟩ : ∃ K, Hid (l[i] = K) := ⟨_, hid rfl⟩
      rw [HK.out] at hr hko hts
      have HKo := hid hko
      have HKL : Hid (K.cells.length = 34) := hid (Ky.cells_length hko.2.1)
      have HK1 : Hid (∀ v ∈ K.cells, v.oneCell' = true) := hid (Ky.one _)
      have HSL : Hid (K.sec.length = 32) := hid hko.2.1
      have HFi : Hid (∀ u, w.grownBy u none → Calls Try.prog 40 #[.agg K.cells.toArray, .pointer (some ⟨p, 0, none⟩)] u fun e w' => e = .returned (.bool ((K == bad))) ∧ u.grownBy w' none) := fun u hu => HF.out u _ hko hu
      obtain ⟨g, HGv⟩ : ∃ g, Hid ((K == bad) = g) := ⟨_, hid rfl⟩
      rw [HGv.out] at HFi
      have HRr := hid hr
      have HTs := hid hts
      have HLe := hid hlen
      clear hr hko HK hil HF hts hlen
      cases g with
      | true =>
        go_wp2_with (first
          | (with_reducible refine wpList_load_part (by with_unfolding_all rfl) 107 _ (by with_unfolding_all rfl) b (off + i * 34) K.cells _ (by with_unfolding_all rfl) HRr.out Try.underlying107 (by with_unfolding_all rfl) (by rw [HKL.out]; exact Try.size107) ?_)
          | (with_reducible refine wpList_alloc_row (by with_unfolding_all rfl) 107 (by with_unfolding_all rfl) zky.cells Try.zero107 ?_; intro w2 B2 s2 g2; have HB2 := hid B2; have HG2 := hid g2; have HS2 := hid s2; clear B2 g2 s2)
          | (with_reducible refine wpList_store_all (by with_unfolding_all rfl) 107 _ _ (by with_unfolding_all rfl) _ zky.cells K.cells 107 (by with_unfolding_all rfl) (by with_unfolding_all rfl) HB2.out (by rw [HKL.out]; with_unfolding_all rfl) (by rw [HKL.out]; exact Try.size107) HK1.out ?_; intro w3 B3 g3 s3; have HB3 := hid B3; have HG3 := hid g3; have HS3 := hid s3; clear B3 g3 s3; have HGy := hid (HG2.out.andThen HG3.out (fun j hj => .inl (by injection hj with hj; omega))); have HGx := hid (gtrans HG.out HGy.out))
          | (with_reducible refine wpList_load_part (by with_unfolding_all rfl) 107 _ (by with_unfolding_all rfl) wr.heap.size 0 K.cells _ (by with_unfolding_all rfl) HB3.out.whole Try.underlying107 (by with_unfolding_all rfl) (by rw [HKL.out]; exact Try.size107) ?_)
          | (go_at_call 40; with_reducible refine (HFi.out _ HGx.out).mono ?_; rintro e w4 ⟨rfl, hg4⟩; have HG4 := hid hg4; clear hg4))
        go_roundw
        case rel => exact ⟨i + 1, by go_num, by omega, hid (by rw [HTs.out, List.filter_append]; simp only [List.filter_cons, HGv.out, List.filter_nil]; simpa using ((HOw.out.keep HGy.out).keep HG4.out)), hid (gtrans HGx.out HG4.out)⟩
        case measure => simp [intOf]; omega
      | false =>
        obtain ⟨R5, HR5⟩ : ∃ x, Hid ((l.take i).filter (fun k => !(k == bad)) = x) := ⟨_, hid rfl⟩
        rw [HR5.out] at HOw HLe
        go_wp2_with (first
          | (with_reducible refine wpList_load_part (by with_unfolding_all rfl) 107 _ (by with_unfolding_all rfl) b (off + i * 34) K.cells _ (by with_unfolding_all rfl) HRr.out Try.underlying107 (by with_unfolding_all rfl) (by rw [HKL.out]; exact Try.size107) ?_)
          | (with_reducible refine wpList_alloc_row (by with_unfolding_all rfl) 107 (by with_unfolding_all rfl) zky.cells Try.zero107 ?_; intro w2 B2 s2 g2; have HB2 := hid B2; have HG2 := hid g2; have HS2 := hid s2; clear B2 g2 s2)
          | (with_reducible refine wpList_store_all (by with_unfolding_all rfl) 107 _ _ (by with_unfolding_all rfl) _ zky.cells K.cells 107 (by with_unfolding_all rfl) (by with_unfolding_all rfl) HB2.out (by rw [HKL.out]; with_unfolding_all rfl) (by rw [HKL.out]; exact Try.size107) HK1.out ?_; intro w3 B3 g3 s3; have HB3 := hid B3; have HG3 := hid g3; have HS3 := hid s3; clear B3 g3 s3; have HGy := hid (HG2.out.andThen HG3.out (fun j hj => .inl (by injection hj with hj; omega))); have HGx := hid (gtrans HG.out HGy.out))
          | (with_reducible refine wpList_load_part (by with_unfolding_all rfl) 107 _ (by with_unfolding_all rfl) wr.heap.size 0 K.cells _ (by with_unfolding_all rfl) HB3.out.whole Try.underlying107 (by with_unfolding_all rfl) (by rw [HKL.out]; exact Try.size107) ?_)
          | (with_reducible refine wpList_load_part (by with_unfolding_all rfl) 107 _ (by with_unfolding_all rfl) wr.heap.size 0 K.cells _ (by with_unfolding_all rfl) HB4.out.whole Try.underlying107 (by with_unfolding_all rfl) (by rw [HKL.out]; exact Try.size107) ?_)
          | (go_at_call 40; with_reducible refine (HFi.out _ HGx.out).mono ?_; rintro e w4 ⟨rfl, hg4⟩; have HG4 := hid hg4; clear hg4; have HB4 := hid (HB3.out.keep HG4.out))
          | (with_reducible refine wpList_slice1 (by with_unfolding_all rfl) _ (by with_unfolding_all rfl) K HSL.out (by with_unfolding_all rfl) ?_; intro w5 B5 s5 g5; have HB5 := hid B5; have HG5 := hid g5; have HS5 := hid s5; clear B5 s5 g5; have HO5 := hid (((HOw.out.keep HGy.out).keep HG4.out).keep HG5.out); have HGz := hid (gtrans (gtrans HGx.out HG4.out) HG5.out))
          | (at_builtin; refine wpList_append_keys rfl _ _ rfl w.heap.size (fun _ => True) R5 [K] HO5.out (one_rd HKo.out HB5.out _ trivial) (by show R5.length + 1 ≤ _; have := HLe.out; omega) HGz.out.size ?_; intro v6 w6 hO6 hg6; have HO6 := hid hO6; have HG6 := hid hg6; clear hO6 hg6))
        go_roundw
        case rel => exact ⟨i + 1, by go_num, by omega, hid (by rw [HTs.out, List.filter_append, HR5.out]; simp only [List.filter_cons, HGv.out, List.filter_nil]; exact HO6.out), hid (HGz.out.andThen HG6.out (fun j hj => .inl (HO5.out.block j hj)))⟩
        case measure => simp [intOf]; omega
    · have hge : ¬ (i : Int) < (n : Int) := by omega
      go_wp2_with fail
      go_ret
      refine ⟨_, rfl, ?_, HG.out⟩
      have h := HOw.out
      rw [List.take_of_length_le (by rw [HN.out]; omega)] at h
      exact h
end Go.Proofs.Ytmpcpakdocaieaa
