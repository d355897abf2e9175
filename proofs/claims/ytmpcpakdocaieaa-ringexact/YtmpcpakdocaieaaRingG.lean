/- look, Find. -/
import Derived.Test.YtmpcpakdocaieaaRingF
namespace Go.Proofs.Ytmpcpakdocaieaa
open Go Go.RowKit
open Go.RowKit (wrap32 wrap64)

def keyOr (o : Option Ky) : Ky := o.getD zky
theorem find_some {l : List Ky} {kid : Nat} {q : Ky} (h : findK l kid = some q) : ∃ m, ∃ hm : m < l.length, l[m] = q ∧ l[m].kid = kid ∧ ∀ j (h : j < l.length), j < m → ¬ l[j].kid = kid := by
  unfold findK at h
  obtain ⟨h1, i, hi, h2, h3⟩ := List.find?_eq_some_iff_getElem.1 h
  refine ⟨i, hi, h2, by rw [h2]; simpa using h1, fun j hj hji => ?_⟩
  simpa using h3 j hji
theorem find_none {l : List Ky} {kid : Nat} (h : findK l kid = none) : ∀ j (h : j < l.length), ¬ l[j].kid = kid := fun j hj => by
  unfold findK at h
  have := List.find?_eq_none.1 h _ (List.getElem_mem hj)
  simpa using this
set_option maxRecDepth 100000 in
set_option maxHeartbeats 800000 in
theorem look_any (w : World) (v : Value) (F : Nat → Prop) (l : List Ky) (p kid : Nat) (hv : RdK w F v l) (hl : l.length ≤ 1099511627776) (hp : w.cell? ⟨p, 0, none⟩ = some (.int .u64 kid)) :
    Calls Try.prog 48 #[v, .func (.func 49) #[] #[.pointer (some ⟨p, 0, none⟩)]] w fun e w' => e = .returned (.tuple #[.agg (keyOr (findK l kid)).cells.toArray, .bool (findK l kid).isSome]) ∧ w.grownBy w' none := by
  have hpl : p < w.heap.size := cell_lt hp
  have HP := hid hp
  have HV := hid hv
  obtain ⟨ho, a, b, off, c, rfl, hc, Ha, Hc⟩ := hv.open
  obtain ⟨n, HN⟩ : ∃ n, Hid (l.length = n) := ⟨_, hid rfl⟩
  have HO := hid ho
  clear hc ho hp
  cases hf : findK l kid with
  | none =>
    have hn := find_none hf
    have HIx : Hid (∀ u, w.grownBy u none → Calls Try.prog 84 #[.slice a n c, .func (.func 49) #[] #[.pointer (some ⟨p, 0, none⟩)]] u fun e w' => e = .returned (.int .i64 (-1)) ∧ u.grownBy w' none) := fun u hu => by
      have := index_any u _ F l p kid l.length (HV.out.keep hu) hl ((cell_at hu hpl (by simp)).trans HP.out) (Nat.le_refl _) (fun j h _ => hn j h) (fun h => absurd h (Nat.lt_irrefl _))
      rw [if_neg (Nat.lt_irrefl _), HN.out] at this
      exact this
    rw [HN.out]
    show Calls _ _ _ _ (fun e w' => e = .returned (.tuple #[.agg zky.cells.toArray, .bool false]) ∧ w.grownBy w' none)
    clear hn hf hv Ha Hc hl
    go_enter Try.func48, Try.ntmps48
    go_wp2_with (first
      | (with_reducible refine wpList_alloc_row (by with_unfolding_all rfl) 107 (by with_unfolding_all rfl) zky.cells Try.zero107 ?_; intro w1 B1 s1 g1; have HB1 := hid B1; have HG1 := hid g1; have HS1 := hid s1; clear B1 g1 s1)
      | (go_at_call 84; with_reducible refine (HIx.out _ HG1.out).mono ?_; rintro e w2 ⟨rfl, hg2⟩; have HG2 := hid hg2; clear hg2; have HB2 := hid (HB1.out.keep HG2.out))
      | (with_reducible refine wpList_build_row (by with_unfolding_all rfl) 107 (by with_unfolding_all rfl) zky.cells Try.built107 ?_)
      | (with_reducible refine wpList_store_all (by with_unfolding_all rfl) 107 _ _ (by with_unfolding_all rfl) _ zky.cells zky.cells 107 (by with_unfolding_all rfl) (by with_unfolding_all rfl) HB2.out (by with_unfolding_all rfl) (by with_unfolding_all exact Try.size107) (Ky.one _) ?_; intro w3 B3 g3 s3; have HB3 := hid B3; have HG3 := hid g3; have HS3 := hid s3; clear B3 g3 s3))
    refine bodyPost_ret (v := .tuple #[.agg zky.cells.toArray, .bool false]) (results_blk_tmp rfl _ w.heap.size 107 zky.cells _ (.bool false) rfl rfl HB3.out Try.underlying107 rfl Try.size107) rfl ?_
    exact ⟨rfl, (gtrans HG1.out HG2.out).andThen HG3.out (fun j hj => .inl (by injection hj with hj; omega))⟩
  | some q =>
    obtain ⟨m, hm, hq, hkid, hj⟩ := find_some hf
    subst hq
    have HIx : Hid (∀ u, w.grownBy u none → Calls Try.prog 84 #[.slice a n c, .func (.func 49) #[] #[.pointer (some ⟨p, 0, none⟩)]] u fun e w' => e = .returned (.int .i64 m) ∧ u.grownBy w' none) := fun u hu => by
      have := index_any u _ F l p kid m (HV.out.keep hu) hl ((cell_at hu hpl (by simp)).trans HP.out) (Nat.le_of_lt hm) hj (fun _ => hkid)
      rw [if_pos hm, HN.out] at this
      exact this
    obtain ⟨rfl, -⟩ := Ha.out (by omega)
    have HKL : Hid (l[m].cells.length = 34) := hid (Ky.cells_length (HO.out.len _ (List.getElem_mem hm)))
    have HK1 : Hid (∀ v ∈ l[m].cells, v.oneCell' = true) := hid (Ky.one _)
    have HRr : Hid (∀ u, w.grownBy u none → u.rangeAt b (off + m * 34) l[m].cells ∧ b < u.heap.size) := hid (fun u hu => Hc.out u hu m hm)
    have hmn : (m : Int) < (n : Int) := by rw [HN.out] at hm; omega
    show Calls _ _ _ _ (fun e w' => e = .returned (.tuple #[.agg l[m].cells.toArray, .bool true]) ∧ w.grownBy w' none)
    obtain ⟨K, HK⟩ : ∃ K, Hid (l[m].cells = K) := ⟨_, hid rfl⟩
    rw [HK.out] at HKL HK1 HRr
    rw [HN.out, HK.out]
    clear hf hv Ha Hc hl hj hkid HK hm
    go_enter Try.func48, Try.ntmps48
    go_wp2_with (first
      | (with_reducible refine wpList_alloc_row (by with_unfolding_all rfl) 107 (by with_unfolding_all rfl) zky.cells Try.zero107 ?_; intro w1 B1 s1 g1; have HB1 := hid B1; have HG1 := hid g1; have HS1 := hid s1; clear B1 g1 s1)
      | (go_at_call 84; with_reducible refine (HIx.out _ HG1.out).mono ?_; rintro e w2 ⟨rfl, hg2⟩; have HG2 := hid hg2; clear hg2; have HB2 := hid (HB1.out.keep HG2.out); have hbb := (HRr.out _ (gtrans HG1.out HG2.out)).2)
      | (with_reducible refine wpList_load_part (by with_unfolding_all rfl) 107 _ (by with_unfolding_all rfl) b (off + m * 34) K _ (by with_unfolding_all rfl) ((HRr.out _ (gtrans HG1.out HG2.out)).1) Try.underlying107 (by with_unfolding_all rfl) (by rw [HKL.out]; exact Try.size107) ?_)
      | (with_reducible refine wpList_store_all (by with_unfolding_all rfl) 107 _ _ (by with_unfolding_all rfl) _ zky.cells K 107 (by with_unfolding_all rfl) (by with_unfolding_all rfl) HB2.out (by rw [HKL.out]; with_unfolding_all rfl) (by rw [HKL.out]; exact Try.size107) HK1.out ?_; intro w3 B3 g3 s3; have HB3 := hid B3; have HG3 := hid g3; have HS3 := hid s3; clear B3 g3 s3))
    refine bodyPost_ret (v := .tuple #[.agg K.toArray, .bool true]) (results_blk_tmp rfl _ w.heap.size 107 K _ (.bool true) rfl rfl HB3.out Try.underlying107 rfl (by rw [HKL.out]; exact Try.size107)) rfl ?_
    exact ⟨rfl, (gtrans HG1.out HG2.out).andThen HG3.out (fun j hj => .inl (by injection hj with hj; omega))⟩

/-- What Find tells. -/
def fnd (l : List Ky) (nx kid : Nat) : Option Ky := if isRing l nx = true then findK l kid else none
theorem fnd_mem {l : List Ky} {nx kid : Nat} {q : Ky} (h : fnd l nx kid = some q) : q ∈ l := by
  unfold fnd at h
  split at h
  · exact List.mem_of_find?_eq_some h
  · cases h
theorem keyOr_ok {l : List Ky} (ho : okL l) (nx kid : Nat) : (keyOr (fnd l nx kid)).ok := by
  cases h : fnd l nx kid with
  | none => exact zky_ok
  | some q => exact ho q (fnd_mem h)
set_option maxRecDepth 100000 in
set_option maxHeartbeats 800000 in
theorem rfind_any (w : World) (v : Value) (F : Nat → Prop) (l : List Ky) (nx kid : Nat) (hv : RdK w F v l) (hl : l.length ≤ 1099511627776) :
    Calls Try.prog 30 #[.agg #[v, .int .u64 nx], .int .u64 kid] w fun e w' => e = .returned (.tuple #[.agg (keyOr (fnd l nx kid)).cells.toArray, .bool (fnd l nx kid).isSome]) ∧ w.grownBy w' none := by
  have HV := hid hv
  obtain ⟨ho, a, b, off, c, rfl, hc, Ha, Hc⟩ := hv.open
  obtain ⟨n, HN⟩ : ∃ n, Hid (l.length = n) := ⟨_, hid rfl⟩
  have HO := hid ho
  obtain ⟨g, HGd⟩ : ∃ g, Hid (isRing l nx = g) := ⟨_, hid rfl⟩
  have HCk : Hid (∀ u, w.grownBy u none → Calls Try.prog 31 #[.agg #[.slice a n c, .int .u64 nx]] u fun e w' => e = .returned (.int .i64 (if g = true then 0 else 50)) ∧ u.grownBy w' none) := fun u hu => by
    have := check_any u _ F l nx (HV.out.keep hu) hl
    unfold chk at this
    rw [HGd.out, HN.out] at this
    exact this
  rw [HN.out] at HV
  have HFd : Hid (fnd l nx kid = if g = true then findK l kid else none) := hid (by unfold fnd; rw [HGd.out])
  have HKok := hid (keyOr_ok ho nx kid)
  have HLk : Hid (∀ (u : World) (p : Nat), u.cell? ⟨p, 0, none⟩ = some (.int .u64 kid) → w.grownBy u none → Calls Try.prog 48 #[.slice a n c, .func (.func 49) #[] #[.pointer (some ⟨p, 0, none⟩)]] u fun e w' => e = .returned (.tuple #[.agg (keyOr (findK l kid)).cells.toArray, .bool (findK l kid).isSome]) ∧ u.grownBy w' none) := fun u p hp hu => look_any u _ F l p kid (HV.out.keep hu) hl hp
  rw [HN.out, HFd.out]
  rw [HFd.out] at HKok
  clear hv hc ho Ha Hc hl HFd
  obtain ⟨W1, hW1⟩ : ∃ x, w.alloc (.cells #[.slice a n c, .int .u64 nx] 69) = x := ⟨_, rfl⟩
  obtain ⟨b1, hb1⟩ : ∃ x, w.heap.size = x := ⟨_, rfl⟩
  have HB1 : Hid (Blk W1 b1 [.slice a n c, .int .u64 nx] 69) := hid (by rw [← hW1, ← hb1]; exact Blk.new w [.slice a n c, .int .u64 nx] 69)
  have HG1 : Hid (w.grownBy W1 none) := hid (by rw [← hW1]; exact galloc _ _ _)
  have HSz : Hid (W1.heap.size = b1 + 1) := hid (by rw [← hW1, ← hb1]; simp)
  obtain ⟨W2, hW2⟩ : ∃ x, W1.alloc (.cells #[.int .u64 kid] 67) = x := ⟨_, rfl⟩
  have HB2 : Hid (Blk W2 (b1 + 1) [.int .u64 kid] 67) := hid (by rw [← hW2, ← HSz.out]; exact Blk.new W1 [.int .u64 kid] 67)
  have HG2 : Hid (W1.grownBy W2 none) := hid (by rw [← hW2]; exact galloc _ _ _)
  have hs2 := HSz.out
  cases g with
  | false =>
    rw [if_neg (by decide)] at HCk ⊢
    show Calls _ _ _ _ (fun e w' => e = .returned (.tuple #[.agg zky.cells.toArray, .bool false]) ∧ w.grownBy w' none)
    go_enter Try.func30, Try.ntmps30
    go_wp2_with (first
      | (with_reducible refine wpList_alloc_row (by with_unfolding_all rfl) 107 (by with_unfolding_all rfl) zky.cells Try.zero107 ?_; intro w3 B3 s3 g3; have HB3 := hid B3; have HG3 := hid g3; have HS3 := hid s3; clear B3 g3 s3; have y0 := ((HB1.out.keep HG2.out).keep HG3.out).cell 0; have y1 := ((HB1.out.keep HG2.out).keep HG3.out).cell 1)
      | (go_at_call 31; with_reducible refine (HCk.out _ (gtrans HG1.out (gtrans HG2.out HG3.out))).mono ?_; rintro e w4 ⟨rfl, hg4⟩; have HG4 := hid hg4; clear hg4; have HB4 := hid (HB3.out.keep HG4.out))
      | (with_reducible refine wpList_build_row (by with_unfolding_all rfl) 107 (by with_unfolding_all rfl) zky.cells Try.built107 ?_)
      | (with_reducible refine wpList_store_all (by with_unfolding_all rfl) 107 _ _ (by with_unfolding_all rfl) _ zky.cells zky.cells 107 (by with_unfolding_all rfl) (by with_unfolding_all rfl) HB4.out (by with_unfolding_all rfl) (by with_unfolding_all exact Try.size107) (Ky.one _) ?_; intro w5 B5 g5 s5; have HB5 := hid B5; have HG5 := hid g5; have HS5 := hid s5; clear B5 g5 s5))
    refine bodyPost_ret (v := .tuple #[.agg zky.cells.toArray, .bool false]) (results_blk_tmp rfl _ W2.heap.size 107 zky.cells _ (.bool false) rfl rfl HB5.out Try.underlying107 rfl Try.size107) rfl ?_
    exact ⟨rfl, (gtrans (gtrans HG1.out (gtrans HG2.out HG3.out)) HG4.out).andThen HG5.out (fun j hj => .inl (by injection hj with hj; have := HG1.out.size; have := HG2.out.size; omega))⟩
  | true =>
    rw [if_pos rfl] at HCk HKok ⊢
    obtain ⟨K, HK⟩ : ∃ K, Hid ((keyOr (findK l kid)).cells = K) := ⟨_, hid rfl⟩
    obtain ⟨B, HBl⟩ : ∃ B, Hid ((findK l kid).isSome = B) := ⟨_, hid rfl⟩
    have HKL : Hid (K.length = 34) := hid (by rw [← HK.out]; exact Ky.cells_length HKok.out.2.1)
    have HK1 : Hid (∀ v ∈ K, v.oneCell' = true) := hid (by rw [← HK.out]; exact Ky.one _)
    rw [HK.out, HBl.out] at HLk ⊢
    clear HK HKok
    go_enter Try.func30, Try.ntmps30
    go_wp2_with (first
      | (with_reducible refine wpList_alloc_row (by with_unfolding_all rfl) 107 (by with_unfolding_all rfl) zky.cells Try.zero107 ?_; intro w3 B3 s3 g3; have HB3 := hid B3; have HG3 := hid g3; have HS3 := hid s3; clear B3 g3 s3; have y0 := ((HB1.out.keep HG2.out).keep HG3.out).cell 0; have y1 := ((HB1.out.keep HG2.out).keep HG3.out).cell 1)
      | (go_at_call 31; with_reducible refine (HCk.out _ (gtrans HG1.out (gtrans HG2.out HG3.out))).mono ?_; rintro e w4 ⟨rfl, hg4⟩; have HG4 := hid hg4; clear hg4; have HB4 := hid (HB3.out.keep HG4.out); have HGx := hid (gtrans (gtrans HG1.out (gtrans HG2.out HG3.out)) HG4.out); have y0 := (((HB1.out.keep HG2.out).keep HG3.out).keep HG4.out).cell 0; have HY := hid ((((HB2.out.keep HG3.out).keep HG4.out).cell 0)))
      | (go_at_call 48; with_reducible refine (HLk.out _ _ HY.out HGx.out).mono ?_; rintro e w5 ⟨rfl, hg5⟩; have HG5 := hid hg5; clear hg5; have HB5 := hid (HB4.out.keep HG5.out))
      | (with_reducible refine wpList_store_all (by with_unfolding_all rfl) 107 _ _ (by with_unfolding_all rfl) _ zky.cells K 107 (by with_unfolding_all rfl) (by with_unfolding_all rfl) HB5.out (by rw [HKL.out]; with_unfolding_all rfl) (by rw [HKL.out]; exact Try.size107) HK1.out ?_; intro w6 B6 g6 s6; have HB6 := hid B6; have HG6 := hid g6; have HS6 := hid s6; clear B6 g6 s6))
    refine bodyPost_ret (v := .tuple #[.agg K.toArray, .bool B]) (results_blk_tmp rfl _ W2.heap.size 107 K _ (.bool B) rfl rfl HB6.out Try.underlying107 rfl (by rw [HKL.out]; exact Try.size107)) rfl ?_
    exact ⟨rfl, (gtrans HGx.out HG5.out).andThen HG6.out (fun j hj => .inl (by injection hj with hj; have := HG1.out.size; have := HG2.out.size; omega))⟩
end Go.Proofs.Ytmpcpakdocaieaa
