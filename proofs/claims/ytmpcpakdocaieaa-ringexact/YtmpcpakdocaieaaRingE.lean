/- Clone, Current. -/
import Derived.Test.YtmpcpakdocaieaaRingC
import Derived.Test.YtmpcpakdocaieaaRingD
import Derived.Laws.OwnMore
namespace Go.Proofs.Ytmpcpakdocaieaa
open Go Go.RowKit
open Go.RowKit (wrap32 wrap64)

set_option maxRecDepth 100000 in
set_option maxHeartbeats 800000 in
theorem clone_any (w : World) (v : Value) (F : Nat → Prop) (l : List Ky) (hv : RdK w F v l) (h0 : 0 < l.length) (hl : l.length ≤ 1000000) :
    Calls Try.prog 35 #[v] w fun e w' => ∃ v', e = .returned v' ∧ OutK w.heap.size w' v' l ∧ w.grownBy w' none := by
  have HV := hid hv
  obtain ⟨ho, a, b, off, c, rfl, hc, Ha, Hc⟩ := hv.open
  obtain ⟨rfl, hb⟩ := Ha.out h0
  obtain ⟨n, HN⟩ : ∃ n, Hid (l.length = n) := ⟨_, hid rfl⟩
  rw [HN.out] at HV hl ⊢
  obtain ⟨W1, hW1⟩ : ∃ x, w.alloc (.cells #[] 107) = x := ⟨_, rfl⟩
  have HG1 : Hid (w.grownBy W1 none) := hid (by rw [← hW1]; exact galloc _ _ _)
  have HO1 : Hid (OutK w.heap.size W1 (.slice (some ⟨w.heap.size, 0, none⟩) 0 0) []) := hid ⟨(fun k hk => by simp at hk), by rw [← hW1]; exact World.ownsRow_lit w #[] 0 (Nat.le_refl _) (by decide) rfl⟩
  have kn : ∀ u, (binOp .eql 55 (.slice (some ⟨b, off, none⟩) n c) (.slice none 0 0)).run Try.prog u = .ok (.bool false) u := fun u => by kernel_rfl
  clear hv ho hc Ha Hc h0
  go_enter Try.func35, Try.ntmps35
  go_wp2_with (at_builtin; refine wpList_append_keys rfl _ _ rfl w.heap.size F [] l HO1.out (HV.out.keep HG1.out) (by show 0 + l.length ≤ _; rw [HN.out]; omega) HG1.out.size ?_; intro v4 w4 hO4 hg4; have HO4 := hid hO4; have HG4 : Hid (W1.grownBy w4 (some w.heap.size)) := hid hg4; clear hO4 hg4)
  go_ret
  exact ⟨_, rfl, HO4.out, HG1.out.andThen HG4.out (fun j hj => .inl (by injection hj with hj; omega))⟩

set_option maxRecDepth 100000 in
set_option maxHeartbeats 800000 in
theorem current_any (w : World) (v : Value) (F : Nat → Prop) (l : List Ky) (nx : Nat) (hv : RdK w F v l) (hl : l.length ≤ 1099511627776) :
    Calls Try.prog 29 #[.agg #[v, .int .u64 nx]] w fun e w' => e = .returned (.tuple #[.agg (if isRing l nx = true then lastK l else zky).cells.toArray, .bool (isRing l nx)]) ∧ w.grownBy w' none := by
  have HV := hid hv
  obtain ⟨ho, a, b, off, c, rfl, hc, Ha, Hc⟩ := hv.open
  obtain ⟨n, HN⟩ : ∃ n, Hid (l.length = n) := ⟨_, hid rfl⟩
  obtain ⟨g, HGd⟩ : ∃ g, Hid (isRing l nx = g) := ⟨_, hid rfl⟩
  have HO := hid ho
  have HCk : Hid (∀ u, w.grownBy u none → Calls Try.prog 31 #[.agg #[.slice a n c, .int .u64 nx]] u fun e w' => e = .returned (.int .i64 (if g = true then 0 else 50)) ∧ u.grownBy w' none) := fun u hu => by
    have := check_any u _ F l nx (HV.out.keep hu) hl
    unfold chk at this
    rw [HGd.out, HN.out] at this
    exact this
  rw [HGd.out, HN.out]
  rw [HN.out] at HV
  clear hv hc ho Ha Hc
  cases g with
  | false =>
    rw [if_neg (by decide)] at HCk ⊢
    obtain ⟨W1, hW1⟩ : ∃ x, w.alloc (.cells #[.slice a n c, .int .u64 nx] 69) = x := ⟨_, rfl⟩
    obtain ⟨b1, hb1⟩ : ∃ x, w.heap.size = x := ⟨_, rfl⟩
    have HB1 : Hid (Blk W1 b1 [.slice a n c, .int .u64 nx] 69) := hid (by rw [← hW1, ← hb1]; exact Blk.new w [.slice a n c, .int .u64 nx] 69)
    have HG1 : Hid (w.grownBy W1 none) := hid (by rw [← hW1]; exact galloc _ _ _)
    have y0 : W1.cell? ⟨b1, 0, none⟩ = some (.slice a n c) := HB1.out.cell 0
    have y1 : W1.cell? ⟨b1, 1, none⟩ = some (.int .u64 nx) := HB1.out.cell 1
    go_enter Try.func29, Try.ntmps29
    go_wp2_with (first
      | (with_reducible refine wpList_alloc_row (by with_unfolding_all rfl) 107 (by with_unfolding_all rfl) zky.cells Try.zero107 ?_; intro w2 B2 s2 g2; have HB2 := hid B2; have HG2 := hid g2; have HS2 := hid s2; clear B2 g2 s2; have y0 := (HB1.out.keep HG2.out).cell 0; have y1 := (HB1.out.keep HG2.out).cell 1)
      | (go_at_call 31; with_reducible refine (HCk.out _ (gtrans HG1.out HG2.out)).mono ?_; rintro e w3 ⟨rfl, hg3⟩; have HG3 := hid hg3; clear hg3; have HB3 := hid (HB2.out.keep HG3.out))
      | (with_reducible refine wpList_build_row (by with_unfolding_all rfl) 107 (by with_unfolding_all rfl) zky.cells Try.built107 ?_)
      | (with_reducible refine wpList_store_all (by with_unfolding_all rfl) 107 _ _ (by with_unfolding_all rfl) _ zky.cells zky.cells 107 (by with_unfolding_all rfl) (by with_unfolding_all rfl) HB3.out (by with_unfolding_all rfl) (by with_unfolding_all exact Try.size107) (Ky.one _) ?_; intro w4 B4 g4 s4; have HB4 := hid B4; have HG4 := hid g4; have HS4 := hid s4; clear B4 g4 s4))
    refine bodyPost_ret (v := .tuple #[.agg zky.cells.toArray, .bool false]) (results_blk_tmp rfl _ W1.heap.size 107 zky.cells _ (.bool false) rfl rfl HB4.out Try.underlying107 rfl Try.size107) rfl ?_
    exact ⟨rfl, (gtrans HG1.out (gtrans HG2.out HG3.out)).andThen HG4.out (fun j hj => .inl (by injection hj with hj; have := HG1.out.size; omega))⟩
  | true =>
    rw [if_pos rfl] at HCk ⊢
    have hgl : goodL l = true := by have h := HGd.out; unfold isRing at h; simp only [Bool.and_eq_true] at h; exact h.1
    obtain ⟨h0, h8⟩ := goodL_pos hgl
    obtain ⟨K, HK⟩ : ∃ K, Hid ((lastK l).cells = K) := ⟨_, hid rfl⟩
    have hlm : lastK l ∈ l := by
      unfold lastK
      rw [List.getLast?_eq_getElem?, List.getElem?_eq_getElem (by omega)]
      exact List.getElem_mem _
    have HKL : Hid (K.length = 34) := hid (by rw [← HK.out]; exact Ky.cells_length (HO.out.len _ hlm))
    have HK1 : Hid (∀ v ∈ K, v.oneCell' = true) := hid (by rw [← HK.out]; exact Ky.one _)
    have HLa : Hid (∀ u, w.grownBy u none → Calls Try.prog 39 #[.slice a n c] u fun e w' => e = .returned (.agg K.toArray) ∧ u.grownBy w' none) := fun u hu => by
      rw [← HK.out]
      exact last_any u _ F l (HV.out.keep hu) h0 hl
    rw [HK.out]
    clear h0 h8 hlm hgl HK hl
    obtain ⟨W1, hW1⟩ : ∃ x, w.alloc (.cells #[.slice a n c, .int .u64 nx] 69) = x := ⟨_, rfl⟩
    obtain ⟨b1, hb1⟩ : ∃ x, w.heap.size = x := ⟨_, rfl⟩
    have HB1 : Hid (Blk W1 b1 [.slice a n c, .int .u64 nx] 69) := hid (by rw [← hW1, ← hb1]; exact Blk.new w [.slice a n c, .int .u64 nx] 69)
    have HG1 : Hid (w.grownBy W1 none) := hid (by rw [← hW1]; exact galloc _ _ _)
    have y0 : W1.cell? ⟨b1, 0, none⟩ = some (.slice a n c) := HB1.out.cell 0
    have y1 : W1.cell? ⟨b1, 1, none⟩ = some (.int .u64 nx) := HB1.out.cell 1
    go_enter Try.func29, Try.ntmps29
    go_wp2_with (first
      | (with_reducible refine wpList_alloc_row (by with_unfolding_all rfl) 107 (by with_unfolding_all rfl) zky.cells Try.zero107 ?_; intro w2 B2 s2 g2; have HB2 := hid B2; have HG2 := hid g2; have HS2 := hid s2; clear B2 g2 s2; have y0 := (HB1.out.keep HG2.out).cell 0; have y1 := (HB1.out.keep HG2.out).cell 1)
      | (go_at_call 31; with_reducible refine (HCk.out _ (gtrans HG1.out HG2.out)).mono ?_; rintro e w3 ⟨rfl, hg3⟩; have HG3 := hid hg3; clear hg3; have HB3 := hid (HB2.out.keep HG3.out); have HGx := hid (gtrans HG1.out (gtrans HG2.out HG3.out)); have y0 := ((HB1.out.keep HG2.out).keep HG3.out).cell 0; have y1 := ((HB1.out.keep HG2.out).keep HG3.out).cell 1)
      | (go_at_call 39; with_reducible refine (HLa.out _ HGx.out).mono ?_; rintro e w4 ⟨rfl, hg4⟩; have HG4 := hid hg4; clear hg4; have HB4 := hid (HB3.out.keep HG4.out))
      | (with_reducible refine wpList_store_all (by with_unfolding_all rfl) 107 _ _ (by with_unfolding_all rfl) _ zky.cells K 107 (by with_unfolding_all rfl) (by with_unfolding_all rfl) HB4.out (by rw [HKL.out]; with_unfolding_all rfl) (by rw [HKL.out]; exact Try.size107) HK1.out ?_; intro w5 B5 g5 s5; have HB5 := hid B5; have HG5 := hid g5; have HS5 := hid s5; clear B5 g5 s5))
    refine bodyPost_ret (v := .tuple #[.agg K.toArray, .bool true]) (results_blk_tmp rfl _ W1.heap.size 107 K _ (.bool true) rfl rfl HB5.out Try.underlying107 rfl (by rw [HKL.out]; exact Try.size107)) rfl ?_
    exact ⟨rfl, (gtrans HGx.out HG4.out).andThen HG5.out (fun j hj => .inl (by injection hj with hj; have := HG1.out.size; omega))⟩
end Go.Proofs.Ytmpcpakdocaieaa
