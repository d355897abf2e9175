/- Prune. -/
import Derived.Test.YtmpcpakdocaieaaRingH
namespace Go.Proofs.Ytmpcpakdocaieaa
open Go Go.RowKit
open Go.RowKit (wrap32 wrap64)

theorem isRing_good {l : List Ky} {nx : Nat} (h : isRing l nx = true) : goodL l = true ∧ (lastK l).kid < nx ∧ nx ≤ 9223372036854775807 := by
  unfold isRing at h
  simp only [Bool.and_eq_true, decide_eq_true_eq] at h
  exact ⟨h.1, h.2.1, h.2.2⟩
/-- What Prune tells. -/
def prn (l : List Ky) (nx : Nat) (now : Int) : List Ky × Nat := if isRing l nx = true then (l.filter (fun k => !goesP now k), nx) else ([], 0)
set_option maxRecDepth 100000 in
set_option maxHeartbeats 800000 in
theorem prune_any (w : World) (v : Value) (F : Nat → Prop) (l : List Ky) (nx : Nat) (now : Int) (hv : RdK w F v l) (hl : l.length ≤ 1099511627776) :
    Calls Try.prog 14 #[.agg #[v, .int .u64 nx], .int .i64 now] w fun e w' => ∃ a c, e = .returned (.agg #[.slice a (prn l nx now).1.length c, .int .u64 (prn l nx now).2]) ∧ OutK w.heap.size w' (.slice a (prn l nx now).1.length c) (prn l nx now).1 ∧ w.grownBy w' none := by
  have HV := hid hv
  obtain ⟨ho, a, b, off, c, rfl, hc, Ha, Hc⟩ := hv.open
  obtain ⟨n, HN⟩ : ∃ n, Hid (l.length = n) := ⟨_, hid rfl⟩
  have HO := hid ho
  obtain ⟨g, HGd⟩ : ∃ g, Hid (isRing l nx = g) := ⟨_, hid rfl⟩
  have HCk : Hid (∀ u, w.grownBy u none → Calls Try.prog 31 #[.agg #[.slice a n c, .int .u64 nx]] u fun e w' => e = .returned (.int .i64 (if g = true then 0 else 50)) ∧ u.grownBy w' none) := fun u hu => by
    have := check_any u _ F l nx (HV.out.keep hu) hl
    unfold chk at this
    rw [HGd.out, HN.out] at this
    exact this
  rw [HN.out] at HV
  have HPr : Hid (prn l nx now = if g = true then (l.filter (fun k => !goesP now k), nx) else ([], 0)) := hid (by unfold prn; rw [HGd.out])
  rw [HN.out, HPr.out]
  clear hv hc ho Ha Hc hl HPr
  obtain ⟨W1, hW1⟩ : ∃ x, w.alloc (.cells #[.slice a n c, .int .u64 nx] 69) = x := ⟨_, rfl⟩
  obtain ⟨b1, hb1⟩ : ∃ x, w.heap.size = x := ⟨_, rfl⟩
  have HB1 : Hid (Blk W1 b1 [.slice a n c, .int .u64 nx] 69) := hid (by rw [← hW1, ← hb1]; exact Blk.new w [.slice a n c, .int .u64 nx] 69)
  have HG1 : Hid (w.grownBy W1 none) := hid (by rw [← hW1]; exact galloc _ _ _)
  have HSz : Hid (W1.heap.size = b1 + 1) := hid (by rw [← hW1, ← hb1]; simp)
  obtain ⟨W2, hW2⟩ : ∃ x, W1.alloc (.cells #[.int .i64 now] 2) = x := ⟨_, rfl⟩
  have HB2 : Hid (Blk W2 (b1 + 1) [.int .i64 now] 2) := hid (by rw [← hW2, ← HSz.out]; exact Blk.new W1 [.int .i64 now] 2)
  have HG2 : Hid (W1.grownBy W2 none) := hid (by rw [← hW2]; exact galloc _ _ _)
  have HS2x : Hid (W2.heap.size = b1 + 2) := hid (by rw [← hW2]; simp [HSz.out])
  have hs2 := HSz.out
  cases g with
  | false =>
    rw [if_neg (by decide)] at HCk ⊢
    rw [hb1]
    show Calls _ _ _ _ (fun e w' => ∃ a c, e = .returned (.agg #[.slice a 0 c, .int .u64 (0 : Nat)]) ∧ OutK b1 w' (.slice a 0 c) [] ∧ w.grownBy w' none)
    go_enter Try.func14, Try.ntmps14
    go_wp2_with (first
      | (with_reducible refine wpList_alloc_row (by with_unfolding_all rfl) 69 (by with_unfolding_all rfl) [.slice none 0 0, .int .u64 0] Try.zero69 ?_; intro w3 B3 s3 g3; have HB3 := hid B3; have HG3 := hid g3; have HS3 := hid s3; clear B3 g3 s3; have y0 := ((HB1.out.keep HG2.out).keep HG3.out).cell 0; have y1 := ((HB1.out.keep HG2.out).keep HG3.out).cell 1)
      | (go_at_call 31; with_reducible refine (HCk.out _ (gtrans HG1.out (gtrans HG2.out HG3.out))).mono ?_; rintro e w4 ⟨rfl, hg4⟩; have HG4 := hid hg4; clear hg4; have HB4 := hid (HB3.out.keep HG4.out))
      | (with_reducible refine wpList_build_row (by with_unfolding_all rfl) 69 (by with_unfolding_all rfl) [.slice none 0 0, .int .u64 0] Try.built69 ?_)
      | (with_reducible refine wpList_store_all (by with_unfolding_all rfl) 69 _ _ (by with_unfolding_all rfl) _ [.slice none 0 0, .int .u64 0] [.slice none 0 0, .int .u64 0] 69 (by with_unfolding_all rfl) (by with_unfolding_all rfl) HB4.out (by with_unfolding_all rfl) (by with_unfolding_all exact Try.size69) (ring_one _ _ _ _) ?_; intro w5 B5 g5 s5; have HB5 := hid B5; have HG5 := hid g5; have HS5 := hid s5; clear B5 g5 s5))
    refine bodyPost_ret (results_blk rfl _ W2.heap.size 69 [.slice none 0 0, .int .u64 0] _ rfl HB5.out Try.underlying69 rfl Try.size69) rfl ?_
    exact ⟨none, 0, rfl, OutK.nil _ _, (gtrans (gtrans HG1.out (gtrans HG2.out HG3.out)) HG4.out).andThen HG5.out (fun j hj => .inl (by injection hj with hj; have := HS2x.out; omega))⟩
  | true =>
    rw [if_pos rfl] at HCk ⊢
    obtain ⟨h0, h8⟩ := goodL_pos (isRing_good HGd.out).1
    have HWo : Hid (∀ u, u.cell? ⟨b1 + 1, 0, none⟩ = some (.int .i64 now) → w.grownBy u none → Calls Try.prog 36 #[.slice a n c, .func (.func 37) #[] #[.pointer (some ⟨b1 + 1, 0, none⟩)]] u fun e w' => ∃ v', e = .returned v' ∧ OutK u.heap.size w' v' (l.filter fun k => !goesP now k) ∧ u.grownBy w' none) := fun u hc hu => without_prune u _ F l (b1 + 1) now hc (HV.out.keep hu) (by omega)
    obtain ⟨L, HL⟩ : ∃ L, Hid (l.filter (fun k => !goesP now k) = L) := ⟨_, hid rfl⟩
    rw [HL.out] at HWo ⊢
    rw [hb1]
    show Calls _ _ _ _ (fun e w' => ∃ a c, e = .returned (.agg #[.slice a L.length c, .int .u64 nx]) ∧ OutK b1 w' (.slice a L.length c) L ∧ w.grownBy w' none)
    clear h0 h8
    go_enter Try.func14, Try.ntmps14
    go_wp2_with (first
      | (with_reducible refine wpList_alloc_row (by with_unfolding_all rfl) 69 (by with_unfolding_all rfl) [.slice none 0 0, .int .u64 0] Try.zero69 ?_; intro w3 B3 s3 g3; have HB3 := hid B3; have HG3 := hid g3; have HS3 := hid s3; clear B3 g3 s3; have y0 := ((HB1.out.keep HG2.out).keep HG3.out).cell 0; have y1 := ((HB1.out.keep HG2.out).keep HG3.out).cell 1)
      | (go_at_call 31; with_reducible refine (HCk.out _ (gtrans HG1.out (gtrans HG2.out HG3.out))).mono ?_; rintro e w4 ⟨rfl, hg4⟩; have HG4 := hid hg4; clear hg4; have HB4 := hid (HB3.out.keep HG4.out); have HGx := hid (gtrans (gtrans HG1.out (gtrans HG2.out HG3.out)) HG4.out); have HR4 := hid (((HB1.out.keep HG2.out).keep HG3.out).keep HG4.out); have y0 := HR4.out.cell 0; have HY := hid ((((HB2.out.keep HG3.out).keep HG4.out).cell 0)))
      | (go_at_call 36; with_reducible refine (HWo.out _ HY.out HGx.out).mono ?_; rintro e w5 ⟨v5, rfl, hO5, hg5⟩; obtain ⟨a5, c5, hv5⟩ := hO5.slice; subst hv5; have HG5 := hid hg5; have HO5 := hid (hO5.below (show b1 ≤ w4.heap.size by have := HGx.out.size; omega)); clear hO5 hg5; have HB5 := hid (HB4.out.keep HG5.out); have y1 := (HR4.out.keep HG5.out).cell 1)
      | (with_reducible refine wpList_build_of (by with_unfolding_all rfl) 69 _ (by with_unfolding_all rfl) [(0, .slice a5 L.length c5), (1, .int .u64 nx)] (by with_unfolding_all rfl) [.slice a5 L.length c5, .int .u64 nx] (built_ring _ _ _ _) ?_)
      | (with_reducible refine wpList_store_all (by with_unfolding_all rfl) 69 _ _ (by with_unfolding_all rfl) _ [.slice none 0 0, .int .u64 0] [.slice a5 L.length c5, .int .u64 nx] 69 (by with_unfolding_all rfl) (by with_unfolding_all rfl) HB5.out (by with_unfolding_all rfl) (by with_unfolding_all exact Try.size69) (ring_one _ _ _ _) ?_; intro w6 B6 g6 s6; have HB6 := hid B6; have HG6 := hid g6; have HS6 := hid s6; clear B6 g6 s6))
    refine bodyPost_ret (results_blk rfl _ W2.heap.size 69 [.slice a5 L.length c5, .int .u64 nx] _ rfl HB6.out Try.underlying69 rfl Try.size69) rfl ?_
    refine ⟨a5, c5, rfl, HO5.out.on HG6.out (fun j hj e => ?_), (gtrans HGx.out HG5.out).andThen HG6.out (fun j hj => .inl (by injection hj with hj; have := HS2x.out; omega))⟩
    injection hj with hj
    exact HO5.out.ne_blk HB5.out (by decide) _ e hj.symm
end Go.Proofs.Ytmpcpakdocaieaa
