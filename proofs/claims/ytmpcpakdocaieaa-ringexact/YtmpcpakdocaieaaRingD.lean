/- withCurrent, First. -/
import Derived.Test.YtmpcpakdocaieaaKeyB
namespace Go.Proofs.Ytmpcpakdocaieaa
open Go Go.RowKit
open Go.RowKit (wrap32 wrap64)

theorem OutK.slice {B : Nat} {w : World} {v : Value} {l : List Ky} (h : OutK B w v l) : ∃ a c, v = .slice a l.length c := by
  rcases h.2.2 with ⟨rfl, h0⟩ | ⟨g, cap, cur, e, _⟩
  · exact ⟨none, 0, by rw [h0]⟩
  · exact ⟨_, _, e⟩
theorem len_snoc {α : Type} (l : List α) (x : α) : (l ++ [x]).length = l.length + 1 := by simp
set_option maxRecDepth 100000 in
set_option maxHeartbeats 800000 in
theorem withCurrent_any (w : World) (B : Nat) (v : Value) (acc : List Ky) (kid : Nat) (sec : List UInt8) (hO : OutK B w v acc) (hB : B ≤ w.heap.size) (hn : acc.length ≤ 1000000) (hkid : kid < 18446744073709551615) (hs : sec.length = 32) :
    Calls Try.prog 33 #[v, .int .u64 kid, .agg (Lib.byteCells sec).toArray] w fun e w' => ∃ a c, e = .returned (.agg #[.slice a (acc.length + 1) c, .int .u64 (kid + 1 : Nat)]) ∧ OutK B w' (.slice a (acc.length + 1) c) (acc ++ [⟨kid, sec, 0⟩]) ∧ w.grownBy w' v.ownBlock := by
  have HO := hid hO
  have HKo : Hid ((Ky.mk kid sec 0).ok) := hid ⟨by show kid < _; omega, hs, by show (-9223372036854775808 : Int) ≤ 0; decide, by show (0 : Int) ≤ 9223372036854775807; decide⟩
  have HVl : Hid (∀ j, v.ownBlock = some j → j < w.heap.size) := hid (fun j hj => (hO.2.lt j hj).2)
  obtain ⟨cs, HCS⟩ : ∃ cs, Hid (Lib.byteCells sec = cs) := ⟨_, hid rfl⟩
  have HCL : Hid (cs.length = 32) := hid (by rw [← HCS.out, byteCells_length, hs])
  have HBu : Hid (Try.prog.built 107 [(0, .int .u64 (kid : Int)), (1, .agg cs.toArray)] = some (Ky.mk kid sec 0).cells.toArray) := hid (by rw [← HCS.out]; exact built_kid kid sec hs)
  have HSl := hid hs
  obtain ⟨k', hk'⟩ : ∃ x : Int, (kid : Int) = x := ⟨_, rfl⟩
  have hk1 : k' < 18446744073709551615 := by omega
  have hk0 : 0 ≤ k' := by omega
  rw [HCS.out]
  rw [hk'] at HBu
  clear hO hs
  go_enter Try.func33, Try.ntmps33
  go_wp2_with (first
    | (with_reducible refine wpList_box_row (by with_unfolding_all rfl) 70 _ (by with_unfolding_all rfl) cs (by with_unfolding_all rfl) ?_; intro w1 B1 s1 g1; have HB1 := hid B1; have HG1 := hid g1; have HS1 := hid s1; clear B1 g1 s1)
    | (with_reducible refine wpList_alloc_row (by with_unfolding_all rfl) 69 (by with_unfolding_all rfl) [.slice none 0 0, .int .u64 0] Try.zero69 ?_; intro w2 B2 s2 g2; have HB2 := hid B2; have HG2 := hid g2; have HS2 := hid s2; clear B2 g2 s2)
    | (with_reducible refine wpList_load_part (by with_unfolding_all rfl) 70 _ (by with_unfolding_all rfl) w.heap.size 0 cs _ (by with_unfolding_all rfl) ((HB1.out.keep HG2.out).whole) Try.underlying70 (by with_unfolding_all rfl) (by rw [HCL.out]; exact Try.size70) ?_)
    | (with_reducible refine wpList_build_of (by with_unfolding_all rfl) 107 _ (by with_unfolding_all rfl) [(0, .int .u64 k'), (1, .agg cs.toArray)] (by with_unfolding_all rfl) (Ky.mk kid sec 0).cells HBu.out ?_)
    | (with_reducible refine wpList_slice1 (by with_unfolding_all rfl) _ (by with_unfolding_all rfl) (Ky.mk kid sec 0) HSl.out (by with_unfolding_all rfl) ?_; intro w3 B3 s3 g3; have HB3 := hid B3; have HG3 := hid g3; have HS3 := hid s3; clear B3 s3 g3)
    | (at_builtin; refine wpList_append_keys rfl _ _ rfl B (fun _ => True) acc [Ky.mk kid sec 0] (((HO.out.keep HG1.out).keep HG2.out).keep HG3.out) (one_rd HKo.out HB3.out _ trivial) (by show acc.length + 1 ≤ _; omega) (by have := HS1.out; have := HS2.out; have := HS3.out; omega) ?_; intro v4 w4 hO4 hg4; obtain ⟨a4, c4, hv4⟩ := hO4.slice; rw [len_snoc] at hv4; subst hv4; have HO4 := hid hO4; have HG4 : Hid (w3.grownBy w4 v.ownBlock) := hid hg4; clear hO4 hg4)
    | (with_reducible refine wpList_build_of (by with_unfolding_all rfl) 69 _ (by with_unfolding_all rfl) [(0, .slice a4 (acc.length + 1) c4), (1, .int .u64 (k' + 1))] (by with_unfolding_all rfl) [.slice a4 (acc.length + 1) c4, .int .u64 (k' + 1)] (built_ring _ _ _ _) ?_)
    | (with_reducible refine wpList_store_all (by with_unfolding_all rfl) 69 _ _ (by with_unfolding_all rfl) _ [.slice none 0 0, .int .u64 0] [.slice a4 (acc.length + 1) c4, .int .u64 (k' + 1)] 69 (by with_unfolding_all rfl) (by with_unfolding_all rfl) ((HB2.out.keep HG3.out).on HG4.out (fun e => by have := HVl.out _ e; have := HS1.out; omega)) (by with_unfolding_all rfl) (by with_unfolding_all exact Try.size69) (ring_one _ _ _ _) ?_; have HB24 := hid ((HB2.out.keep HG3.out).on HG4.out (fun e => by have := HVl.out _ e; have := HS1.out; omega)); intro w5 B5 g5 s5; have HB5 := hid B5; have HG5 := hid g5; clear B5 g5 s5))
  have e2 : k' + 1 = ((kid + 1 : Nat) : Int) := by omega
  rw [e2] at HB5
  refine bodyPost_ret (results_blk rfl _ w1.heap.size 69 [.slice a4 (acc.length + 1) c4, .int .u64 (kid + 1 : Nat)] _ rfl HB5.out Try.underlying69 rfl Try.size69) rfl ?_
  refine ⟨a4, c4, rfl, HO4.out.on HG5.out (fun j hj e => ?_), ?_⟩
  · injection hj with hj
    exact HO4.out.ne_blk HB24.out (by decide) _ e hj.symm
  · exact (((gsome (gtrans HG1.out (gtrans HG2.out HG3.out)) _).andThen HG4.out (fun j hj => .inr hj)).andThen HG5.out (fun j hj => .inl (by injection hj with hj; have := HS1.out; omega)))
set_option maxRecDepth 100000 in
set_option maxHeartbeats 800000 in
theorem first_any (w : World) (sec : List UInt8) (hs : sec.length = 32) :
    Calls Try.prog 10 #[.agg (Lib.byteCells sec).toArray] w fun e w' => ∃ a c, e = .returned (.agg #[.slice a 1 c, .int .u64 2]) ∧ OutK w.heap.size w' (.slice a 1 c) [⟨1, sec, 0⟩] ∧ w.grownBy w' none := by
  have HWC : Hid (∀ u, w.heap.size ≤ u.heap.size → Calls Try.prog 33 #[.slice none 0 0, .int .u64 1, .agg (Lib.byteCells sec).toArray] u fun e w' => ∃ a c, e = .returned (.agg #[.slice a 1 c, .int .u64 2]) ∧ OutK w.heap.size w' (.slice a 1 c) [⟨1, sec, 0⟩] ∧ u.grownBy w' none) := fun u hu => withCurrent_any u w.heap.size (.slice none 0 0) [] 1 sec (OutK.nil _ _) hu (by decide) (by decide) hs
  obtain ⟨cs, HCS⟩ : ∃ cs, Hid (Lib.byteCells sec = cs) := ⟨_, hid rfl⟩
  have HCL : Hid (cs.length = 32) := hid (by rw [← HCS.out, byteCells_length, hs])
  rw [HCS.out] at HWC ⊢
  clear hs
  go_enter Try.func10, Try.ntmps10
  go_wp2_with (first
    | (with_reducible refine wpList_box_row (by with_unfolding_all rfl) 70 _ (by with_unfolding_all rfl) cs (by with_unfolding_all rfl) ?_; intro w1 B1 s1 g1; have HB1 := hid B1; have HG1 := hid g1; have HS1 := hid s1; clear B1 g1 s1)
    | (with_reducible refine wpList_alloc_row (by with_unfolding_all rfl) 69 (by with_unfolding_all rfl) [.slice none 0 0, .int .u64 0] Try.zero69 ?_; intro w2 B2 s2 g2; have HB2 := hid B2; have HG2 := hid g2; have HS2 := hid s2; clear B2 g2 s2)
    | (with_reducible refine wpList_load_part (by with_unfolding_all rfl) 70 _ (by with_unfolding_all rfl) w.heap.size 0 cs _ (by with_unfolding_all rfl) ((HB1.out.keep HG2.out).whole) Try.underlying70 (by with_unfolding_all rfl) (by rw [HCL.out]; exact Try.size70) ?_)
    | (go_at_call 33; with_reducible refine (HWC.out _ (by have := HS1.out; have := HS2.out; omega)).mono ?_; rintro e w3 ⟨a4, c4, rfl, hO4, hg3⟩; have HO4 := hid hO4; have HG3 := hid hg3; have HB3 := hid (HB2.out.keep hg3); clear hO4 hg3)
    | (with_reducible refine wpList_store_all (by with_unfolding_all rfl) 69 _ _ (by with_unfolding_all rfl) _ [.slice none 0 0, .int .u64 0] [.slice a4 1 c4, .int .u64 2] 69 (by with_unfolding_all rfl) (by with_unfolding_all rfl) HB3.out (by with_unfolding_all rfl) (by with_unfolding_all exact Try.size69) (ring_one _ _ _ _) ?_; intro w5 B5 g5 s5; have HB5 := hid B5; have HG5 := hid g5; clear B5 g5 s5))
  refine bodyPost_ret (results_blk rfl _ w1.heap.size 69 [.slice a4 1 c4, .int .u64 2] _ rfl HB5.out Try.underlying69 rfl Try.size69) rfl ?_
  refine ⟨a4, c4, rfl, HO4.out.on HG5.out (fun j hj e => ?_), ?_⟩
  · injection hj with hj
    exact HO4.out.ne_blk HB3.out (by decide) _ e hj.symm
  · exact (gtrans HG1.out (gtrans HG2.out HG3.out)).andThen HG5.out (fun j hj => .inl (by injection hj with hj; have := HS1.out; omega))
end Go.Proofs.Ytmpcpakdocaieaa
