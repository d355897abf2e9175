/- The law's book over keys: keysMark. -/
import Derived.Test.YtlgjmhemgfjgnaaGreatKbD
namespace Go.Proofs.YtlgjmhemgfjgnaaGreat.Bk
open Go Go.RowKit
open Go.RowKit (wrap32 wrap64)

theorem zero107 : (Tryz.prog.info? 85).map (fun i => i.zero) = some (some (.agg zky.cells.toArray)) := by kernel_rfl
theorem cells_oneM (n : Nat) (s : List UInt8) (t : Int) : ∀ v ∈ (Ky.mk false n s t).cells, v.oneCell' = true := fun v hv => Ky.one _ v hv
set_option maxRecDepth 100000 in
set_option maxHeartbeats 1600000 in
theorem kmark_any (w : World) (m : Nat) (hm : m ≤ 1099511627776) :
    Calls Tryz.prog 27 #[.int .i64 m] w fun e w' => e = .returned (.agg (kyM m).cells.toArray) ∧ w.grownBy w' none := by
  have e1 : IntKind.u64.wrap (m : Int) = (m : Int) := by rw [IntKind.wrap_u64]; omega
  obtain ⟨K, HK⟩ : ∃ K : Nat, Hid (m * 1048576 = K) := ⟨_, hid rfl⟩
  have HB := hid (built_km K)
  have HKy : Hid (Ky.mk false K z16 (-7) = kyM m) := hid (by rw [← HK.out]; rfl)
  have HC1 := hid (cells_oneM K z16 (-7))
  have HL : Hid ((Ky.mk false K z16 (-7)).cells.length = 19) := hid (Ky.cells_length rfl)
  rw [← HKy.out]
  obtain ⟨cs, HCs⟩ : ∃ cs, Hid ((Ky.mk false K z16 (-7)).cells = cs) := ⟨_, hid rfl⟩
  rw [HCs.out] at HB HC1 HL ⊢
  have e2 : IntKind.u64.wrap ((m : Int) * 1048576) = (K : Int) := by rw [IntKind.wrap_u64, ← HK.out]; omega
  go_enter Tryz.func27, Tryz.ntmps27
  go_wp2_with (first
    | (with_reducible refine wpList_alloc_row (by with_unfolding_all rfl) 85 (by with_unfolding_all rfl) zky.cells zero107 ?_; intro w1 B1 s1 g1; have HB1 := hid B1; have HG1 := hid g1; have HS1 := hid s1; clear B1 g1 s1)
    | (with_reducible refine wpList_build_of (by with_unfolding_all rfl) 85 _ (by with_unfolding_all rfl) [(1, .int .u64 K), (3, .int .i64 (-7))] (by with_unfolding_all rfl) cs HB.out ?_)
    | (with_reducible refine wpList_store_all (by with_unfolding_all rfl) 85 _ _ (by with_unfolding_all rfl) _ zky.cells cs 85 (by with_unfolding_all rfl) (by with_unfolding_all rfl) HB1.out (by rw [HL.out]; with_unfolding_all rfl) (by rw [HL.out]; with_unfolding_all exact Tryz.size85) HC1.out ?_; intro w5 B5 g5 s5; have HB5 := hid B5; have HG5 := hid g5; clear B5 g5 s5))
  refine bodyPost_ret (results_blk rfl _ w.heap.size 85 cs _ rfl HB5.out Tryz.underlying85 rfl (by rw [HL.out]; exact Tryz.size85)) rfl ?_
  exact ⟨rfl, HG1.out.andThen HG5.out (fun j hj => .inl (by injection hj with hj; omega))⟩
end Go.Proofs.YtlgjmhemgfjgnaaGreat.Bk
