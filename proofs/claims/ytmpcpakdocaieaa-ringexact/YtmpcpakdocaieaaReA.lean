/- The reference's First; keys that were lent, written over. -/
import Derived.Test.YtmpcpakdocaieaaRfH
namespace Go.Proofs.Ytmpcpakdocaieaa
open Go Go.RowKit
open Go.RowKit (wrap32 wrap64)

theorem OutK.one {B g : Nat} {w : World} {k : Ky} (hk : k.ok) (hb : Blk w g k.cells 107) (hB : B ≤ g) : OutK B w (.slice (some ⟨g, 0, none⟩) 1 1) [k] := by
  have hl : k.cells.length = 34 := Ky.cells_length hk.2.1
  refine ⟨fun q hq => ?_, ?_, .inr ⟨g, 1, k.cells.toArray, rfl, hB, hb, Nat.le_refl _, by unfold maxLen; omega, by simp [hl], ?_⟩⟩
  · simp at hq; subst hq; exact hk
  · simp [kcs, hl]
  · simp [kcs]
    exact List.take_of_length_le (by omega)
set_option maxRecDepth 100000 in
set_option maxHeartbeats 1600000 in
theorem firstR_any (w : World) (sec : List UInt8) (hs : sec.length = 32) :
    Calls Try.prog 9 #[.agg (Lib.byteCells sec).toArray] w fun e w' => ∃ g, e = .returned (.agg #[.slice (some ⟨g, 0, none⟩) 1 1, .int .u64 2]) ∧ OutK w.heap.size w' (.slice (some ⟨g, 0, none⟩) 1 1) [⟨1, sec, 0⟩] ∧ w.grownBy w' none := by
  have HBK : Hid (Try.prog.built 107 [(0, .int .u64 1), (1, .agg (Lib.byteCells sec).toArray)] = some (Ky.mk 1 sec 0).cells.toArray) := hid (built_kid 1 sec hs)
  have HKo : Hid ((Ky.mk 1 sec 0).ok) := hid ⟨by show 1 < 18446744073709551616; omega, hs, by show -9223372036854775808 ≤ (0 : Int) ∧ (0 : Int) ≤ 9223372036854775807; omega⟩
  have HKc : Hid ((Ky.mk 1 sec 0).sec.length = 32) := hid hs
  obtain ⟨cs, HCS⟩ : ∃ cs, Hid (Lib.byteCells sec = cs) := ⟨_, hid rfl⟩
  have HCL : Hid (cs.length = 32) := hid (by rw [← HCS.out, byteCells_length, hs])
  rw [HCS.out] at HBK ⊢
  obtain ⟨K, HK⟩ : ∃ K : Ky, Hid (Ky.mk 1 sec 0 = K) := ⟨_, hid rfl⟩
  rw [HK.out] at HBK HKo HKc ⊢
  clear hs
  go_enter Try.func9, Try.ntmps9
  go_wp2_with (first
    | (with_reducible refine wpList_box_row (by with_unfolding_all rfl) 70 _ (by with_unfolding_all rfl) cs (by with_unfolding_all rfl) ?_; intro w1 B1 s1 g1; have HB1 := hid B1; have HG1 := hid g1; have HS1 := hid s1; clear B1 g1 s1)
    | (with_reducible refine wpList_alloc_row (by with_unfolding_all rfl) 69 (by with_unfolding_all rfl) [.slice none 0 0, .int .u64 0] Try.zero69 ?_; intro w2 B2 s2 g2; have HB2 := hid B2; have HG2 := hid g2; have HS2 := hid s2; clear B2 g2 s2)
    | (with_reducible refine wpList_load_part (by with_unfolding_all rfl) 70 _ (by with_unfolding_all rfl) w.heap.size 0 cs _ (by with_unfolding_all rfl) ((HB1.out.keep HG2.out).whole) Try.underlying70 (by with_unfolding_all rfl) (by rw [HCL.out]; exact Try.size70) ?_)
    | (with_reducible refine wpList_build_of (by with_unfolding_all rfl) 107 _ (by with_unfolding_all rfl) [(0, .int .u64 1), (1, .agg cs.toArray)] (by with_unfolding_all rfl) K.cells HBK.out ?_)
    | (with_reducible refine wpList_slice1 (by with_unfolding_all rfl) _ (by with_unfolding_all rfl) K HKc.out (by with_unfolding_all rfl) ?_; intro w3 B3 s3 g3; have HB3 := hid B3; have HG3 := hid g3; have HS3 := hid s3; have HB2' := hid (HB2.out.keep g3); clear B3 g3 s3)
    | (with_reducible refine wpList_build_of (by with_unfolding_all rfl) 69 _ (by with_unfolding_all rfl) _ (by with_unfolding_all rfl) _ (built_ring _ _ _ _) ?_)
    | (with_reducible refine wpList_store_all (by with_unfolding_all rfl) 69 _ _ (by with_unfolding_all rfl) _ [.slice none 0 0, .int .u64 0] [.slice (some ⟨w2.heap.size, 0, none⟩) 1 1, .int .u64 2] 69 (by with_unfolding_all rfl) (by with_unfolding_all rfl) HB2'.out (by with_unfolding_all rfl) (by with_unfolding_all exact Try.size69) (ring_one _ _ _ _) ?_; intro w5 B5 g5 s5; have HB5 := hid B5; have HG5 := hid g5; clear B5 g5 s5))
  refine bodyPost_ret (results_blk rfl _ w1.heap.size 69 [.slice (some ⟨w2.heap.size, 0, none⟩) 1 1, .int .u64 2] _ rfl HB5.out Try.underlying69 rfl Try.size69) rfl ?_
  have h1 := HS1.out
  have h2 := HS2.out
  refine ⟨w2.heap.size, rfl, (OutK.one HKo.out HB3.out (by omega)).on HG5.out (fun j hj e => ?_), ?_⟩
  · injection hj with hj
    simp [Value.ownBlock] at e
    omega
  · exact (gtrans HG1.out (gtrans HG2.out HG3.out)).andThen HG5.out (fun j hj => .inl (by injection hj with hj; omega))

def ovK : Ky := ⟨778, z32, -778⟩
theorem built_ov : Try.prog.built 107 [(0, .int .u64 778), (2, .int .i64 (-778))] = some ovK.cells.toArray := by kernel_rfl
theorem ovK_len : ovK.cells.length = 34 := by kernel_rfl
theorem ovK_one : ∀ v ∈ ovK.cells, v.oneCell' = true := fun v hv => by
  have h : ovK.cells.all (·.oneCell') = true := by kernel_rfl
  exact List.all_eq_true.1 h v hv
theorem splice_len (cs vs : List Value) (off : Nat) (h : off + vs.length ≤ cs.length) : (splice cs off vs).length = cs.length := by
  unfold splice
  simp
  omega
set_option maxRecDepth 100000 in
set_option maxHeartbeats 1600000 in
theorem overK_any (w : World) (C g c : Nat) (l : List Ky) (hx : LentK C w g c l) (hl : l.length ≤ 1000000) :
    Calls Try.prog 20 #[.slice (some ⟨g, 0, none⟩) l.length c] w fun e w' => e = .returned (.tuple #[]) ∧ w.grownBy w' (some g) := by
  have HB : Hid (∃ cs, Blk w g cs 107 ∧ l.length * 34 ≤ cs.length) := hid (by
    obtain ⟨h1, h2⟩ := hx
    rcases h1.2.2 with ⟨h3, _⟩ | ⟨g', cap, cur, he, hB, hb, hn, hm, hs, ht⟩
    · cases h3
    · simp only [Value.slice.injEq, Option.some.injEq, Addr.mk.injEq] at he
      obtain ⟨⟨rfl, _, _⟩, _, rfl⟩ := he
      refine ⟨cur.toList, by simpa [Blk] using hb, ?_⟩
      have hcl : cur.toList.length = c * 34 := by rw [Array.length_toList, hs]
      omega)
  obtain ⟨n, HN⟩ : ∃ n, Hid (l.length = n) := ⟨_, hid rfl⟩
  rw [HN.out] at HB hl ⊢
  clear hx
  go_enter Try.func20, Try.ntmps20
  go_wp2_with fail
  go_loopw [2] (fun iv wr => ∃ i : Nat, iv = .int .i64 i ∧ i ≤ n ∧ Hid (∃ cs, Blk wr g cs 107 ∧ n * 34 ≤ cs.length) ∧ Hid (w.grownBy wr (some g))) (fun iv _ => n - (intOf iv).toNat)
  case atStart => exact ⟨0, rfl, by omega, HB, hid (grefl _ _)⟩
  case round =>
    clear HB
    obtain ⟨i, rfl, hin, HB, HG⟩ := hrel
    by_cases hlt : i < n
    · have hlt' : (i : Int) < (n : Int) := by omega
      have hix := idx55z g n c i hlt
      obtain ⟨cs, hb, hcs⟩ := HB.out
      have HBc := hid hb
      have HCl := hid hcs
      clear hb hcs HB
      go_wp2_with (first
        | (with_reducible refine wpList_build_of (by with_unfolding_all rfl) 107 _ (by with_unfolding_all rfl) [(0, .int .u64 778), (2, .int .i64 (-778))] (by with_unfolding_all rfl) ovK.cells built_ov ?_)
        | (with_reducible refine wpList_store_part (by with_unfolding_all rfl) 107 _ _ (by with_unfolding_all rfl) g (i * 34) cs ovK.cells 107 (by with_unfolding_all rfl) (by with_unfolding_all rfl) HBc.out (by rw [ovK_len]; have := HCl.out; omega) (by rw [ovK_len]; with_unfolding_all exact Try.size107) ovK_one ?_; intro w5 B5 g5 s5; have HB5 := hid B5; have HG5 := hid g5; clear B5 g5 s5))
      go_roundw
      case rel => exact ⟨i + 1, by go_num, by omega, hid ⟨_, HB5.out, by rw [splice_len _ _ _ (by rw [ovK_len]; have := HCl.out; omega)]; exact HCl.out⟩, hid (gtrans HG.out HG5.out)⟩
      case measure => simp [intOf]; omega
    · have hge : ¬ (i : Int) < (n : Int) := by omega
      go_wp2_with fail
      go_end0
      exact ⟨rfl, HG.out⟩
end Go.Proofs.Ytmpcpakdocaieaa
