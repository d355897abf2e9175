/- The reference's Rotate. -/
import Derived.Test.YtmpcpakdocaieaaRfB
namespace Go.Proofs.Ytmpcpakdocaieaa
open Go Go.RowKit
open Go.RowKit (wrap32 wrap64)

theorem Blk.neT {w : World} {b b' : Nat} {cs cs' : List Value} {t t' : TypeId} (h : Blk w b cs t) (h' : Blk w b' cs' t') (ht : t ≠ t') : b ≠ b' := fun e => by
  subst e
  exact ht (h.agree h').2
theorem OutK.blkB {C g : Nat} {w : World} {v : Value} {l : List Ky} (h : OutK C w v l) (hv : v.ownBlock = some g) : ∃ cs, Blk w g cs 107 ∧ C ≤ g := by
  rcases h.2.2 with ⟨rfl, _⟩ | ⟨g', cap, cur, rfl, hb, hg, _⟩
  · simp [Value.ownBlock] at hv
  · have : g' = g := by simpa [Value.ownBlock] using hv
    subst this
    exact ⟨cur.toList, by unfold Blk; simpa using hg, hb⟩
/-- A change in a block of another type leaves a row of keys. -/
theorem OutK.offB {C g : Nat} {w w' : World} {v : Value} {l : List Ky} {cs : List Value} {t : TypeId} (h : OutK C w v l) (hg : w.grownBy w' (some g)) (hb : Blk w g cs t) (ht : t ≠ 107) : OutK C w' v l :=
  h.on hg (fun k hk e => by obtain ⟨cs', h1, _⟩ := h.blkB e; have hk' : g = k := Option.some.inj hk; subst hk'; exact hb.neT h1 ht rfl)
theorem OutK.cellTil {C g n c : Nat} {w : World} {l : List Ky} (h : OutK C w (.slice (some ⟨g, 0, none⟩) n c) l) {i : Nat} (hi : i < l.length) : w.cell? ⟨g, i * 34 + 33, none⟩ = some (.int .i64 (l[i]).til) ∧ w.frozen? ⟨g, i * 34 + 33, none⟩ = false := by
  obtain ⟨cs, hb, _⟩ := h.blkB (g := g) rfl
  refine ⟨?_, hb.frozen _⟩
  have h1 := h.2.cells (g := g) rfl (i * 34 + 33) (.int .i64 (l[i]).til) (by rw [kcs_get l h.1.len i l[i] (List.getElem?_eq_getElem hi) 33 (by decide)]; exact Ky.c33 (h.1 _ (List.getElem_mem hi)).2.1)
  rw [Addr.add_lit, Nat.zero_add] at h1
  exact h1
theorem rotR_no {l : List Ky} {nx : Nat} {sec : List UInt8} {til : Int} (h : rotE l nx til ≠ 0) : rotR l nx sec til = ([], 0) := by unfold rotR; rw [if_neg h]
theorem rotR_yes {l : List Ky} {nx : Nat} {sec : List UInt8} {til : Int} (h : rotE l nx til = 0) : rotR l nx sec til = (rotL l nx sec til, nx + 1) := by unfold rotR; rw [if_pos h]
set_option maxRecDepth 100000 in
set_option maxHeartbeats 1600000 in
theorem rrot_any (w : World) (v : Value) (F : Nat → Prop) (l : List Ky) (nx : Nat) (sec : List UInt8) (til : Int) (hv : RdK w F v l) (hl : l.length ≤ 1099511627776) (hs : sec.length = 32) (ht : -9223372036854775808 ≤ til ∧ til ≤ 9223372036854775807) :
    Calls Try.prog 11 #[.agg #[v, .int .u64 nx], .agg (Lib.byteCells sec).toArray, .int .i64 til] w fun e w' => ∃ a c, e = .returned (.tuple #[.agg #[.slice a (rotR l nx sec til).1.length c, .int .u64 (rotR l nx sec til).2], .int .i64 (rotE l nx til)]) ∧ OutK w.heap.size w' (.slice a (rotR l nx sec til).1.length c) (rotR l nx sec til).1 ∧ w.grownBy w' none := by
  have HV := hid hv
  obtain ⟨ho, a, b, off, c, rfl, hc, Ha, Hc⟩ := hv.open
  obtain ⟨n, HN⟩ : ∃ n, Hid (l.length = n) := ⟨_, hid rfl⟩
  obtain ⟨g, HGd⟩ : ∃ g, Hid (isRing l nx = g) := ⟨_, hid rfl⟩
  have HO := hid ho
  have HCk : Hid (∀ u, w.grownBy u none → Calls Try.prog 34 #[.agg #[.slice a n c, .int .u64 nx]] u fun e w' => e = .returned (.int .i64 (if g = true then 0 else 50)) ∧ u.grownBy w' none) := fun u hu => by
    have := rchk_any u _ F l nx (HV.out.keep hu) hl
    unfold chk at this
    rw [HGd.out, HN.out] at this
    exact this
  have HCp : Hid (∀ u, w.grownBy u none → Calls Try.prog 18 #[.agg #[.slice a n c, .int .u64 nx]] u fun e w' => ∃ a c, e = .returned (.agg #[.slice a n c, .int .u64 nx]) ∧ OutK u.heap.size w' (.slice a n c) l ∧ u.grownBy w' none) := fun u hu => by
    have := copyRing_any u _ F l nx (HV.out.keep hu) hl
    rw [HN.out] at this
    exact this
  obtain ⟨ts, HTS⟩ : ∃ x, Hid (Lib.byteCells sec = x) := ⟨_, hid rfl⟩
  have HTl : Hid (ts.length = 32) := hid (by rw [← HTS.out, byteCells_length]; exact hs)
  have HSe := hid hs
  rw [HN.out, HTS.out]
  rw [HN.out] at HV hl
  clear hv hc ho hs
  cases g with
  | false =>
    have he : rotE l nx til = 50 := by unfold rotE; rw [HGd.out, if_neg (by decide)]
    rw [rotR_no (by rw [he]; decide), he]
    rw [if_neg (by decide)] at HCk
    show Calls Try.prog 11 _ w fun e w' => ∃ a c, e = .returned (.tuple #[.agg #[.slice a 0 c, .int .u64 0], .int .i64 50]) ∧ OutK w.heap.size w' (.slice a 0 c) [] ∧ w.grownBy w' none
    clear he
    go_enter Try.func11, Try.ntmps11
    go_wp2_with (first
      | ((with_reducible refine wpList_box_row (by with_unfolding_all rfl) 69 _ (by with_unfolding_all rfl) [.slice a n c, .int .u64 nx] (by with_unfolding_all rfl) ?_); intro w1 B1 s1 g1; have HB1 := hid B1; have HG1 := hid g1; clear B1 s1 g1)
      | ((with_reducible refine wpList_box_row (by with_unfolding_all rfl) 70 _ (by with_unfolding_all rfl) ts (by with_unfolding_all rfl) ?_); intro w2 B2 s2 g2; have HS2 := hid B2; have HB2 := hid (HB1.out.keep g2); have HG2 := hid (gtrans HG1.out g2); clear B2 s2 g2)
      | ((with_reducible refine wpList_alloc_row (by with_unfolding_all rfl) 69 (by with_unfolding_all rfl) [.slice none 0 0, .int .u64 0] Try.zero69 ?_); intro w3 B3 s3 g3; have HA3 := hid B3; have HS3 := hid (HS2.out.keep g3); have HB3 := hid (HB2.out.keep g3); have HG3 := hid (gtrans HG2.out g3); clear B3 s3 g3)
      | (with_reducible refine wpList_load_part (by with_unfolding_all rfl) 69 _ (by with_unfolding_all rfl) w.heap.size 0 [.slice a n c, .int .u64 nx] _ (by with_unfolding_all rfl) HB3.out.whole Try.underlying69 (by with_unfolding_all rfl) (by with_unfolding_all exact Try.size69) ?_)
      | (go_at_call 34; (with_reducible refine (HCk.out _ HG3.out).mono ?_); rintro e w4 ⟨rfl, hg4⟩; have HA4 := hid (HA3.out.keep hg4); have HS4 := hid (HS3.out.keep hg4); have HB4 := hid (HB3.out.keep hg4); have HG4 := hid (gtrans HG3.out hg4); have y0 := HB4.out.cell 0; have y1 := HB4.out.cell 1; clear hg4)
      | (with_reducible refine wpList_build_row (by with_unfolding_all rfl) 69 (by with_unfolding_all rfl) [.slice none 0 0, .int .u64 0] Try.built69 ?_)
      | ((with_reducible refine wpList_store_all (by with_unfolding_all rfl) 69 _ _ (by with_unfolding_all rfl) _ [.slice none 0 0, .int .u64 0] [.slice none 0 0, .int .u64 0] 69 (by with_unfolding_all rfl) (by with_unfolding_all rfl) HA4.out (by with_unfolding_all rfl) (by with_unfolding_all exact Try.size69) (ring_one _ _ _ _) ?_); intro w5 B5 g5 s5; have HA5 := hid B5; have HG5 := hid (HG4.out.andThen g5 (fun j hj => .inl (by injection hj with hj; have := HG2.out.size; omega))); clear B5 g5 s5))
    refine bodyPost_ret (v := .tuple #[.agg #[.slice none 0 0, .int .u64 0], .int .i64 50]) (results_blk_tmp rfl _ w2.heap.size 69 [.slice none 0 0, .int .u64 0] _ (.int .i64 50) rfl rfl HA5.out Try.underlying69 rfl (by with_unfolding_all exact Try.size69)) rfl ?_
    exact ⟨none, 0, rfl, OutK.nil _ _, HG5.out⟩
  | true =>
    have hp := goodL_pos (isRing_good HGd.out).1
    have hx3 := (isRing_good HGd.out).2.2
    rw [HN.out] at hp
    rw [if_pos rfl] at HCk
    by_cases ht0 : til ≤ 0
    · have he : rotE l nx til = 52 := by unfold rotE; rw [HGd.out, if_pos rfl, if_pos ht0]
      rw [rotR_no (by rw [he]; decide), he]
      show Calls Try.prog 11 _ w fun e w' => ∃ a c, e = .returned (.tuple #[.agg #[.slice a 0 c, .int .u64 0], .int .i64 52]) ∧ OutK w.heap.size w' (.slice a 0 c) [] ∧ w.grownBy w' none
      clear he
      go_enter Try.func11, Try.ntmps11
      go_wp2_with (first
        | ((with_reducible refine wpList_box_row (by with_unfolding_all rfl) 69 _ (by with_unfolding_all rfl) [.slice a n c, .int .u64 nx] (by with_unfolding_all rfl) ?_); intro w1 B1 s1 g1; have HB1 := hid B1; have HG1 := hid g1; clear B1 s1 g1)
        | ((with_reducible refine wpList_box_row (by with_unfolding_all rfl) 70 _ (by with_unfolding_all rfl) ts (by with_unfolding_all rfl) ?_); intro w2 B2 s2 g2; have HS2 := hid B2; have HB2 := hid (HB1.out.keep g2); have HG2 := hid (gtrans HG1.out g2); clear B2 s2 g2)
        | ((with_reducible refine wpList_alloc_row (by with_unfolding_all rfl) 69 (by with_unfolding_all rfl) [.slice none 0 0, .int .u64 0] Try.zero69 ?_); intro w3 B3 s3 g3; have HA3 := hid B3; have HS3 := hid (HS2.out.keep g3); have HB3 := hid (HB2.out.keep g3); have HG3 := hid (gtrans HG2.out g3); clear B3 s3 g3)
        | (with_reducible refine wpList_load_part (by with_unfolding_all rfl) 69 _ (by with_unfolding_all rfl) w.heap.size 0 [.slice a n c, .int .u64 nx] _ (by with_unfolding_all rfl) HB3.out.whole Try.underlying69 (by with_unfolding_all rfl) (by with_unfolding_all exact Try.size69) ?_)
        | (go_at_call 34; (with_reducible refine (HCk.out _ HG3.out).mono ?_); rintro e w4 ⟨rfl, hg4⟩; have HA4 := hid (HA3.out.keep hg4); have HS4 := hid (HS3.out.keep hg4); have HB4 := hid (HB3.out.keep hg4); have HG4 := hid (gtrans HG3.out hg4); have y0 := HB4.out.cell 0; have y1 := HB4.out.cell 1; clear hg4)
        | (with_reducible refine wpList_build_row (by with_unfolding_all rfl) 69 (by with_unfolding_all rfl) [.slice none 0 0, .int .u64 0] Try.built69 ?_)
        | ((with_reducible refine wpList_store_all (by with_unfolding_all rfl) 69 _ _ (by with_unfolding_all rfl) _ [.slice none 0 0, .int .u64 0] [.slice none 0 0, .int .u64 0] 69 (by with_unfolding_all rfl) (by with_unfolding_all rfl) HA4.out (by with_unfolding_all rfl) (by with_unfolding_all exact Try.size69) (ring_one _ _ _ _) ?_); intro w5 B5 g5 s5; have HA5 := hid B5; have HG5 := hid (HG4.out.andThen g5 (fun j hj => .inl (by injection hj with hj; have := HG2.out.size; omega))); clear B5 g5 s5))
      refine bodyPost_ret (v := .tuple #[.agg #[.slice none 0 0, .int .u64 0], .int .i64 52]) (results_blk_tmp rfl _ w2.heap.size 69 [.slice none 0 0, .int .u64 0] _ (.int .i64 52) rfl rfl HA5.out Try.underlying69 rfl (by with_unfolding_all exact Try.size69)) rfl ?_
      exact ⟨none, 0, rfl, OutK.nil _ _, HG5.out⟩
    · by_cases hfull : n = 8 ∨ nx = 9223372036854775807
      · have he : rotE l nx til = 51 := by unfold rotE; rw [HGd.out, if_pos rfl, if_neg ht0, HN.out, if_pos (by rcases hfull with h | h <;> simp [h])]
        rw [rotR_no (by rw [he]; decide), he]
        show Calls Try.prog 11 _ w fun e w' => ∃ a c, e = .returned (.tuple #[.agg #[.slice a 0 c, .int .u64 0], .int .i64 51]) ∧ OutK w.heap.size w' (.slice a 0 c) [] ∧ w.grownBy w' none
        clear he
        by_cases h8 : n = 8
        · have h8' : (8 : Int) ≤ (n : Int) := by omega
          clear h8 hfull
          go_enter Try.func11, Try.ntmps11
          go_wp2_with (first
            | ((with_reducible refine wpList_box_row (by with_unfolding_all rfl) 69 _ (by with_unfolding_all rfl) [.slice a n c, .int .u64 nx] (by with_unfolding_all rfl) ?_); intro w1 B1 s1 g1; have HB1 := hid B1; have HG1 := hid g1; clear B1 s1 g1)
            | ((with_reducible refine wpList_box_row (by with_unfolding_all rfl) 70 _ (by with_unfolding_all rfl) ts (by with_unfolding_all rfl) ?_); intro w2 B2 s2 g2; have HS2 := hid B2; have HB2 := hid (HB1.out.keep g2); have HG2 := hid (gtrans HG1.out g2); clear B2 s2 g2)
            | ((with_reducible refine wpList_alloc_row (by with_unfolding_all rfl) 69 (by with_unfolding_all rfl) [.slice none 0 0, .int .u64 0] Try.zero69 ?_); intro w3 B3 s3 g3; have HA3 := hid B3; have HS3 := hid (HS2.out.keep g3); have HB3 := hid (HB2.out.keep g3); have HG3 := hid (gtrans HG2.out g3); clear B3 s3 g3)
            | (with_reducible refine wpList_load_part (by with_unfolding_all rfl) 69 _ (by with_unfolding_all rfl) w.heap.size 0 [.slice a n c, .int .u64 nx] _ (by with_unfolding_all rfl) HB3.out.whole Try.underlying69 (by with_unfolding_all rfl) (by with_unfolding_all exact Try.size69) ?_)
            | (go_at_call 34; (with_reducible refine (HCk.out _ HG3.out).mono ?_); rintro e w4 ⟨rfl, hg4⟩; have HA4 := hid (HA3.out.keep hg4); have HS4 := hid (HS3.out.keep hg4); have HB4 := hid (HB3.out.keep hg4); have HG4 := hid (gtrans HG3.out hg4); have y0 := HB4.out.cell 0; have y1 := HB4.out.cell 1; clear hg4)
            | (with_reducible refine wpList_build_row (by with_unfolding_all rfl) 69 (by with_unfolding_all rfl) [.slice none 0 0, .int .u64 0] Try.built69 ?_)
            | ((with_reducible refine wpList_store_all (by with_unfolding_all rfl) 69 _ _ (by with_unfolding_all rfl) _ [.slice none 0 0, .int .u64 0] [.slice none 0 0, .int .u64 0] 69 (by with_unfolding_all rfl) (by with_unfolding_all rfl) HA4.out (by with_unfolding_all rfl) (by with_unfolding_all exact Try.size69) (ring_one _ _ _ _) ?_); intro w5 B5 g5 s5; have HA5 := hid B5; have HG5 := hid (HG4.out.andThen g5 (fun j hj => .inl (by injection hj with hj; have := HG2.out.size; omega))); clear B5 g5 s5))
          refine bodyPost_ret (v := .tuple #[.agg #[.slice none 0 0, .int .u64 0], .int .i64 51]) (results_blk_tmp rfl _ w2.heap.size 69 [.slice none 0 0, .int .u64 0] _ (.int .i64 51) rfl rfl HA5.out Try.underlying69 rfl (by with_unfolding_all exact Try.size69)) rfl ?_
          exact ⟨none, 0, rfl, OutK.nil _ _, HG5.out⟩
        · have h8' : ¬ (8 : Int) ≤ (n : Int) := by omega
          have hx' : (9223372036854775807 : Int) ≤ (nx : Int) := by omega
          clear h8 hfull hx3
          go_enter Try.func11, Try.ntmps11
          go_wp2_with (first
            | ((with_reducible refine wpList_box_row (by with_unfolding_all rfl) 69 _ (by with_unfolding_all rfl) [.slice a n c, .int .u64 nx] (by with_unfolding_all rfl) ?_); intro w1 B1 s1 g1; have HB1 := hid B1; have HG1 := hid g1; clear B1 s1 g1)
            | ((with_reducible refine wpList_box_row (by with_unfolding_all rfl) 70 _ (by with_unfolding_all rfl) ts (by with_unfolding_all rfl) ?_); intro w2 B2 s2 g2; have HS2 := hid B2; have HB2 := hid (HB1.out.keep g2); have HG2 := hid (gtrans HG1.out g2); clear B2 s2 g2)
            | ((with_reducible refine wpList_alloc_row (by with_unfolding_all rfl) 69 (by with_unfolding_all rfl) [.slice none 0 0, .int .u64 0] Try.zero69 ?_); intro w3 B3 s3 g3; have HA3 := hid B3; have HS3 := hid (HS2.out.keep g3); have HB3 := hid (HB2.out.keep g3); have HG3 := hid (gtrans HG2.out g3); clear B3 s3 g3)
            | (with_reducible refine wpList_load_part (by with_unfolding_all rfl) 69 _ (by with_unfolding_all rfl) w.heap.size 0 [.slice a n c, .int .u64 nx] _ (by with_unfolding_all rfl) HB3.out.whole Try.underlying69 (by with_unfolding_all rfl) (by with_unfolding_all exact Try.size69) ?_)
            | (go_at_call 34; (with_reducible refine (HCk.out _ HG3.out).mono ?_); rintro e w4 ⟨rfl, hg4⟩; have HA4 := hid (HA3.out.keep hg4); have HS4 := hid (HS3.out.keep hg4); have HB4 := hid (HB3.out.keep hg4); have HG4 := hid (gtrans HG3.out hg4); have y0 := HB4.out.cell 0; have y1 := HB4.out.cell 1; clear hg4)
            | (with_reducible refine wpList_build_row (by with_unfolding_all rfl) 69 (by with_unfolding_all rfl) [.slice none 0 0, .int .u64 0] Try.built69 ?_)
            | ((with_reducible refine wpList_store_all (by with_unfolding_all rfl) 69 _ _ (by with_unfolding_all rfl) _ [.slice none 0 0, .int .u64 0] [.slice none 0 0, .int .u64 0] 69 (by with_unfolding_all rfl) (by with_unfolding_all rfl) HA4.out (by with_unfolding_all rfl) (by with_unfolding_all exact Try.size69) (ring_one _ _ _ _) ?_); intro w5 B5 g5 s5; have HA5 := hid B5; have HG5 := hid (HG4.out.andThen g5 (fun j hj => .inl (by injection hj with hj; have := HG2.out.size; omega))); clear B5 g5 s5))
          refine bodyPost_ret (v := .tuple #[.agg #[.slice none 0 0, .int .u64 0], .int .i64 51]) (results_blk_tmp rfl _ w2.heap.size 69 [.slice none 0 0, .int .u64 0] _ (.int .i64 51) rfl rfl HA5.out Try.underlying69 rfl (by with_unfolding_all exact Try.size69)) rfl ?_
          exact ⟨none, 0, rfl, OutK.nil _ _, HG5.out⟩
      · have he : rotE l nx til = 0 := by unfold rotE; rw [HGd.out, if_pos rfl, if_neg ht0, HN.out, if_neg (by simp; omega)]
        rw [rotR_yes he, he]
        have h8' : ¬ (8 : Int) ≤ (n : Int) := by omega
        have hx' : ¬ (9223372036854775807 : Int) ≤ (nx : Int) := by omega
        obtain ⟨m, rfl⟩ : ∃ m, n = m + 1 := ⟨n - 1, by omega⟩
        obtain ⟨rfl, -⟩ := Ha.out (by rw [HN.out]; omega)
        obtain ⟨hml, hme⟩ := List.getElem?_eq_some_iff.1 (last_at HN.out)
        obtain ⟨L2, HL2⟩ : ∃ x, Hid (l.set m ⟨l[m].kid, l[m].sec, til⟩ = x) := ⟨_, hid rfl⟩
        have HRL : Hid (rotL l nx sec til = L2 ++ [⟨nx, sec, 0⟩]) := hid (by unfold rotL; rw [HN.out, Nat.add_sub_cancel, ← HL2.out, hme])
        have HML := hid hml
        have HT := hid ht
        obtain ⟨RL, HRLe⟩ : ∃ x, Hid (rotL l nx sec til = x) := ⟨_, hid rfl⟩
        rw [HRLe.out] at HRL ⊢
        have HRn : Hid (RL.length = m + 1 + 1) := hid (by rw [HRL.out, List.length_append, ← HL2.out, List.length_set, HN.out]; rfl)
        rw [HRn.out]
        have hm8 : m ≤ 8 := by omega
        have HBu : Hid (Try.prog.built 107 [(0, .int .u64 (nx : Int)), (1, .agg ts.toArray)] = some (Ky.mk nx sec 0).cells.toArray) := hid (by rw [← HTS.out]; exact built_kid nx sec HSe.out)
        have HKo : Hid ((Ky.mk nx sec 0).ok) := hid ⟨by show nx < _; omega, HSe.out, by show -9223372036854775808 ≤ (0 : Int); omega, by show (0 : Int) ≤ _; omega⟩
        have hwr : IntKind.u64.wrap ((nx : Int) + 1) = (nx : Int) + 1 := by rw [IntKind.wrap_u64]; omega
        clear he hfull Ha Hc hme hp ht hx3
        obtain ⟨X, hX⟩ : ∃ x : Int, (nx : Int) = x := ⟨_, rfl⟩
        show Calls Try.prog 11 _ w fun e w' => ∃ a c, e = .returned (.tuple #[.agg #[.slice a (m + 1 + 1) c, .int .u64 ((nx + 1 : Nat) : Int)], .int .i64 0]) ∧ OutK w.heap.size w' (.slice a (m + 1 + 1) c) RL ∧ w.grownBy w' none
        rw [show ((nx + 1 : Nat) : Int) = (nx : Int) + 1 by omega]
        rw [hX] at HCk HCp HBu hwr hx' ⊢
        clear hX
        go_enter Try.func11, Try.ntmps11
        go_upto_region 8 with (first
          | ((with_reducible refine wpList_box_row (by with_unfolding_all rfl) 69 _ (by with_unfolding_all rfl) [.slice (some ⟨b, off, none⟩) (m + 1) c, .int .u64 X] (by with_unfolding_all rfl) ?_); intro w1 B1 s1 g1; have HB1 := hid B1; have HG1 := hid g1; clear B1 s1 g1)
          | ((with_reducible refine wpList_box_row (by with_unfolding_all rfl) 70 _ (by with_unfolding_all rfl) ts (by with_unfolding_all rfl) ?_); intro w2 B2 s2 g2; have HS2 := hid B2; have HB2 := hid (HB1.out.keep g2); have HG2 := hid (gtrans HG1.out g2); clear B2 s2 g2)
          | ((with_reducible refine wpList_alloc_row (by with_unfolding_all rfl) 69 (by with_unfolding_all rfl) [.slice none 0 0, .int .u64 0] Try.zero69 ?_); intro w3 B3 s3 g3; have HA3 := hid B3; have HS3 := hid (HS2.out.keep g3); have HB3 := hid (HB2.out.keep g3); have HG3 := hid (gtrans HG2.out g3); clear B3 s3 g3)
          | (with_reducible refine wpList_load_part (by with_unfolding_all rfl) 69 _ (by with_unfolding_all rfl) w.heap.size 0 [.slice (some ⟨b, off, none⟩) (m + 1) c, .int .u64 X] _ (by with_unfolding_all rfl) HB4.out.whole Try.underlying69 (by with_unfolding_all rfl) (by with_unfolding_all exact Try.size69) ?_)
          | (with_reducible refine wpList_load_part (by with_unfolding_all rfl) 69 _ (by with_unfolding_all rfl) w.heap.size 0 [.slice (some ⟨b, off, none⟩) (m + 1) c, .int .u64 X] _ (by with_unfolding_all rfl) HB3.out.whole Try.underlying69 (by with_unfolding_all rfl) (by with_unfolding_all exact Try.size69) ?_)
          | (go_at_call 34; (with_reducible refine (HCk.out _ HG3.out).mono ?_); rintro e w4 ⟨rfl, hg4⟩; have HA4 := hid (HA3.out.keep hg4); have HS4 := hid (HS3.out.keep hg4); have HB4 := hid (HB3.out.keep hg4); have HG4 := hid (gtrans HG3.out hg4); have y0 := HB4.out.cell 0; have y1 := HB4.out.cell 1; clear hg4)
          | (go_at_call 18; (with_reducible refine (HCp.out _ HG4.out).mono ?_); rintro e w5 ⟨a5, c5, rfl, hO5, hg5⟩; obtain ⟨g5, k5, e5, hgb, hgl⟩ := hO5.form (by rw [HN.out]; omega); rw [HN.out] at e5; injection e5 with e51 e52 e53; subst e51 e53; have HO5 := hid (hO5.below HG4.out.size); have HA5 := hid (HA4.out.keep hg5); have HS5 := hid (HS4.out.keep hg5); have HB5 := hid (HB4.out.keep hg5); have HG5 := hid (gtrans HG4.out hg5); clear hO5 hg5 hgb hgl e52)
          | (have := HO5; clear this; (with_reducible refine wpList_alloc_row (by with_unfolding_all rfl) 69 (by with_unfolding_all rfl) [.slice none 0 0, .int .u64 0] Try.zero69 ?_); intro w6 B6 s6 g6; have HX6 := hid B6; have HO6 := hid (HO5.out.keep g6); have HA6 := hid (HA5.out.keep g6); have HS6 := hid (HS5.out.keep g6); have HB6 := hid (HB5.out.keep g6); have HG6 := hid (gtrans HG5.out g6); clear B6 s6 g6)
          | (have := HX6; clear this; (with_reducible refine wpList_store_all (by with_unfolding_all rfl) 69 _ _ (by with_unfolding_all rfl) _ [.slice none 0 0, .int .u64 0] [.slice (some ⟨g5, 0, none⟩) (m + 1) c5, .int .u64 X] 69 (by with_unfolding_all rfl) (by with_unfolding_all rfl) HX6.out (by with_unfolding_all rfl) (by with_unfolding_all exact Try.size69) (ring_one _ _ _ _) ?_); intro w7 B7 g7 s7; have HX7 := hid B7; have HO7 := hid (HO6.out.offB g7 HX6.out (by decide)); have HA7 := hid (HA6.out.on g7 (by have := HA5.out.lt; simp; omega)); have HS7 := hid (HS6.out.on g7 (by have := HS5.out.lt; simp; omega)); have HB7 := hid (HB6.out.on g7 (by have := HB5.out.lt; simp; omega)); have HG7 := hid (HG6.out.andThen g7 (fun j hj => .inl (by injection hj with hj; have := HG5.out.size; omega))); clear B7 g7 s7))
        clear y0 y1
        obtain ⟨p3, hp3⟩ : ∃ x, w.heap.size = x := ⟨_, rfl⟩
        obtain ⟨p4, hp4⟩ : ∃ x, w1.heap.size = x := ⟨_, rfl⟩
        obtain ⟨p6, hp6⟩ : ∃ x, w2.heap.size = x := ⟨_, rfl⟩
        obtain ⟨p8, hp8⟩ : ∃ x, w5.heap.size = x := ⟨_, rfl⟩
        rw [hp3] at HB7
        rw [hp4] at HS7
        rw [hp6] at HA7
        rw [hp8] at HX7
        simp only [hp3, hp4, hp6, hp8]
        have HPn : Hid (w.heap.size ≤ p3 ∧ w.heap.size ≤ p4 ∧ w.heap.size ≤ p6 ∧ w.heap.size ≤ p8 ∧ p8 ≠ p3 ∧ p8 ≠ p4 ∧ p8 ≠ p6) := hid (by
          have h1 := HG1.out.size
          have h2 := HG2.out.size
          have h5 := HG5.out.size
          have h3 := HB5.out.lt
          have h4 := HS5.out.lt
          have h6 := HA5.out.lt
          omega)
        clear hp3 hp4 hp6 hp8 HB1 HB2 HB3 HB4 HB5 HB6 HS2 HS3 HS4 HS5 HS6 HA3 HA4 HA5 HA6 HX6 HO5 HO6 HG1 HG2 HG3 HG4 HG5 HG6
        have x0 := HX7.out.cell 0
        have x1 := HX7.out.cell 1
        obtain ⟨y5, z5⟩ := HO7.out.cellTil HML.out
        go_upto_region 9 with fail
        obtain ⟨w8, hw8⟩ : ∃ x, w7.setCell ⟨g5, m * 34 + 33, none⟩ (.int .i64 til) = x := ⟨_, rfl⟩
        rw [hw8]
        obtain ⟨cs5, hk5, hC5⟩ := HO7.out.blkB (g := g5) rfl
        have HG8 : Hid (w7.grownBy w8 (some g5)) := hid (by rw [← hw8]; exact gset _ _ _)
        have HO8 : Hid (OutK w.heap.size w8 (.slice (some ⟨g5, 0, none⟩) (m + 1) c5) L2) := hid (by rw [← hw8, ← HL2.out]; exact HO7.out.setTil HN.out m HML.out til HT.out)
        have HX8 := hid (HX7.out.on HG8.out (fun e => hk5.neT HX7.out (by decide) (Option.some.inj e)))
        have HB8 := hid (HB7.out.on HG8.out (fun e => hk5.neT HB7.out (by decide) (Option.some.inj e)))
        have HS8 := hid (HS7.out.on HG8.out (fun e => hk5.neT HS7.out (by decide) (Option.some.inj e)))
        have HA8 := hid (HA7.out.on HG8.out (fun e => hk5.neT HA7.out (by decide) (Option.some.inj e)))
        have HGw8 := hid (HG7.out.andThen HG8.out (fun j hj => .inl (by injection hj with hj; omega)))
        have HL2n : Hid (L2.length = m + 1) := hid (by rw [← HL2.out, List.length_set]; exact HN.out)
        clear hw8 hk5 hC5 cs5 x0 x1 y5 z5 HX7 HB7 HS7 HA7 HO7 HG7 HG8
        have x0 := HX8.out.cell 0
        have x1 := HB8.out.cell 1
        go_upto_region 10 with (first
          | (with_reducible refine wpList_load_part (by with_unfolding_all rfl) 70 _ (by with_unfolding_all rfl) p4 0 ts _ (by with_unfolding_all rfl) HS8.out.whole Try.underlying70 (by with_unfolding_all rfl) (by rw [HTl.out]; exact Try.size70) ?_)
          | (with_reducible refine wpList_build_ofW (by with_unfolding_all rfl) 107 _ (by with_unfolding_all rfl) [(0, .int .u64 X), (1, .agg ts.toArray)] (by with_unfolding_all rfl) (Ky.mk nx sec 0).cells HBu.out ?_)
          | ((with_reducible refine wpList_slice1 (by with_unfolding_all rfl) _ (by with_unfolding_all rfl) (Ky.mk nx sec 0) HSe.out (by with_unfolding_all rfl) ?_); intro w9 B9 s9 g9; have HK9 := hid B9; have HO9 := hid (HO8.out.keep g9); have HX9 := hid (HX8.out.keep g9); have HB9 := hid (HB8.out.keep g9); have HA9 := hid (HA8.out.keep g9); have HG9 := hid (gtrans HGw8.out g9); clear B9 s9 g9)
          | (at_builtin; refine wpList_append_keys rfl _ _ rfl w.heap.size (fun _ => True) L2 [Ky.mk nx sec 0] HO9.out (one_rd HKo.out HK9.out _ trivial) (by rw [HL2n.out]; show m + 1 + 1 ≤ _; omega) HG9.out.size ?_; intro v10 w10 hO10 hg10; replace hg10 : w9.grownBy w10 (some g5) := hg10; obtain ⟨a10, c10, hv10⟩ := hO10.slice; rw [len_snoc, HL2n.out] at hv10; subst hv10; obtain ⟨cs6, hk6, hC6⟩ := HO9.out.blkB (g := g5) rfl; have HO10 := hid hO10; have HX10 := hid (HX9.out.on hg10 (fun e => hk6.neT HX9.out (by decide) (Option.some.inj e))); have HB10 := hid (HB9.out.on hg10 (fun e => hk6.neT HB9.out (by decide) (Option.some.inj e))); have HA10 := hid (HA9.out.on hg10 (fun e => hk6.neT HA9.out (by decide) (Option.some.inj e))); have HG10 := hid (HG9.out.andThen hg10 (fun j hj => .inl (by injection hj with hj; omega))); have q0 := HX10.out.cell 0; have qz := HX10.out.frozen 0; clear hO10 hg10 hk6 hC6 cs6))
        obtain ⟨w11, hw11⟩ : ∃ x, w10.setCell ⟨p8, 0, none⟩ (.slice a10 (m + 1 + 1) c10) = x := ⟨_, rfl⟩
        rw [hw11]
        have HX11 : Hid (Blk w11 p8 [.slice a10 (m + 1 + 1) c10, .int .u64 X] 69) := hid (by rw [← hw11]; exact HX10.out.set 0 _)
        have HG11 : Hid (w10.grownBy w11 (some p8)) := hid (by rw [← hw11]; exact gset _ _ _)
        have HO11 := hid (HO10.out.offB HG11.out HX10.out (by decide))
        have HB11 := hid (HB10.out.on HG11.out (by have := HPn.out; simp; omega))
        have HA11 := hid (HA10.out.on HG11.out (by have := HPn.out; simp; omega))
        have HGw11 := hid (HG10.out.andThen HG11.out (fun j hj => .inl (by injection hj with hj; have := HPn.out; omega)))
        clear hw11 q0 qz x0 x1 HX8 HX9 HX10 HB8 HB9 HB10 HA8 HA9 HA10 HS8 HO8 HO9 HO10 HG9 HG10 HG11 HGw8 HK9
        have x1 := HB11.out.cell 1
        have x2 := HX11.out.cell 1
        have z2 := HX11.out.frozen 1
        go_upto_region 11 with fail
        obtain ⟨w12, hw12⟩ : ∃ x, w11.setCell ⟨p8, 1, none⟩ (.int .u64 (X + 1)) = x := ⟨_, rfl⟩
        rw [hw12]
        have HX12 : Hid (Blk w12 p8 [.slice a10 (m + 1 + 1) c10, .int .u64 (X + 1)] 69) := hid (by rw [← hw12]; exact HX11.out.set 1 _)
        have HG12 : Hid (w11.grownBy w12 (some p8)) := hid (by rw [← hw12]; exact gset _ _ _)
        have HO12 := hid (HO11.out.offB HG12.out HX11.out (by decide))
        have HA12 := hid (HA11.out.on HG12.out (by have := HPn.out; simp; omega))
        have HGw12 := hid (HGw11.out.andThen HG12.out (fun j hj => .inl (by injection hj with hj; have := HPn.out; omega)))
        clear hw12 x1 x2 z2
        go_wp2_with (first
          | (with_reducible refine wpList_load_part (by with_unfolding_all rfl) 69 _ (by with_unfolding_all rfl) p8 0 [.slice a10 (m + 1 + 1) c10, .int .u64 (X + 1)] _ (by with_unfolding_all rfl) HX12.out.whole Try.underlying69 (by with_unfolding_all rfl) (by with_unfolding_all exact Try.size69) ?_)
          | ((with_reducible refine wpList_store_all (by with_unfolding_all rfl) 69 _ _ (by with_unfolding_all rfl) p6 [.slice none 0 0, .int .u64 0] [.slice a10 (m + 1 + 1) c10, .int .u64 (X + 1)] 69 (by with_unfolding_all rfl) (by with_unfolding_all rfl) HA12.out (by with_unfolding_all rfl) (by with_unfolding_all exact Try.size69) (ring_one _ _ _ _) ?_); intro w13 B13 g13 s13; have HA13 := hid B13; have HO13 := hid (HO12.out.offB g13 HA12.out (by decide)); have HG13 := hid (HGw12.out.andThen g13 (fun j hj => .inl (by injection hj with hj; have := HPn.out; omega))); clear B13 g13 s13))
        refine bodyPost_ret (v := .tuple #[.agg #[.slice a10 (m + 1 + 1) c10, .int .u64 (X + 1)], .int .i64 0]) (results_blk_tmp rfl _ p6 69 [.slice a10 (m + 1 + 1) c10, .int .u64 (X + 1)] _ (.int .i64 0) rfl rfl HA13.out Try.underlying69 rfl (by with_unfolding_all exact Try.size69)) rfl ?_
        exact ⟨a10, c10, rfl, by rw [HRL.out]; exact HO13.out, HG13.out⟩
end Go.Proofs.Ytmpcpakdocaieaa
