/- Rotate. -/
import Derived.Test.YtmpcpakdocaieaaRingI
namespace Go.Proofs.Ytmpcpakdocaieaa
open Go Go.RowKit
open Go.RowKit (wrap32 wrap64)

theorem kcs_set (t : Int) : ∀ (l : List Ky), (∀ k ∈ l, k.sec.length = 32) → ∀ (i : Nat) (hi : i < l.length), (kcs l).set (i * 34 + 33) (.int .i64 t) = kcs (l.set i ⟨l[i].kid, l[i].sec, t⟩)
  | [], _, i, hi => by simp at hi
  | k :: l, h, i, hi => by
    have h1 := Ky.cells_length (h k List.mem_cons_self)
    cases i with
    | zero =>
      rw [kcs_cons, List.set_append_left _ _ (by omega)]
      show (k.cells.set (0 * 34 + 33) _) ++ _ = _
      rw [Nat.zero_mul, Nat.zero_add, Ky.set33 (h k List.mem_cons_self)]
      rfl
    | succ i =>
      rw [kcs_cons, List.set_append_right _ _ (by omega), h1, show (i + 1) * 34 + 33 - 34 = i * 34 + 33 by omega]
      rw [kcs_set t l (fun q hq => h q (List.mem_cons_of_mem _ hq)) i (by simpa using hi)]
      rfl
theorem OutK.setTil {B : Nat} {w : World} {g n c : Nat} {l : List Ky} (h : OutK B w (.slice (some ⟨g, 0, none⟩) n c) l) (hn : l.length = n) (i : Nat) (hi : i < l.length) (t : Int) (ht : -9223372036854775808 ≤ t ∧ t ≤ 9223372036854775807) :
    OutK B (w.setCell ⟨g, i * 34 + 33, none⟩ (.int .i64 t)) (.slice (some ⟨g, 0, none⟩) n c) (l.set i ⟨l[i].kid, l[i].sec, t⟩) := by
  subst hn
  refine ⟨fun k hk => ?_, ?_⟩
  · rcases List.mem_or_eq_of_mem_set hk with hk | rfl
    · exact h.1 k hk
    · have := h.1 _ (List.getElem_mem hi)
      exact ⟨this.1, this.2.1, ht.1, ht.2⟩
  · have := (h.2.stored (i * 34 + 33) (.int .i64 t)).1
    rw [kcs_set t l h.1.len i hi] at this
    rw [List.length_set]
    exact this
theorem OutK.form {B : Nat} {w : World} {v : Value} {l : List Ky} (h : OutK B w v l) (h0 : 0 < l.length) : ∃ g c, v = .slice (some ⟨g, 0, none⟩) l.length c ∧ B ≤ g ∧ g < w.heap.size := by
  have hl := fun (g : Nat) (hg : v.ownBlock = some g) => h.2.lt g hg
  rcases h.2.2 with ⟨rfl, h1⟩ | ⟨g, cap, cur, rfl, hb, hg, _⟩
  · omega
  · exact ⟨g, cap, rfl, (hl g rfl).1, (hl g rfl).2⟩
/-- What Rotate tells. -/
def rotE (l : List Ky) (nx : Nat) (til : Int) : Int := if isRing l nx = true then (if til ≤ 0 then 52 else if (decide (l.length = 8) || decide (nx = 9223372036854775807)) = true then 51 else 0) else 50
def rotL (l : List Ky) (nx : Nat) (sec : List UInt8) (til : Int) : List Ky := l.set (l.length - 1) ⟨(lastK l).kid, (lastK l).sec, til⟩ ++ [⟨nx, sec, 0⟩]
def rotR (l : List Ky) (nx : Nat) (sec : List UInt8) (til : Int) : List Ky × Nat := if rotE l nx til = 0 then (rotL l nx sec til, nx + 1) else ([], 0)
set_option maxRecDepth 100000 in
set_option maxHeartbeats 1600000 in
theorem rotate_any (w : World) (v : Value) (F : Nat → Prop) (l : List Ky) (nx : Nat) (sec : List UInt8) (til : Int) (hv : RdK w F v l) (hl : l.length ≤ 1099511627776) (hs : sec.length = 32) (ht : -9223372036854775808 ≤ til ∧ til ≤ 9223372036854775807) :
    Calls Try.prog 12 #[.agg #[v, .int .u64 nx], .agg (Lib.byteCells sec).toArray, .int .i64 til] w fun e w' => ∃ a c, e = .returned (.tuple #[.agg #[.slice a (rotR l nx sec til).1.length c, .int .u64 (rotR l nx sec til).2], .int .i64 (rotE l nx til)]) ∧ OutK w.heap.size w' (.slice a (rotR l nx sec til).1.length c) (rotR l nx sec til).1 ∧ w.grownBy w' none := by
  have HV := hid hv
  obtain ⟨ho, a, b, off, c, rfl, hc, Ha, Hc⟩ := hv.open
  obtain ⟨n, HN⟩ : ∃ n, Hid (l.length = n) := ⟨_, hid rfl⟩
  have HO := hid ho
  obtain ⟨g, HGd⟩ : ∃ g, Hid (isRing l nx = g) := ⟨_, hid rfl⟩
  have HCk : Hid (∀ u, w.grownBy u none → Calls Try.prog 31 #[.agg #[.slice a n c, .int .u64 nx]] u fun e w' => e = .returned (.int .i64 (if g = true then 0 else 50)) ∧ u.grownBy w' none) := fun u hu => by
    have := check_any u _ F l nx (HV.out.keep hu) hl
    unfold chk at this
    rw [HGd.out, HN.out] at this
    exact this
  rw [HN.out] at HV
  have HRE : Hid (rotE l nx til = if g = true then (if til ≤ 0 then 52 else if (decide (n = 8) || decide (nx = 9223372036854775807)) = true then 51 else 0) else 50) := hid (by unfold rotE; rw [HGd.out, HN.out])
  obtain ⟨cs, HCS⟩ : ∃ cs, Hid (Lib.byteCells sec = cs) := ⟨_, hid rfl⟩
  have HCL : Hid (cs.length = 32) := hid (by rw [← HCS.out, byteCells_length, hs])
  have HWC : Hid (∀ (u : World) (v : Value) (acc : List Ky) (B : Nat), OutK B u v acc → B ≤ u.heap.size → acc.length ≤ 1000000 → nx < 18446744073709551615 → Calls Try.prog 33 #[v, .int .u64 nx, .agg cs.toArray] u fun e w' => ∃ a c, e = .returned (.agg #[.slice a (acc.length + 1) c, .int .u64 (nx + 1 : Nat)]) ∧ OutK B w' (.slice a (acc.length + 1) c) (acc ++ [⟨nx, sec, 0⟩]) ∧ u.grownBy w' v.ownBlock) := fun u v acc B h1 h2 h3 h4 => by
    rw [← HCS.out]
    exact withCurrent_any u B v acc nx sec h1 h2 h3 h4 hs
  rw [HN.out, HCS.out]
  have HLl := hid hl
  clear hv hc ho Ha Hc hl
  obtain ⟨W1, hW1⟩ : ∃ x, w.alloc (.cells #[.slice a n c, .int .u64 nx] 69) = x := ⟨_, rfl⟩
  obtain ⟨b1, hb1⟩ : ∃ x, w.heap.size = x := ⟨_, rfl⟩
  have HB1 : Hid (Blk W1 b1 [.slice a n c, .int .u64 nx] 69) := hid (by rw [← hW1, ← hb1]; exact Blk.new w [.slice a n c, .int .u64 nx] 69)
  have HG1 : Hid (w.grownBy W1 none) := hid (by rw [← hW1]; exact galloc _ _ _)
  have HSz : Hid (W1.heap.size = b1 + 1) := hid (by rw [← hW1, ← hb1]; simp)
  have hs1 := HSz.out
  rw [hb1]
  cases g with
  | false =>
    rw [if_neg (by decide)] at HCk HRE
    have HRR : Hid (rotR l nx sec til = ([], 0)) := hid (by unfold rotR; rw [HRE.out, if_neg (by decide)])
    rw [HRR.out, HRE.out]
    show Calls _ _ _ _ (fun e w' => ∃ a c, e = .returned (.tuple #[.agg #[.slice a 0 c, .int .u64 (0 : Nat)], .int .i64 50]) ∧ OutK b1 w' (.slice a 0 c) [] ∧ w.grownBy w' none)
    go_enter Try.func12, Try.ntmps12
    go_wp2_with (first
      | (with_reducible refine wpList_box_row (by with_unfolding_all rfl) 70 _ (by with_unfolding_all rfl) cs (by with_unfolding_all rfl) ?_; intro w2 B2 s2 g2; have HB2 := hid B2; have HG2 := hid g2; have HS2 := hid s2; clear B2 g2 s2; rw [hs1] at HB2)
      | (with_reducible refine wpList_alloc_row (by with_unfolding_all rfl) 69 (by with_unfolding_all rfl) [.slice none 0 0, .int .u64 0] Try.zero69 ?_; intro w3 B3 s3 g3; have HB3 := hid B3; have HG3 := hid g3; have HS3 := hid s3; clear B3 g3 s3; have HR3 := hid ((HB1.out.keep HG2.out).keep HG3.out); have y0 := HR3.out.cell 0; have y1 := HR3.out.cell 1)
      | (with_reducible refine wpList_load_part (by with_unfolding_all rfl) 69 _ (by with_unfolding_all rfl) b1 0 [.slice a n c, .int .u64 nx] _ (by with_unfolding_all rfl) HR3.out.whole Try.underlying69 (by with_unfolding_all rfl) (by with_unfolding_all exact Try.size69) ?_)
      | (go_at_call 31; with_reducible refine (HCk.out _ (gtrans HG1.out (gtrans HG2.out HG3.out))).mono ?_; rintro e w4 ⟨rfl, hg4⟩; have HG4 := hid hg4; clear hg4; have HB4 := hid (HB3.out.keep HG4.out); have HGx := hid (gtrans (gtrans HG1.out (gtrans HG2.out HG3.out)) HG4.out); have HR4 := hid (HR3.out.keep HG4.out); have HC4 := hid ((HB2.out.keep HG3.out).keep HG4.out); have y0 := HR4.out.cell 0; have y1 := HR4.out.cell 1)
      | (with_reducible refine wpList_build_row (by with_unfolding_all rfl) 69 (by with_unfolding_all rfl) [.slice none 0 0, .int .u64 0] Try.built69 ?_)
      | (with_reducible refine wpList_store_all (by with_unfolding_all rfl) 69 _ _ (by with_unfolding_all rfl) _ [.slice none 0 0, .int .u64 0] [.slice none 0 0, .int .u64 0] 69 (by with_unfolding_all rfl) (by with_unfolding_all rfl) HB4.out (by with_unfolding_all rfl) (by with_unfolding_all exact Try.size69) (ring_one _ _ _ _) ?_; intro w5 B5 g5 s5; have HB5 := hid B5; have HG5 := hid g5; have HS5 := hid s5; clear B5 g5 s5))
    refine bodyPost_ret (v := .tuple #[.agg #[.slice none 0 0, .int .u64 0], .int .i64 50]) (results_blk_tmp rfl _ w2.heap.size 69 [.slice none 0 0, .int .u64 0] _ (.int .i64 50) rfl rfl HB5.out Try.underlying69 rfl Try.size69) rfl ?_
    exact ⟨none, 0, rfl, OutK.nil _ _, HGx.out.andThen HG5.out (fun j hj => .inl (by injection hj with hj; have := HG1.out.size; have := HG2.out.size; omega))⟩
  | true =>
    rw [if_pos rfl] at HCk HRE
    by_cases h52 : til ≤ 0
    · rw [if_pos h52] at HRE
      have HRR : Hid (rotR l nx sec til = ([], 0)) := hid (by unfold rotR; rw [HRE.out, if_neg (by decide)])
      rw [HRR.out, HRE.out]
      show Calls _ _ _ _ (fun e w' => ∃ a c, e = .returned (.tuple #[.agg #[.slice a 0 c, .int .u64 (0 : Nat)], .int .i64 52]) ∧ OutK b1 w' (.slice a 0 c) [] ∧ w.grownBy w' none)
      go_enter Try.func12, Try.ntmps12
      go_wp2_with (first
        | (with_reducible refine wpList_box_row (by with_unfolding_all rfl) 70 _ (by with_unfolding_all rfl) cs (by with_unfolding_all rfl) ?_; intro w2 B2 s2 g2; have HB2 := hid B2; have HG2 := hid g2; have HS2 := hid s2; clear B2 g2 s2; rw [hs1] at HB2)
        | (with_reducible refine wpList_alloc_row (by with_unfolding_all rfl) 69 (by with_unfolding_all rfl) [.slice none 0 0, .int .u64 0] Try.zero69 ?_; intro w3 B3 s3 g3; have HB3 := hid B3; have HG3 := hid g3; have HS3 := hid s3; clear B3 g3 s3; have HR3 := hid ((HB1.out.keep HG2.out).keep HG3.out); have y0 := HR3.out.cell 0; have y1 := HR3.out.cell 1)
        | (with_reducible refine wpList_load_part (by with_unfolding_all rfl) 69 _ (by with_unfolding_all rfl) b1 0 [.slice a n c, .int .u64 nx] _ (by with_unfolding_all rfl) HR3.out.whole Try.underlying69 (by with_unfolding_all rfl) (by with_unfolding_all exact Try.size69) ?_)
        | (go_at_call 31; with_reducible refine (HCk.out _ (gtrans HG1.out (gtrans HG2.out HG3.out))).mono ?_; rintro e w4 ⟨rfl, hg4⟩; have HG4 := hid hg4; clear hg4; have HB4 := hid (HB3.out.keep HG4.out); have HGx := hid (gtrans (gtrans HG1.out (gtrans HG2.out HG3.out)) HG4.out); have HR4 := hid (HR3.out.keep HG4.out); have HC4 := hid ((HB2.out.keep HG3.out).keep HG4.out); have y0 := HR4.out.cell 0; have y1 := HR4.out.cell 1)
        | (with_reducible refine wpList_build_row (by with_unfolding_all rfl) 69 (by with_unfolding_all rfl) [.slice none 0 0, .int .u64 0] Try.built69 ?_)
        | (with_reducible refine wpList_store_all (by with_unfolding_all rfl) 69 _ _ (by with_unfolding_all rfl) _ [.slice none 0 0, .int .u64 0] [.slice none 0 0, .int .u64 0] 69 (by with_unfolding_all rfl) (by with_unfolding_all rfl) HB4.out (by with_unfolding_all rfl) (by with_unfolding_all exact Try.size69) (ring_one _ _ _ _) ?_; intro w5 B5 g5 s5; have HB5 := hid B5; have HG5 := hid g5; have HS5 := hid s5; clear B5 g5 s5))
      refine bodyPost_ret (v := .tuple #[.agg #[.slice none 0 0, .int .u64 0], .int .i64 52]) (results_blk_tmp rfl _ w2.heap.size 69 [.slice none 0 0, .int .u64 0] _ (.int .i64 52) rfl rfl HB5.out Try.underlying69 rfl Try.size69) rfl ?_
      exact ⟨none, 0, rfl, OutK.nil _ _, HGx.out.andThen HG5.out (fun j hj => .inl (by injection hj with hj; have := HG1.out.size; have := HG2.out.size; omega))⟩
    · rw [if_neg h52] at HRE
      by_cases h8 : n = 8
      · rw [decide_eq_true h8, Bool.true_or, if_pos rfl] at HRE
        have HRR : Hid (rotR l nx sec til = ([], 0)) := hid (by unfold rotR; rw [HRE.out, if_neg (by decide)])
        rw [HRR.out, HRE.out]
        have h8' : (n : Int) = 8 := by omega
        clear h8
        show Calls _ _ _ _ (fun e w' => ∃ a c, e = .returned (.tuple #[.agg #[.slice a 0 c, .int .u64 (0 : Nat)], .int .i64 51]) ∧ OutK b1 w' (.slice a 0 c) [] ∧ w.grownBy w' none)
        go_enter Try.func12, Try.ntmps12
        go_wp2_with (first
          | (with_reducible refine wpList_box_row (by with_unfolding_all rfl) 70 _ (by with_unfolding_all rfl) cs (by with_unfolding_all rfl) ?_; intro w2 B2 s2 g2; have HB2 := hid B2; have HG2 := hid g2; have HS2 := hid s2; clear B2 g2 s2; rw [hs1] at HB2)
          | (with_reducible refine wpList_alloc_row (by with_unfolding_all rfl) 69 (by with_unfolding_all rfl) [.slice none 0 0, .int .u64 0] Try.zero69 ?_; intro w3 B3 s3 g3; have HB3 := hid B3; have HG3 := hid g3; have HS3 := hid s3; clear B3 g3 s3; have HR3 := hid ((HB1.out.keep HG2.out).keep HG3.out); have y0 := HR3.out.cell 0; have y1 := HR3.out.cell 1)
          | (with_reducible refine wpList_load_part (by with_unfolding_all rfl) 69 _ (by with_unfolding_all rfl) b1 0 [.slice a n c, .int .u64 nx] _ (by with_unfolding_all rfl) HR3.out.whole Try.underlying69 (by with_unfolding_all rfl) (by with_unfolding_all exact Try.size69) ?_)
          | (go_at_call 31; with_reducible refine (HCk.out _ (gtrans HG1.out (gtrans HG2.out HG3.out))).mono ?_; rintro e w4 ⟨rfl, hg4⟩; have HG4 := hid hg4; clear hg4; have HB4 := hid (HB3.out.keep HG4.out); have HGx := hid (gtrans (gtrans HG1.out (gtrans HG2.out HG3.out)) HG4.out); have HR4 := hid (HR3.out.keep HG4.out); have HC4 := hid ((HB2.out.keep HG3.out).keep HG4.out); have y0 := HR4.out.cell 0; have y1 := HR4.out.cell 1)
          | (with_reducible refine wpList_build_row (by with_unfolding_all rfl) 69 (by with_unfolding_all rfl) [.slice none 0 0, .int .u64 0] Try.built69 ?_)
          | (with_reducible refine wpList_store_all (by with_unfolding_all rfl) 69 _ _ (by with_unfolding_all rfl) _ [.slice none 0 0, .int .u64 0] [.slice none 0 0, .int .u64 0] 69 (by with_unfolding_all rfl) (by with_unfolding_all rfl) HB4.out (by with_unfolding_all rfl) (by with_unfolding_all exact Try.size69) (ring_one _ _ _ _) ?_; intro w5 B5 g5 s5; have HB5 := hid B5; have HG5 := hid g5; have HS5 := hid s5; clear B5 g5 s5))
        refine bodyPost_ret (v := .tuple #[.agg #[.slice none 0 0, .int .u64 0], .int .i64 51]) (results_blk_tmp rfl _ w2.heap.size 69 [.slice none 0 0, .int .u64 0] _ (.int .i64 51) rfl rfl HB5.out Try.underlying69 rfl Try.size69) rfl ?_
        exact ⟨none, 0, rfl, OutK.nil _ _, HGx.out.andThen HG5.out (fun j hj => .inl (by injection hj with hj; have := HG1.out.size; have := HG2.out.size; omega))⟩
      · rw [decide_eq_false h8, Bool.false_or] at HRE
        have h8' : ¬ (n : Int) = 8 := by omega
        by_cases hmx : nx = 9223372036854775807
        · rw [decide_eq_true hmx, if_pos rfl] at HRE
          have HRR : Hid (rotR l nx sec til = ([], 0)) := hid (by unfold rotR; rw [HRE.out, if_neg (by decide)])
          rw [HRR.out, HRE.out]
          have hmx' : ((nx : Int) == 9223372036854775807) = true := by rw [beq_iff_eq]; omega
          clear hmx
          show Calls _ _ _ _ (fun e w' => ∃ a c, e = .returned (.tuple #[.agg #[.slice a 0 c, .int .u64 (0 : Nat)], .int .i64 51]) ∧ OutK b1 w' (.slice a 0 c) [] ∧ w.grownBy w' none)
          go_enter Try.func12, Try.ntmps12
          go_wp2_with (first
            | (with_reducible refine wpList_box_row (by with_unfolding_all rfl) 70 _ (by with_unfolding_all rfl) cs (by with_unfolding_all rfl) ?_; intro w2 B2 s2 g2; have HB2 := hid B2; have HG2 := hid g2; have HS2 := hid s2; clear B2 g2 s2; rw [hs1] at HB2)
            | (with_reducible refine wpList_alloc_row (by with_unfolding_all rfl) 69 (by with_unfolding_all rfl) [.slice none 0 0, .int .u64 0] Try.zero69 ?_; intro w3 B3 s3 g3; have HB3 := hid B3; have HG3 := hid g3; have HS3 := hid s3; clear B3 g3 s3; have HR3 := hid ((HB1.out.keep HG2.out).keep HG3.out); have y0 := HR3.out.cell 0; have y1 := HR3.out.cell 1)
            | (with_reducible refine wpList_load_part (by with_unfolding_all rfl) 69 _ (by with_unfolding_all rfl) b1 0 [.slice a n c, .int .u64 nx] _ (by with_unfolding_all rfl) HR3.out.whole Try.underlying69 (by with_unfolding_all rfl) (by with_unfolding_all exact Try.size69) ?_)
            | (go_at_call 31; with_reducible refine (HCk.out _ (gtrans HG1.out (gtrans HG2.out HG3.out))).mono ?_; rintro e w4 ⟨rfl, hg4⟩; have HG4 := hid hg4; clear hg4; have HB4 := hid (HB3.out.keep HG4.out); have HGx := hid (gtrans (gtrans HG1.out (gtrans HG2.out HG3.out)) HG4.out); have HR4 := hid (HR3.out.keep HG4.out); have HC4 := hid ((HB2.out.keep HG3.out).keep HG4.out); have y0 := HR4.out.cell 0; have y1 := HR4.out.cell 1)
            | (with_reducible refine wpList_build_row (by with_unfolding_all rfl) 69 (by with_unfolding_all rfl) [.slice none 0 0, .int .u64 0] Try.built69 ?_)
            | (with_reducible refine wpList_store_all (by with_unfolding_all rfl) 69 _ _ (by with_unfolding_all rfl) _ [.slice none 0 0, .int .u64 0] [.slice none 0 0, .int .u64 0] 69 (by with_unfolding_all rfl) (by with_unfolding_all rfl) HB4.out (by with_unfolding_all rfl) (by with_unfolding_all exact Try.size69) (ring_one _ _ _ _) ?_; intro w5 B5 g5 s5; have HB5 := hid B5; have HG5 := hid g5; have HS5 := hid s5; clear B5 g5 s5))
          refine bodyPost_ret (v := .tuple #[.agg #[.slice none 0 0, .int .u64 0], .int .i64 51]) (results_blk_tmp rfl _ w2.heap.size 69 [.slice none 0 0, .int .u64 0] _ (.int .i64 51) rfl rfl HB5.out Try.underlying69 rfl Try.size69) rfl ?_
          exact ⟨none, 0, rfl, OutK.nil _ _, HGx.out.andThen HG5.out (fun j hj => .inl (by injection hj with hj; have := HG1.out.size; have := HG2.out.size; omega))⟩
        · rw [decide_eq_false hmx, if_neg (by decide)] at HRE
          have hmx' : ¬ (nx : Int) = 9223372036854775807 := by omega
          have HRR : Hid (rotR l nx sec til = (rotL l nx sec til, nx + 1)) := hid (by unfold rotR; rw [HRE.out, if_pos rfl])
          rw [HRR.out, HRE.out]
          obtain ⟨h0, h8l⟩ := goodL_pos (isRing_good HGd.out).1
          rw [HN.out] at h0 h8l
          obtain ⟨m, rfl⟩ : ∃ m, n = m + 1 := ⟨n - 1, by omega⟩
          have HM8 : Hid (m < 8) := hid (by omega)
          have hnx := (isRing_good HGd.out).2.2
          have hml : m < l.length := by rw [HN.out]; omega
          have hlast : lastK l = l[m] := by
            unfold lastK
            rw [List.getLast?_eq_getElem?, HN.out, Nat.add_sub_cancel, List.getElem?_eq_getElem hml]
            rfl
          have HRo : Hid (rotL l nx sec til = l.set m ⟨l[m].kid, l[m].sec, til⟩ ++ [⟨nx, sec, 0⟩]) := hid (by unfold rotL; rw [HN.out, Nat.add_sub_cancel, hlast])
          have HCl : Hid (∀ u, w.grownBy u none → Calls Try.prog 35 #[.slice a (m + 1) c] u fun e w' => ∃ v', e = .returned v' ∧ OutK u.heap.size w' v' l ∧ u.grownBy w' none) := fun u hu => clone_any u _ F l (HV.out.keep hu) (by omega) (by rw [HN.out]; have := HM8.out; omega)
          have HSt : Hid (∀ (u : World) (B g c : Nat), OutK B u (.slice (some ⟨g, 0, none⟩) (m + 1) c) l → OutK B (u.setCell ⟨g, m * 34 + 33, none⟩ (.int .i64 til)) (.slice (some ⟨g, 0, none⟩) (m + 1) c) (l.set m ⟨l[m].kid, l[m].sec, til⟩) ∧ u.cell? ⟨g, m * 34 + 33, none⟩ = some (.int .i64 l[m].til) ∧ u.frozen? ⟨g, m * 34 + 33, none⟩ = false) := fun u B g c h => by
            refine ⟨h.setTil HN.out m hml til ht, ?_, ?_⟩
            · have h2 := h.2
              rw [HN.out] at h2
              rw [h2.cellAt (m * 34 + 33) (by omega), kcs_get l h.1.len m l[m] (List.getElem?_eq_getElem hml) 33 (by decide)]
              exact Ky.c33 (h.1.len _ (List.getElem_mem hml))
            · have h2 := h.2
              rw [HN.out] at h2
              exact h2.frozenAt _
          obtain ⟨L', HL'⟩ : ∃ x, Hid (l.set m ⟨l[m].kid, l[m].sec, til⟩ = x) := ⟨_, hid rfl⟩
          obtain ⟨tm, HTm⟩ : ∃ x, Hid (l[m].til = x) := ⟨_, hid rfl⟩
          rw [HL'.out] at HRo HSt
          rw [HTm.out] at HSt
          have HLL : Hid (L'.length = m + 1) := hid (by rw [← HL'.out, List.length_set]; exact HN.out)
          rw [HRo.out]
          show Calls _ _ _ _ (fun e w' => ∃ a c, e = .returned (.tuple #[.agg #[.slice a (L' ++ [Ky.mk nx sec 0]).length c, .int .u64 (nx + 1 : Nat)], .int .i64 0]) ∧ OutK b1 w' (.slice a (L' ++ [Ky.mk nx sec 0]).length c) (L' ++ [Ky.mk nx sec 0]) ∧ w.grownBy w' none)
          rw [len_snoc, HLL.out]
          have HNx := hid hnx
          have h8'' : ((m : Int) + 1 == 8) = false := beq_eq_false_iff_ne.2 (by omega)
          have hmx'' : ((nx : Int) == 9223372036854775807) = false := beq_eq_false_iff_ne.2 (by omega)
          have HW7 : Hid (∀ (u : World) (v : Value), OutK b1 u v L' → b1 ≤ u.heap.size → Calls Try.prog 33 #[v, .int .u64 nx, .agg cs.toArray] u fun e w' => ∃ a c, e = .returned (.agg #[.slice a (m + 1 + 1) c, .int .u64 (nx + 1 : Nat)]) ∧ OutK b1 w' (.slice a (m + 1 + 1) c) (L' ++ [Ky.mk nx sec 0]) ∧ u.grownBy w' v.ownBlock) := fun u v h1 h2 => by
            have := HWC.out u v L' b1 h1 h2 (by rw [HLL.out]; have := HM8.out; omega) (by have := HNx.out; omega)
            rw [HLL.out] at this
            exact this
          clear hlast hml HTm HL' h0 h8l hnx h8 hmx h8' hmx'
          have hm8 : m + 1 ≤ 8 := by have := HM8.out; omega
          go_enter Try.func12, Try.ntmps12
          go_wp2_with (first
            | (with_reducible refine wpList_box_row (by with_unfolding_all rfl) 70 _ (by with_unfolding_all rfl) cs (by with_unfolding_all rfl) ?_; intro w2 B2 s2 g2; have HB2 := hid B2; have HG2 := hid g2; have HS2 := hid s2; clear B2 g2 s2; rw [hs1] at HB2)
            | (with_reducible refine wpList_alloc_row (by with_unfolding_all rfl) 69 (by with_unfolding_all rfl) [.slice none 0 0, .int .u64 0] Try.zero69 ?_; intro w3 B3 s3 g3; have HB3 := hid B3; have HG3 := hid g3; have HS3 := hid s3; clear B3 g3 s3; have HR3 := hid ((HB1.out.keep HG2.out).keep HG3.out); have y0 := HR3.out.cell 0; have y1 := HR3.out.cell 1)
            | (with_reducible refine wpList_load_part (by with_unfolding_all rfl) 69 _ (by with_unfolding_all rfl) b1 0 [.slice a n c, .int .u64 nx] _ (by with_unfolding_all rfl) HR3.out.whole Try.underlying69 (by with_unfolding_all rfl) (by with_unfolding_all exact Try.size69) ?_)
            | (go_at_call 31; with_reducible refine (HCk.out _ (gtrans HG1.out (gtrans HG2.out HG3.out))).mono ?_; rintro e w4 ⟨rfl, hg4⟩; have HG4 := hid hg4; clear hg4; have HB4 := hid (HB3.out.keep HG4.out); have HGx := hid (gtrans (gtrans HG1.out (gtrans HG2.out HG3.out)) HG4.out); have HR4 := hid (HR3.out.keep HG4.out); have HC4 := hid ((HB2.out.keep HG3.out).keep HG4.out); have y0 := HR4.out.cell 0; have y1 := HR4.out.cell 1)
            | (go_at_call 35; with_reducible refine (HCl.out _ HGx.out).mono ?_; rintro e w5 ⟨v5, rfl, hO5, hg5⟩; obtain ⟨g5, c5, hv5, hgB, hgl⟩ := hO5.form (by rw [HN.out]; omega); rw [HN.out] at hv5; subst hv5; have HG5 := hid hg5; have HO5 := hid (hO5.below (show b1 ≤ w4.heap.size by have := HGx.out.size; omega)); have HGb := hid hgB; clear hO5 hg5 hgB; obtain ⟨hO6, z1, z2⟩ := HSt.out w5 _ _ _ HO5.out; obtain ⟨W6, hW6⟩ : ∃ x, w5.setCell ⟨g5, m * 34 + 33, none⟩ (.int .i64 til) = x := ⟨_, rfl⟩; rw [hW6] at hO6; have HO6 := hid hO6; have HG6 : Hid (w5.grownBy W6 (some g5)) := hid (by rw [← hW6]; exact gset _ _ _); have HR6 := hid ((HR4.out.keep HG5.out).on HG6.out (by simp; have := HGb.out; have := HR4.out.lt; omega)); have HC6 := hid ((HC4.out.keep HG5.out).on HG6.out (by simp; have := HGb.out; have := HC4.out.lt; omega)); have HB6 := hid ((HB4.out.keep HG5.out).on HG6.out (by simp; have := HGb.out; have := HB4.out.lt; omega)); have y0 := HR6.out.cell 0; have y1 := HR6.out.cell 1; clear hO6; have HGy := hid ((gtrans HGx.out HG5.out).andThen HG6.out (fun j hj => .inl (by injection hj with hj; have := HGb.out; have := HGx.out.size; omega))))
            | (with_reducible refine wpList_load_part (by with_unfolding_all rfl) 70 _ (by with_unfolding_all rfl) (b1 + 1) 0 cs _ (by with_unfolding_all rfl) HC6.out.whole Try.underlying70 (by with_unfolding_all rfl) (by rw [HCL.out]; exact Try.size70) ?_)
            | (go_at_call 33; (with_reducible refine (HW7.out _ _ HO6.out (by have := HGy.out.size; omega)).mono ?_); rintro e w7 ⟨a7, c7, rfl, hO7, hg7⟩; have HO7 := hid hO7; have HG7 : Hid (W6.grownBy w7 (some g5)) := hid hg7; clear hO7 hg7; have HB7 := hid (HB6.out.on HG7.out (by simp; have := HGb.out; have := HB4.out.lt; omega)))
            | (with_reducible refine wpList_store_all (by with_unfolding_all rfl) 69 _ _ (by with_unfolding_all rfl) _ [.slice none 0 0, .int .u64 0] [.slice a7 (m + 1 + 1) c7, .int .u64 (nx + 1 : Nat)] 69 (by with_unfolding_all rfl) (by with_unfolding_all rfl) HB7.out (by with_unfolding_all rfl) (by with_unfolding_all exact Try.size69) (ring_one _ _ _ _) ?_; intro w8 B8 g8 s8; have HB8 := hid B8; have HG8 := hid g8; have HS8 := hid s8; clear B8 g8 s8))
          refine bodyPost_ret (v := .tuple #[.agg #[.slice a7 (m + 1 + 1) c7, .int .u64 (nx + 1 : Nat)], .int .i64 0]) (results_blk_tmp rfl _ w2.heap.size 69 [.slice a7 (m + 1 + 1) c7, .int .u64 (nx + 1 : Nat)] _ (.int .i64 0) rfl rfl HB8.out Try.underlying69 rfl Try.size69) rfl ?_
          refine ⟨a7, c7, rfl, HO7.out.on HG8.out (fun j hj e => ?_), ((HGy.out.andThen HG7.out (fun j hj => .inl (by injection hj with hj; have := HGb.out; have := HGx.out.size; omega))).andThen HG8.out (fun j hj => .inl (by injection hj with hj; have := HG1.out.size; have := HG2.out.size; omega)))⟩
          injection hj with hj
          exact HO7.out.ne_blk HB7.out (by decide) _ e hj.symm
end Go.Proofs.Ytmpcpakdocaieaa
