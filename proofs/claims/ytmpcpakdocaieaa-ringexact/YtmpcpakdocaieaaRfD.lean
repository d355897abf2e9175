/- The reference's Prune. -/
import Derived.Test.YtmpcpakdocaieaaRfC
import Derived.Test.YtmpcpakdocaieaaGrowX
namespace Go.Proofs.Ytmpcpakdocaieaa
open Go Go.RowKit
open Go.RowKit (wrap32 wrap64)

theorem shown_slice1 {o : Oper} {A : Act} {u : World} {Q : Exit → Act → World → Prop} {Ψ : Value → World → Prop} {row : Option Nat} (x : Operand) (ho : o.op = .buildSlice 55 1 #[(0, x)]) (k : Ky) (hk : k.sec.length = 32) (hx : A.eval x = .agg k.cells.toArray)
    (hΦ : ∀ w', Blk w' u.heap.size k.cells 107 → u.grownBy w' none → Ψ (.slice (some ⟨u.heap.size, 0, none⟩) 1 1) w') : o.wp Try.prog A u (fun A' u' => ∃ v, A' = A.put o.dst v ∧ u.grownBy u' row ∧ Ψ v u') Q := by
  have e : (#[(0, x)] : Array (Nat × Operand)).map (fun (i, x) => (i, A.eval x)) = #[(0, .agg k.cells.toArray)] := by simp [hx]
  unfold Oper.wp execOp
  simp only [ho]
  rw [e, Sem.run_bind, run_slice1 k hk u]
  exact ⟨_, rfl, galloc _ _ _, hΦ _ (Blk.new u k.cells 107) (galloc _ _ _)⟩
theorem ring_til {l : List Ky} {nx : Nat} (h : isRing l nx = true) {k : Ky} (hk : k ∈ l) : 0 ≤ k.til := by
  obtain ⟨i, hr⟩ := isRing_rg h
  have h1 := hr.eq
  rw [h1] at hk
  have hg := (isRing_good h).1
  unfold goodL at hg
  simp only [Bool.and_eq_true] at hg
  have ht := (goodFrom_iff l 0).1 hg.2.2
  have h2 := ht.2.2
  rw [h1] at h2
  have h3 := (tilOk_snoc _ _).1 h2
  rcases List.mem_append.1 hk with hk | hk
  · have := h3.1 k hk; omega
  · rw [List.mem_singleton.1 hk]; have := h3.2; omega
theorem goes_keep {k : Ky} {now : Int} (h : k.til = 0 ∨ now < k.til) : (!goesP now k) = true := by
  unfold goesP
  rw [Bool.not_eq_true', Bool.and_eq_false_iff, decide_eq_false_iff_not, decide_eq_false_iff_not]
  omega
theorem goes_drop {k : Ky} {now : Int} (h0 : 0 ≤ k.til) (h : ¬ k.til = 0 ∧ ¬ now < k.til) : (!goesP now k) = false := by
  unfold goesP
  rw [decide_eq_true (show 0 < k.til by omega), decide_eq_true (show k.til ≤ now by omega)]
  rfl
theorem built_next (nx : Int) : Try.prog.built 69 [(1, .int .u64 nx)] = some [Value.slice none 0 0, .int .u64 nx].toArray := by kernel_rfl
set_option maxRecDepth 100000 in
set_option maxHeartbeats 3200000 in
theorem rprn_any (w : World) (v : Value) (F : Nat → Prop) (l : List Ky) (nx : Nat) (now : Int) (hv : RdK w F v l) (hl : l.length ≤ 1099511627776) :
    Calls Try.prog 13 #[.agg #[v, .int .u64 nx], .int .i64 now] w fun e w' => ∃ a c, e = .returned (.agg #[.slice a (prn l nx now).1.length c, .int .u64 (prn l nx now).2]) ∧ OutK w.heap.size w' (.slice a (prn l nx now).1.length c) (prn l nx now).1 ∧ w.grownBy w' none := by
  have HV := hid hv
  obtain ⟨ho, a, b, off, c, rfl, hc, Ha, Hc⟩ := hv.open
  obtain ⟨n, HN⟩ : ∃ n, Hid (l.length = n) := ⟨_, hid rfl⟩
  obtain ⟨g, HGd⟩ : ∃ g, Hid (isRing l nx = g) := ⟨_, hid rfl⟩
  have HO := hid ho
  have HCk : Hid (∀ u, w.grownBy u none → Calls Try.prog 34 #[.agg #[.slice a n c, .int .u64 nx]] u fun e w' => e = .returned (.int .i64 (if g = true then 0 else 50)) ∧ u.grownBy w' none) := fun u hu => by
    have := rchk_any u _ F l nx (HV.out.keep hu) hl
    unfold chk at this
    rw [HGd.out, HN.out] at this
    exact this
  rw [HN.out]
  rw [HN.out] at HV hl
  have HOk := hid HO.out
  clear hv hc ho HO
  cases g with
  | false =>
    have he : prn l nx now = ([], 0) := by unfold prn; rw [HGd.out, if_neg (by decide)]
    rw [he]
    rw [if_neg (by decide)] at HCk
    show Calls Try.prog 13 _ w fun e w' => ∃ a c, e = .returned (.agg #[.slice a 0 c, .int .u64 0]) ∧ OutK w.heap.size w' (.slice a 0 c) [] ∧ w.grownBy w' none
    clear he
    go_enter Try.func13, Try.ntmps13
    go_wp2_with (first
      | ((with_reducible refine wpList_box_row (by with_unfolding_all rfl) 69 _ (by with_unfolding_all rfl) [.slice a n c, .int .u64 nx] (by with_unfolding_all rfl) ?_); intro w1 B1 s1 g1; have HB1 := hid B1; have HG1 := hid g1; clear B1 s1 g1)
      | ((with_reducible refine wpList_alloc_row (by with_unfolding_all rfl) 69 (by with_unfolding_all rfl) [.slice none 0 0, .int .u64 0] Try.zero69 ?_); intro w2 B2 s2 g2; have HA2 := hid B2; have HB2 := hid (HB1.out.keep g2); have HG2 := hid (gtrans HG1.out g2); clear B2 s2 g2)
      | (with_reducible refine wpList_load_part (by with_unfolding_all rfl) 69 _ (by with_unfolding_all rfl) w.heap.size 0 [.slice a n c, .int .u64 nx] _ (by with_unfolding_all rfl) HB2.out.whole Try.underlying69 (by with_unfolding_all rfl) (by with_unfolding_all exact Try.size69) ?_)
      | (go_at_call 34; (with_reducible refine (HCk.out _ HG2.out).mono ?_); rintro e w3 ⟨rfl, hg3⟩; have HA3 := hid (HA2.out.keep hg3); have HB3 := hid (HB2.out.keep hg3); have HG3 := hid (gtrans HG2.out hg3); have y0 := HB3.out.cell 0; have y1 := HB3.out.cell 1; clear hg3)
      | (with_reducible refine wpList_build_row (by with_unfolding_all rfl) 69 (by with_unfolding_all rfl) [.slice none 0 0, .int .u64 0] Try.built69 ?_)
      | ((with_reducible refine wpList_store_all (by with_unfolding_all rfl) 69 _ _ (by with_unfolding_all rfl) _ [.slice none 0 0, .int .u64 0] [.slice none 0 0, .int .u64 0] 69 (by with_unfolding_all rfl) (by with_unfolding_all rfl) HA3.out (by with_unfolding_all rfl) (by with_unfolding_all exact Try.size69) (ring_one _ _ _ _) ?_); intro w5 B5 g5 s5; have HA5 := hid B5; have HG5 := hid (HG3.out.andThen g5 (fun j hj => .inl (by injection hj with hj; have := HG1.out.size; omega))); clear B5 g5 s5))
    refine bodyPost_ret (v := .agg #[.slice none 0 0, .int .u64 0]) (results_blk rfl _ w1.heap.size 69 [.slice none 0 0, .int .u64 0] _ rfl HA5.out Try.underlying69 rfl (by with_unfolding_all exact Try.size69)) rfl ?_
    exact ⟨none, 0, rfl, OutK.nil _ _, HG5.out⟩
  | true =>
    have hp := goodL_pos (isRing_good HGd.out).1
    rw [HN.out] at hp
    rw [if_pos rfl] at HCk
    obtain ⟨rfl, -⟩ := Ha.out (by rw [HN.out]; omega)
    have he : prn l nx now = (l.filter (fun k => !goesP now k), nx) := by unfold prn; rw [HGd.out, if_pos rfl]
    rw [he]
    obtain ⟨RL, HRL⟩ : ∃ x, Hid (l.filter (fun k => !goesP now k) = x) := ⟨_, hid rfl⟩
    rw [HRL.out]
    obtain ⟨X, hX⟩ : ∃ x : Int, (nx : Int) = x := ⟨_, rfl⟩
    show Calls Try.prog 13 _ w fun e w' => ∃ a c, e = .returned (.agg #[.slice a RL.length c, .int .u64 (nx : Int)]) ∧ OutK w.heap.size w' (.slice a RL.length c) RL ∧ w.grownBy w' none
    rw [hX] at HCk ⊢
    have HTl : Hid (∀ k ∈ l, 0 ≤ k.til) := hid (fun k hk => ring_til HGd.out hk)
    have hn8 : n ≤ 8 := by omega
    clear he hX hp Ha
    go_enter Try.func13, Try.ntmps13
    go_upto_region 4 with (first
      | ((with_reducible refine wpList_box_row (by with_unfolding_all rfl) 69 _ (by with_unfolding_all rfl) [.slice (some ⟨b, off, none⟩) n c, .int .u64 X] (by with_unfolding_all rfl) ?_); intro w1 B1 s1 g1; have HB1 := hid B1; have HG1 := hid g1; clear B1 s1 g1)
      | ((with_reducible refine wpList_alloc_row (by with_unfolding_all rfl) 69 (by with_unfolding_all rfl) [.slice none 0 0, .int .u64 0] Try.zero69 ?_); intro w2 B2 s2 g2; have HA2 := hid B2; have HB2 := hid (HB1.out.keep g2); have HG2 := hid (gtrans HG1.out g2); clear B2 s2 g2)
      | (with_reducible refine wpList_load_part (by with_unfolding_all rfl) 69 _ (by with_unfolding_all rfl) w.heap.size 0 [.slice (some ⟨b, off, none⟩) n c, .int .u64 X] _ (by with_unfolding_all rfl) HB2.out.whole Try.underlying69 (by with_unfolding_all rfl) (by with_unfolding_all exact Try.size69) ?_)
      | (go_at_call 34; (with_reducible refine (HCk.out _ HG2.out).mono ?_); rintro e w3 ⟨rfl, hg3⟩; have HA3 := hid (HA2.out.keep hg3); have HB3 := hid (HB2.out.keep hg3); have HG3 := hid (gtrans HG2.out hg3); have y0 := HB3.out.cell 0; have y1 := HB3.out.cell 1; clear hg3)
      | (with_reducible refine wpList_build_ofW (by with_unfolding_all rfl) 69 _ (by with_unfolding_all rfl) [(1, .int .u64 X)] (by with_unfolding_all rfl) [.slice none 0 0, .int .u64 X] (built_next X) ?_)
      | (have := HA3; clear this; (with_reducible refine wpList_alloc_row (by with_unfolding_all rfl) 69 (by with_unfolding_all rfl) [.slice none 0 0, .int .u64 0] Try.zero69 ?_); intro w4 B4 s4 g4; have HX4 := hid B4; have HA4 := hid (HA3.out.keep g4); have HB4 := hid (HB3.out.keep g4); have HG4 := hid (gtrans HG3.out g4); clear B4 s4 g4)
      | ((with_reducible refine wpList_store_all (by with_unfolding_all rfl) 69 _ _ (by with_unfolding_all rfl) _ [.slice none 0 0, .int .u64 0] [.slice none 0 0, .int .u64 X] 69 (by with_unfolding_all rfl) (by with_unfolding_all rfl) HX4.out (by with_unfolding_all rfl) (by with_unfolding_all exact Try.size69) (ring_one _ _ _ _) ?_); intro w5 B5 g5 s5; have HX5 := hid B5; have HA5 := hid (HA4.out.on g5 (by have := HA3.out.lt; simp; omega)); have HB5 := hid (HB4.out.on g5 (by have := HB3.out.lt; simp; omega)); have HG5 := hid (HG4.out.andThen g5 (fun j hj => .inl (by injection hj with hj; have := HG3.out.size; omega))); clear B5 g5 s5))
    clear y0 y1
    obtain ⟨p2, hp2⟩ : ∃ x, w.heap.size = x := ⟨_, rfl⟩
    obtain ⟨p4, hp4⟩ : ∃ x, w1.heap.size = x := ⟨_, rfl⟩
    obtain ⟨p5, hp5⟩ : ∃ x, w3.heap.size = x := ⟨_, rfl⟩
    rw [hp2] at HB5
    rw [hp4] at HA5
    rw [hp5] at HX5
    simp only [hp2, hp4, hp5]
    have HPn : Hid (w.heap.size ≤ p2 ∧ w.heap.size ≤ p4 ∧ w.heap.size ≤ p5 ∧ p5 ≠ p2 ∧ p5 ≠ p4) := hid (by
      have h1 := HG1.out.size
      have h3 := HG3.out.size
      have h4 := HB3.out.lt
      have h6 := HA3.out.lt
      omega)
    have HS5 := HB5
    clear hp2 hp4 hp5 HB1 HB2 HB3 HB4 HB5 HA2 HA3 HA4 HX4 HG1 HG2 HG3 HG4
    have HOn : Hid (OutK w.heap.size w5 (.slice none 0 0) []) := hid (OutK.nil _ _)
    go_wp2_with fail
    go_loopw [6] (fun iv wr => ∃ (i : Nat) (acc : List Ky) (ax : Option Addr) (nn cx : Nat), iv = .int .i64 i ∧ i ≤ n ∧ Hid (acc.length ≤ i) ∧ Hid (acc.length = nn) ∧ Hid (RL = acc ++ (l.drop i).filter (fun k => !goesP now k)) ∧ Hid (Blk wr p5 [.slice ax nn cx, .int .u64 X] 69) ∧ Hid (Blk wr p2 [.slice (some ⟨b, off, none⟩) n c, .int .u64 X] 69) ∧ Hid (Blk wr p4 [.slice none 0 0, .int .u64 0] 69) ∧ Hid (OutK w.heap.size wr (.slice ax nn cx) acc) ∧ Hid (w.grownBy wr none)) (fun iv _ => n - (intOf iv).toNat)
    case atStart => exact ⟨0, [], none, 0, 0, rfl, Nat.zero_le _, hid (Nat.le_refl _), hid rfl, hid HRL.out.symm, HX5, HS5, HA5, HOn, HG5⟩
    case round =>
      clear HX5 HS5 HA5 HOn HG5
      obtain ⟨i, acc, ax, nn, cx, rfl, hi, HAl, HNn, HAc, HX, HS, HA, HO, HG⟩ := hrel
      have x0 := HS.out.cell 0
      by_cases hlt : i < n
      · have hlt' : (i : Int) < (n : Int) := by omega
        have hil : i < l.length := by rw [HN.out]; exact hlt
        have hok := HOk.out _ (List.getElem_mem hil)
        have htl := HTl.out _ (List.getElem_mem hil)
        have HRq := hid (fun u (hu : w.grownBy u none) => (Hc.out u hu i hil).1)
        have hac := HAc.out
        rw [List.drop_eq_getElem_cons hil, List.filter_cons] at hac
        obtain ⟨q, hq⟩ : ∃ q, l[i] = q := ⟨_, rfl⟩
        rw [hq] at hok htl HRq hac
        have hci := (Ky.at_ hok (HRq.out wr HG.out)).2
        have HQl : Hid (q.cells.length = 34) := hid (Ky.cells_length hok.2.1)
        have HQo := hid hok
        have HAc2 := hid hac
        obtain ⟨til, htil⟩ : ∃ x, q.til = x := ⟨_, rfl⟩
        have HTe := hid htil
        have HT0 := hid htl
        rw [htil] at hci
        clear hok htl hac hq htil hil HAc
        by_cases h0 : til = 0
        · as_aux_lemma =>
          subst h0
          have HAc : Hid (RL = acc ++ [q] ++ (l.drop (i + 1)).filter (fun k => !goesP now k)) := hid (by rw [HAc2.out, goes_keep (.inl HTe.out), if_pos rfl, List.append_assoc]; rfl)
          go_upto_region 8 with fail
          refine wp_region_listX (by kernel_rfl) [fun v _ => v = (Value.pointer (some ⟨p5, 0, none⟩)), fun v _ => v = (Value.slice ax nn cx), fun v _ => v = (Value.pointer (some ⟨p2, 0, none⟩)), fun v _ => v = (Value.slice (some ⟨b, off, none⟩) n c), fun v _ => v = (Value.int .i64 (i : Nat)), fun v _ => v = (Value.pointer (some ⟨b, off + i * 34, none⟩)), fun v _ => v = (Value.agg q.cells.toArray), fun v u => ∃ bb, v = Value.slice (some ⟨bb, 0, none⟩) 1 1 ∧ Blk u bb q.cells 107] (none) (fun _ => none) 8 (by kernel_rfl) (by kernel_rfl) (by kernel_rfl) (by kernel_rfl) (by decide) noRow_one (fun _ => .inl rfl) ⟨fun i v u u' hki h hg => h, fun i v u u' hki h hg => h, fun i v u u' hki h hg => h, fun i v u u' hki h hg => h, fun i v u u' hki h hg => h, fun i v u u' hki h hg => h, fun i v u u' hki h hg => h, fun i v u u' hki h hg => (by obtain ⟨bb, e, hb⟩ := h; exact ⟨bb, e, hb.keep hg⟩), trivial⟩ ⟨?_, ?_, ?_, ?_, ?_, ?_, ?_, ?_, trivial⟩ ?_
          · intro A u hu hpu hsz hout hdeps
            have e5 : A.eval (.tmp 5) = (.pointer (some ⟨p5, 0, none⟩)) := (hout 5 (by kernel_rfl)).trans rfl
            refine ifw_none rfl ?_
            with_reducible refine shown_q (Value.pointer (some ⟨p5, 0, none⟩)) ?qq_1x1_0 (fun _ _ => ?qr_1x1_0)
            case qr_1x1_0 => exact (rfl : (Value.pointer (some ⟨p5, 0, none⟩)) = (Value.pointer (some ⟨p5, 0, none⟩)))
            with_reducible refine quietAt_field 69 (.tmp 5) 0 ?h0_1x1_0 ⟨p5, 0, none⟩ ⟨p5, 0, none⟩ ?h1_1x1_0 ?h2_1x1_0
            case h0_1x1_0 => rfl
            case h1_1x1_0 => exact e5
            case h2_1x1_0 => kernel_rfl
          · intro A u hu hpu hsz hout hdeps
            have e38 : A.eval (.tmp 38) = (.pointer (some ⟨p5, 0, none⟩)) := by have h := depL hdeps 0 (by kernel_rfl) 38 (by kernel_rfl); exact h
            refine ifw_none rfl ?_
            with_reducible refine shown_q (Value.slice ax nn cx) ?qq_1x1_1 (fun _ _ => ?qr_1x1_1)
            case qr_1x1_1 => exact (rfl : (Value.slice ax nn cx) = (Value.slice ax nn cx))
            with_reducible refine quietAt_ld 55 (.tmp 38) (Value.pointer (some ⟨p5, 0, none⟩)) (Value.slice ax nn cx) ?h0_1x1_1 ?h1_1x1_1 ?h2_1x1_1
            case h0_1x1_1 => rfl
            case h1_1x1_1 => exact e38
            case h2_1x1_1 => exact ld55 p5 0 nn cx ax u ((HX.out.keep hu).cell 0)
          · intro A u hu hpu hsz hout hdeps
            have e2 : A.eval (.tmp 2) = (.pointer (some ⟨p2, 0, none⟩)) := (hout 2 (by kernel_rfl)).trans rfl
            refine ifw_none rfl ?_
            with_reducible refine shown_q (Value.pointer (some ⟨p2, 0, none⟩)) ?qq_1x1_2 (fun _ _ => ?qr_1x1_2)
            case qr_1x1_2 => exact (rfl : (Value.pointer (some ⟨p2, 0, none⟩)) = (Value.pointer (some ⟨p2, 0, none⟩)))
            with_reducible refine quietAt_field 69 (.tmp 2) 0 ?h0_1x1_2 ⟨p2, 0, none⟩ ⟨p2, 0, none⟩ ?h1_1x1_2 ?h2_1x1_2
            case h0_1x1_2 => rfl
            case h1_1x1_2 => exact e2
            case h2_1x1_2 => kernel_rfl
          · intro A u hu hpu hsz hout hdeps
            have e40 : A.eval (.tmp 40) = (.pointer (some ⟨p2, 0, none⟩)) := by have h := depL hdeps 2 (by kernel_rfl) 40 (by kernel_rfl); exact h
            refine ifw_none rfl ?_
            with_reducible refine shown_q (Value.slice (some ⟨b, off, none⟩) n c) ?qq_1x1_3 (fun _ _ => ?qr_1x1_3)
            case qr_1x1_3 => exact (rfl : (Value.slice (some ⟨b, off, none⟩) n c) = (Value.slice (some ⟨b, off, none⟩) n c))
            with_reducible refine quietAt_ld 55 (.tmp 40) (Value.pointer (some ⟨p2, 0, none⟩)) (Value.slice (some ⟨b, off, none⟩) n c) ?h0_1x1_3 ?h1_1x1_3 ?h2_1x1_3
            case h0_1x1_3 => rfl
            case h1_1x1_3 => exact e40
            case h2_1x1_3 => exact ld55 p2 0 n c (some ⟨b, off, none⟩) u ((HS.out.keep hu).cell 0)
          · intro A u hu hpu hsz hout hdeps
            have e6 : A.eval (.tmp 6) = (.int .i64 (i : Nat)) := (hout 6 (by kernel_rfl)).trans rfl
            refine ifw_none rfl ?_
            with_reducible refine shown_q (Value.int .i64 (i : Nat)) ?qq_1x1_4 (fun _ _ => ?qr_1x1_4)
            case qr_1x1_4 => exact (rfl : (Value.int .i64 (i : Nat)) = (Value.int .i64 (i : Nat)))
            with_reducible refine quietAt_mv (.tmp 6) (Value.int .i64 (i : Nat)) ?h0_1x1_4 ?h1_1x1_4
            case h0_1x1_4 => rfl
            case h1_1x1_4 => exact e6
          · intro A u hu hpu hsz hout hdeps
            have e41 : A.eval (.tmp 41) = (.slice (some ⟨b, off, none⟩) n c) := by have h := depL hdeps 3 (by kernel_rfl) 41 (by kernel_rfl); exact h
            have e42 : A.eval (.tmp 42) = (.int .i64 (i : Nat)) := by have h := depL hdeps 4 (by kernel_rfl) 42 (by kernel_rfl); exact h
            refine ifw_none rfl ?_
            with_reducible refine shown_q (Value.pointer (some ⟨b, off + i * 34, none⟩)) ?qq_1x1_5 (fun _ _ => ?qr_1x1_5)
            case qr_1x1_5 => exact (rfl : (Value.pointer (some ⟨b, off + i * 34, none⟩)) = (Value.pointer (some ⟨b, off + i * 34, none⟩)))
            with_reducible refine quietAt_idx 55 (.tmp 41) (.tmp 42) (Value.slice (some ⟨b, off, none⟩) n c) (Value.int .i64 (i : Nat)) (Value.pointer (some ⟨b, off + i * 34, none⟩)) ?h0_1x1_5 ?h1_1x1_5 ?h2_1x1_5 ?h3_1x1_5
            case h0_1x1_5 => rfl
            case h1_1x1_5 => exact e41
            case h2_1x1_5 => exact e42
            case h3_1x1_5 => exact idx55 b off n c i hlt u
          · intro A u hu hpu hsz hout hdeps
            have e43 : A.eval (.tmp 43) = (.pointer (some ⟨b, off + i * 34, none⟩)) := by have h := depL hdeps 5 (by kernel_rfl) 43 (by kernel_rfl); exact h
            refine ifw_none rfl ?_
            with_reducible refine shown_q (Value.agg q.cells.toArray) ?qq_1x1_6 (fun _ _ => ?qr_1x1_6)
            case qr_1x1_6 => exact (rfl : (Value.agg q.cells.toArray) = (Value.agg q.cells.toArray))
            with_reducible refine quietAt_load 107 (.tmp 43) ?h0_1x1_6 b (off + i * 34) q.cells (.struct (Try.prog.fieldsOf 107)) ?h1_1x1_6 ?h2_1x1_6 ?h3_1x1_6 ?h4_1x1_6 ?h5_1x1_6
            case h0_1x1_6 => rfl
            case h1_1x1_6 => exact e43
            case h2_1x1_6 => exact (HRq.out u (gtrans HG.out hu))
            case h3_1x1_6 => exact Try.under107
            case h4_1x1_6 => rfl
            case h5_1x1_6 => exact (by rw [HQl.out]; exact Try.size107)
          · intro A u hu hpu hsz hout hdeps
            have e44 : A.eval (.tmp 44) = (.agg q.cells.toArray) := by have h := depL hdeps 6 (by kernel_rfl) 44 (by kernel_rfl); exact h
            refine ifw_none rfl ?_
            exact shown_slice1 (.tmp 44) rfl q HQo.out.2.1 e44 (fun w' h _ => ⟨u.heap.size, rfl, h⟩)
          · intro A u8 listed hh hall
            have hA := hh.frame
            have HU := hid hh.grown
            obtain ⟨x38, hx38⟩ : ∃ x, A.eval (.tmp 38) = x := ⟨_, rfl⟩
            have f38 : (fun v _ => v = (Value.pointer (some ⟨p5, 0, none⟩))) x38 u8 := by rw [← hx38]; exact hh.got 0 _ 38 rfl rfl (hall 0 (by decide))
            obtain ⟨x39, hx39⟩ : ∃ x, A.eval (.tmp 39) = x := ⟨_, rfl⟩
            have f39 : (fun v _ => v = (Value.slice ax nn cx)) x39 u8 := by rw [← hx39]; exact hh.got 1 _ 39 rfl rfl (hall 1 (by decide))
            obtain ⟨x40, hx40⟩ : ∃ x, A.eval (.tmp 40) = x := ⟨_, rfl⟩
            have f40 : (fun v _ => v = (Value.pointer (some ⟨p2, 0, none⟩))) x40 u8 := by rw [← hx40]; exact hh.got 2 _ 40 rfl rfl (hall 2 (by decide))
            obtain ⟨x41, hx41⟩ : ∃ x, A.eval (.tmp 41) = x := ⟨_, rfl⟩
            have f41 : (fun v _ => v = (Value.slice (some ⟨b, off, none⟩) n c)) x41 u8 := by rw [← hx41]; exact hh.got 3 _ 41 rfl rfl (hall 3 (by decide))
            obtain ⟨x42, hx42⟩ : ∃ x, A.eval (.tmp 42) = x := ⟨_, rfl⟩
            have f42 : (fun v _ => v = (Value.int .i64 (i : Nat))) x42 u8 := by rw [← hx42]; exact hh.got 4 _ 42 rfl rfl (hall 4 (by decide))
            obtain ⟨x43, hx43⟩ : ∃ x, A.eval (.tmp 43) = x := ⟨_, rfl⟩
            have f43 : (fun v _ => v = (Value.pointer (some ⟨b, off + i * 34, none⟩))) x43 u8 := by rw [← hx43]; exact hh.got 5 _ 43 rfl rfl (hall 5 (by decide))
            obtain ⟨x44, hx44⟩ : ∃ x, A.eval (.tmp 44) = x := ⟨_, rfl⟩
            have f44 : (fun v _ => v = (Value.agg q.cells.toArray)) x44 u8 := by rw [← hx44]; exact hh.got 6 _ 44 rfl rfl (hall 6 (by decide))
            obtain ⟨x45, hx45⟩ : ∃ x, A.eval (.tmp 45) = x := ⟨_, rfl⟩
            have f45 : (fun v u => ∃ bb, v = Value.slice (some ⟨bb, 0, none⟩) 1 1 ∧ Blk u bb q.cells 107) x45 u8 := by rw [← hx45]; exact hh.got 7 _ 45 rfl rfl (hall 7 (by decide))
            obtain ⟨x46, hx46⟩ : ∃ x, A.eval (.tmp 46) = x := ⟨_, rfl⟩
            obtain ⟨x47, hx47⟩ : ∃ x, A.eval (.tmp 47) = x := ⟨_, rfl⟩
            dsimp only [wrote, List.foldl] at hA
            rw [hx38, hx39, hx40, hx41, hx42, hx43, hx44, hx45, hx46, hx47] at hA
            clear hh hall hx38 hx39 hx40 hx41 hx42 hx43 hx44 hx45 hx46 hx47
            replace f38 := (f38 : x38 = (.pointer (some ⟨p5, 0, none⟩)))
            subst f38
            replace f39 := (f39 : x39 = (.slice ax nn cx))
            subst f39
            replace f40 := (f40 : x40 = (.pointer (some ⟨p2, 0, none⟩)))
            subst f40
            replace f41 := (f41 : x41 = (.slice (some ⟨b, off, none⟩) n c))
            subst f41
            replace f42 := (f42 : x42 = (.int .i64 (i : Nat)))
            subst f42
            replace f43 := (f43 : x43 = (.pointer (some ⟨b, off + i * 34, none⟩)))
            subst f43
            replace f44 := (f44 : x44 = (.agg q.cells.toArray))
            subst f44
            obtain ⟨b9, e45, hb9⟩ := f45
            subst e45
            subst hA
            show wpList _ _ _ [_, _, _] _ _
            simp only [Act.put, List.setIfInBounds_toArray, List.set_cons_succ, List.set_cons_zero]
            go_upto_region 6 with (first
              | (at_builtin; refine wpList_append_keys rfl _ _ rfl w.heap.size (fun _ => True) acc [q] (HO.out.keep HU.out) (one_rd HQo.out hb9 _ trivial) (by have := HAl.out; show acc.length + 1 ≤ _; omega) (gtrans HG.out HU.out).size ?_; intro v10 w10 hO10 hg10; have HG10 := hid hg10; obtain ⟨a10, c10, hv10⟩ := hO10.slice; rw [len_snoc, HNn.out] at hv10; subst hv10; have HO10 := hid hO10; have HX10 := hid ((HX.out.keep HU.out).on hg10 (fun e => by obtain ⟨cs6, hk6, _⟩ := (HO.out.keep HU.out).blkB e; exact hk6.neT (HX.out.keep HU.out) (by decide) rfl)); have HS10 := hid ((HS.out.keep HU.out).on hg10 (fun e => by obtain ⟨cs6, hk6, _⟩ := (HO.out.keep HU.out).blkB e; exact hk6.neT (HS.out.keep HU.out) (by decide) rfl)); have HA10 := hid ((HA.out.keep HU.out).on hg10 (fun e => by obtain ⟨cs6, hk6, _⟩ := (HO.out.keep HU.out).blkB e; exact hk6.neT (HA.out.keep HU.out) (by decide) rfl)); have HGw := hid ((gtrans HG.out HU.out).andThen hg10 (fun j hj => .inl (by obtain ⟨cs6, _, hC6⟩ := (HO.out.keep HU.out).blkB hj; omega))); have q0 := HX10.out.cell 0; have qz := HX10.out.frozen 0; clear hO10 hg10))
            obtain ⟨w11, hw11⟩ : ∃ x, w10.setCell ⟨p5, 0, none⟩ (.slice a10 (nn + 1) c10) = x := ⟨_, rfl⟩
            rw [hw11]
            have HX11 : Hid (Blk w11 p5 [.slice a10 (nn + 1) c10, .int .u64 X] 69) := hid (by rw [← hw11]; exact HX10.out.set 0 _)
            have HG11 : Hid (w10.grownBy w11 (some p5)) := hid (by rw [← hw11]; exact gset _ _ _)
            have HO11 := hid (HO10.out.offB HG11.out HX10.out (by decide))
            have HS11 := hid (HS10.out.on HG11.out (by have := HPn.out; simp; omega))
            have HA11 := hid (HA10.out.on HG11.out (by have := HPn.out; simp; omega))
            have HGw11 := hid (HGw.out.andThen HG11.out (fun j hj => .inl (by injection hj with hj; have := HPn.out; omega)))
            clear hw11 q0 qz
            go_wp2_with fail
            go_roundw
            case rel => exact ⟨i + 1, acc ++ [q], a10, nn + 1, c10, by go_num, by omega, hid (by have := HAl.out; rw [len_snoc]; omega), hid (by rw [len_snoc, HNn.out]), HAc, HX11, HS11, HA11, HO11, HGw11⟩
            case measure => simp [intOf]; omega
        · have h0' : (til == 0) = false := beq_eq_false_iff_ne.2 h0
          by_cases h1 : now < til
          · as_aux_lemma =>
            have HAc : Hid (RL = acc ++ [q] ++ (l.drop (i + 1)).filter (fun k => !goesP now k)) := hid (by rw [HAc2.out, goes_keep (.inr (by rw [HTe.out]; exact h1)), if_pos rfl, List.append_assoc]; rfl)
            go_upto_region 8 with fail
            refine wp_region_listX (by kernel_rfl) [fun v _ => v = (Value.pointer (some ⟨p5, 0, none⟩)), fun v _ => v = (Value.slice ax nn cx), fun v _ => v = (Value.pointer (some ⟨p2, 0, none⟩)), fun v _ => v = (Value.slice (some ⟨b, off, none⟩) n c), fun v _ => v = (Value.int .i64 (i : Nat)), fun v _ => v = (Value.pointer (some ⟨b, off + i * 34, none⟩)), fun v _ => v = (Value.agg q.cells.toArray), fun v u => ∃ bb, v = Value.slice (some ⟨bb, 0, none⟩) 1 1 ∧ Blk u bb q.cells 107] (none) (fun _ => none) 8 (by kernel_rfl) (by kernel_rfl) (by kernel_rfl) (by kernel_rfl) (by decide) noRow_one (fun _ => .inl rfl) ⟨fun i v u u' hki h hg => h, fun i v u u' hki h hg => h, fun i v u u' hki h hg => h, fun i v u u' hki h hg => h, fun i v u u' hki h hg => h, fun i v u u' hki h hg => h, fun i v u u' hki h hg => h, fun i v u u' hki h hg => (by obtain ⟨bb, e, hb⟩ := h; exact ⟨bb, e, hb.keep hg⟩), trivial⟩ ⟨?_, ?_, ?_, ?_, ?_, ?_, ?_, ?_, trivial⟩ ?_
            · intro A u hu hpu hsz hout hdeps
              have e5 : A.eval (.tmp 5) = (.pointer (some ⟨p5, 0, none⟩)) := (hout 5 (by kernel_rfl)).trans rfl
              refine ifw_none rfl ?_
              with_reducible refine shown_q (Value.pointer (some ⟨p5, 0, none⟩)) ?qq_2x2_0 (fun _ _ => ?qr_2x2_0)
              case qr_2x2_0 => exact (rfl : (Value.pointer (some ⟨p5, 0, none⟩)) = (Value.pointer (some ⟨p5, 0, none⟩)))
              with_reducible refine quietAt_field 69 (.tmp 5) 0 ?h0_2x2_0 ⟨p5, 0, none⟩ ⟨p5, 0, none⟩ ?h1_2x2_0 ?h2_2x2_0
              case h0_2x2_0 => rfl
              case h1_2x2_0 => exact e5
              case h2_2x2_0 => kernel_rfl
            · intro A u hu hpu hsz hout hdeps
              have e38 : A.eval (.tmp 38) = (.pointer (some ⟨p5, 0, none⟩)) := by have h := depL hdeps 0 (by kernel_rfl) 38 (by kernel_rfl); exact h
              refine ifw_none rfl ?_
              with_reducible refine shown_q (Value.slice ax nn cx) ?qq_2x2_1 (fun _ _ => ?qr_2x2_1)
              case qr_2x2_1 => exact (rfl : (Value.slice ax nn cx) = (Value.slice ax nn cx))
              with_reducible refine quietAt_ld 55 (.tmp 38) (Value.pointer (some ⟨p5, 0, none⟩)) (Value.slice ax nn cx) ?h0_2x2_1 ?h1_2x2_1 ?h2_2x2_1
              case h0_2x2_1 => rfl
              case h1_2x2_1 => exact e38
              case h2_2x2_1 => exact ld55 p5 0 nn cx ax u ((HX.out.keep hu).cell 0)
            · intro A u hu hpu hsz hout hdeps
              have e2 : A.eval (.tmp 2) = (.pointer (some ⟨p2, 0, none⟩)) := (hout 2 (by kernel_rfl)).trans rfl
              refine ifw_none rfl ?_
              with_reducible refine shown_q (Value.pointer (some ⟨p2, 0, none⟩)) ?qq_2x2_2 (fun _ _ => ?qr_2x2_2)
              case qr_2x2_2 => exact (rfl : (Value.pointer (some ⟨p2, 0, none⟩)) = (Value.pointer (some ⟨p2, 0, none⟩)))
              with_reducible refine quietAt_field 69 (.tmp 2) 0 ?h0_2x2_2 ⟨p2, 0, none⟩ ⟨p2, 0, none⟩ ?h1_2x2_2 ?h2_2x2_2
              case h0_2x2_2 => rfl
              case h1_2x2_2 => exact e2
              case h2_2x2_2 => kernel_rfl
            · intro A u hu hpu hsz hout hdeps
              have e40 : A.eval (.tmp 40) = (.pointer (some ⟨p2, 0, none⟩)) := by have h := depL hdeps 2 (by kernel_rfl) 40 (by kernel_rfl); exact h
              refine ifw_none rfl ?_
              with_reducible refine shown_q (Value.slice (some ⟨b, off, none⟩) n c) ?qq_2x2_3 (fun _ _ => ?qr_2x2_3)
              case qr_2x2_3 => exact (rfl : (Value.slice (some ⟨b, off, none⟩) n c) = (Value.slice (some ⟨b, off, none⟩) n c))
              with_reducible refine quietAt_ld 55 (.tmp 40) (Value.pointer (some ⟨p2, 0, none⟩)) (Value.slice (some ⟨b, off, none⟩) n c) ?h0_2x2_3 ?h1_2x2_3 ?h2_2x2_3
              case h0_2x2_3 => rfl
              case h1_2x2_3 => exact e40
              case h2_2x2_3 => exact ld55 p2 0 n c (some ⟨b, off, none⟩) u ((HS.out.keep hu).cell 0)
            · intro A u hu hpu hsz hout hdeps
              have e6 : A.eval (.tmp 6) = (.int .i64 (i : Nat)) := (hout 6 (by kernel_rfl)).trans rfl
              refine ifw_none rfl ?_
              with_reducible refine shown_q (Value.int .i64 (i : Nat)) ?qq_2x2_4 (fun _ _ => ?qr_2x2_4)
              case qr_2x2_4 => exact (rfl : (Value.int .i64 (i : Nat)) = (Value.int .i64 (i : Nat)))
              with_reducible refine quietAt_mv (.tmp 6) (Value.int .i64 (i : Nat)) ?h0_2x2_4 ?h1_2x2_4
              case h0_2x2_4 => rfl
              case h1_2x2_4 => exact e6
            · intro A u hu hpu hsz hout hdeps
              have e41 : A.eval (.tmp 41) = (.slice (some ⟨b, off, none⟩) n c) := by have h := depL hdeps 3 (by kernel_rfl) 41 (by kernel_rfl); exact h
              have e42 : A.eval (.tmp 42) = (.int .i64 (i : Nat)) := by have h := depL hdeps 4 (by kernel_rfl) 42 (by kernel_rfl); exact h
              refine ifw_none rfl ?_
              with_reducible refine shown_q (Value.pointer (some ⟨b, off + i * 34, none⟩)) ?qq_2x2_5 (fun _ _ => ?qr_2x2_5)
              case qr_2x2_5 => exact (rfl : (Value.pointer (some ⟨b, off + i * 34, none⟩)) = (Value.pointer (some ⟨b, off + i * 34, none⟩)))
              with_reducible refine quietAt_idx 55 (.tmp 41) (.tmp 42) (Value.slice (some ⟨b, off, none⟩) n c) (Value.int .i64 (i : Nat)) (Value.pointer (some ⟨b, off + i * 34, none⟩)) ?h0_2x2_5 ?h1_2x2_5 ?h2_2x2_5 ?h3_2x2_5
              case h0_2x2_5 => rfl
              case h1_2x2_5 => exact e41
              case h2_2x2_5 => exact e42
              case h3_2x2_5 => exact idx55 b off n c i hlt u
            · intro A u hu hpu hsz hout hdeps
              have e43 : A.eval (.tmp 43) = (.pointer (some ⟨b, off + i * 34, none⟩)) := by have h := depL hdeps 5 (by kernel_rfl) 43 (by kernel_rfl); exact h
              refine ifw_none rfl ?_
              with_reducible refine shown_q (Value.agg q.cells.toArray) ?qq_2x2_6 (fun _ _ => ?qr_2x2_6)
              case qr_2x2_6 => exact (rfl : (Value.agg q.cells.toArray) = (Value.agg q.cells.toArray))
              with_reducible refine quietAt_load 107 (.tmp 43) ?h0_2x2_6 b (off + i * 34) q.cells (.struct (Try.prog.fieldsOf 107)) ?h1_2x2_6 ?h2_2x2_6 ?h3_2x2_6 ?h4_2x2_6 ?h5_2x2_6
              case h0_2x2_6 => rfl
              case h1_2x2_6 => exact e43
              case h2_2x2_6 => exact (HRq.out u (gtrans HG.out hu))
              case h3_2x2_6 => exact Try.under107
              case h4_2x2_6 => rfl
              case h5_2x2_6 => exact (by rw [HQl.out]; exact Try.size107)
            · intro A u hu hpu hsz hout hdeps
              have e44 : A.eval (.tmp 44) = (.agg q.cells.toArray) := by have h := depL hdeps 6 (by kernel_rfl) 44 (by kernel_rfl); exact h
              refine ifw_none rfl ?_
              exact shown_slice1 (.tmp 44) rfl q HQo.out.2.1 e44 (fun w' h _ => ⟨u.heap.size, rfl, h⟩)
            · intro A u8 listed hh hall
              have hA := hh.frame
              have HU := hid hh.grown
              obtain ⟨x38, hx38⟩ : ∃ x, A.eval (.tmp 38) = x := ⟨_, rfl⟩
              have f38 : (fun v _ => v = (Value.pointer (some ⟨p5, 0, none⟩))) x38 u8 := by rw [← hx38]; exact hh.got 0 _ 38 rfl rfl (hall 0 (by decide))
              obtain ⟨x39, hx39⟩ : ∃ x, A.eval (.tmp 39) = x := ⟨_, rfl⟩
              have f39 : (fun v _ => v = (Value.slice ax nn cx)) x39 u8 := by rw [← hx39]; exact hh.got 1 _ 39 rfl rfl (hall 1 (by decide))
              obtain ⟨x40, hx40⟩ : ∃ x, A.eval (.tmp 40) = x := ⟨_, rfl⟩
              have f40 : (fun v _ => v = (Value.pointer (some ⟨p2, 0, none⟩))) x40 u8 := by rw [← hx40]; exact hh.got 2 _ 40 rfl rfl (hall 2 (by decide))
              obtain ⟨x41, hx41⟩ : ∃ x, A.eval (.tmp 41) = x := ⟨_, rfl⟩
              have f41 : (fun v _ => v = (Value.slice (some ⟨b, off, none⟩) n c)) x41 u8 := by rw [← hx41]; exact hh.got 3 _ 41 rfl rfl (hall 3 (by decide))
              obtain ⟨x42, hx42⟩ : ∃ x, A.eval (.tmp 42) = x := ⟨_, rfl⟩
              have f42 : (fun v _ => v = (Value.int .i64 (i : Nat))) x42 u8 := by rw [← hx42]; exact hh.got 4 _ 42 rfl rfl (hall 4 (by decide))
              obtain ⟨x43, hx43⟩ : ∃ x, A.eval (.tmp 43) = x := ⟨_, rfl⟩
              have f43 : (fun v _ => v = (Value.pointer (some ⟨b, off + i * 34, none⟩))) x43 u8 := by rw [← hx43]; exact hh.got 5 _ 43 rfl rfl (hall 5 (by decide))
              obtain ⟨x44, hx44⟩ : ∃ x, A.eval (.tmp 44) = x := ⟨_, rfl⟩
              have f44 : (fun v _ => v = (Value.agg q.cells.toArray)) x44 u8 := by rw [← hx44]; exact hh.got 6 _ 44 rfl rfl (hall 6 (by decide))
              obtain ⟨x45, hx45⟩ : ∃ x, A.eval (.tmp 45) = x := ⟨_, rfl⟩
              have f45 : (fun v u => ∃ bb, v = Value.slice (some ⟨bb, 0, none⟩) 1 1 ∧ Blk u bb q.cells 107) x45 u8 := by rw [← hx45]; exact hh.got 7 _ 45 rfl rfl (hall 7 (by decide))
              obtain ⟨x46, hx46⟩ : ∃ x, A.eval (.tmp 46) = x := ⟨_, rfl⟩
              obtain ⟨x47, hx47⟩ : ∃ x, A.eval (.tmp 47) = x := ⟨_, rfl⟩
              dsimp only [wrote, List.foldl] at hA
              rw [hx38, hx39, hx40, hx41, hx42, hx43, hx44, hx45, hx46, hx47] at hA
              clear hh hall hx38 hx39 hx40 hx41 hx42 hx43 hx44 hx45 hx46 hx47
              replace f38 := (f38 : x38 = (.pointer (some ⟨p5, 0, none⟩)))
              subst f38
              replace f39 := (f39 : x39 = (.slice ax nn cx))
              subst f39
              replace f40 := (f40 : x40 = (.pointer (some ⟨p2, 0, none⟩)))
              subst f40
              replace f41 := (f41 : x41 = (.slice (some ⟨b, off, none⟩) n c))
              subst f41
              replace f42 := (f42 : x42 = (.int .i64 (i : Nat)))
              subst f42
              replace f43 := (f43 : x43 = (.pointer (some ⟨b, off + i * 34, none⟩)))
              subst f43
              replace f44 := (f44 : x44 = (.agg q.cells.toArray))
              subst f44
              obtain ⟨b9, e45, hb9⟩ := f45
              subst e45
              subst hA
              show wpList _ _ _ [_, _, _] _ _
              simp only [Act.put, List.setIfInBounds_toArray, List.set_cons_succ, List.set_cons_zero]
              go_upto_region 6 with (first
                | (at_builtin; refine wpList_append_keys rfl _ _ rfl w.heap.size (fun _ => True) acc [q] (HO.out.keep HU.out) (one_rd HQo.out hb9 _ trivial) (by have := HAl.out; show acc.length + 1 ≤ _; omega) (gtrans HG.out HU.out).size ?_; intro v10 w10 hO10 hg10; have HG10 := hid hg10; obtain ⟨a10, c10, hv10⟩ := hO10.slice; rw [len_snoc, HNn.out] at hv10; subst hv10; have HO10 := hid hO10; have HX10 := hid ((HX.out.keep HU.out).on hg10 (fun e => by obtain ⟨cs6, hk6, _⟩ := (HO.out.keep HU.out).blkB e; exact hk6.neT (HX.out.keep HU.out) (by decide) rfl)); have HS10 := hid ((HS.out.keep HU.out).on hg10 (fun e => by obtain ⟨cs6, hk6, _⟩ := (HO.out.keep HU.out).blkB e; exact hk6.neT (HS.out.keep HU.out) (by decide) rfl)); have HA10 := hid ((HA.out.keep HU.out).on hg10 (fun e => by obtain ⟨cs6, hk6, _⟩ := (HO.out.keep HU.out).blkB e; exact hk6.neT (HA.out.keep HU.out) (by decide) rfl)); have HGw := hid ((gtrans HG.out HU.out).andThen hg10 (fun j hj => .inl (by obtain ⟨cs6, _, hC6⟩ := (HO.out.keep HU.out).blkB hj; omega))); have q0 := HX10.out.cell 0; have qz := HX10.out.frozen 0; clear hO10 hg10))
              obtain ⟨w11, hw11⟩ : ∃ x, w10.setCell ⟨p5, 0, none⟩ (.slice a10 (nn + 1) c10) = x := ⟨_, rfl⟩
              rw [hw11]
              have HX11 : Hid (Blk w11 p5 [.slice a10 (nn + 1) c10, .int .u64 X] 69) := hid (by rw [← hw11]; exact HX10.out.set 0 _)
              have HG11 : Hid (w10.grownBy w11 (some p5)) := hid (by rw [← hw11]; exact gset _ _ _)
              have HO11 := hid (HO10.out.offB HG11.out HX10.out (by decide))
              have HS11 := hid (HS10.out.on HG11.out (by have := HPn.out; simp; omega))
              have HA11 := hid (HA10.out.on HG11.out (by have := HPn.out; simp; omega))
              have HGw11 := hid (HGw.out.andThen HG11.out (fun j hj => .inl (by injection hj with hj; have := HPn.out; omega)))
              clear hw11 q0 qz
              go_wp2_with fail
              go_roundw
              case rel => exact ⟨i + 1, acc ++ [q], a10, nn + 1, c10, by go_num, by omega, hid (by have := HAl.out; rw [len_snoc]; omega), hid (by rw [len_snoc, HNn.out]), HAc, HX11, HS11, HA11, HO11, HGw11⟩
              case measure => simp [intOf]; omega
          · as_aux_lemma =>
            have HAc : Hid (RL = acc ++ (l.drop (i + 1)).filter (fun k => !goesP now k)) := hid (by rw [HAc2.out, goes_drop HT0.out (by rw [HTe.out]; exact ⟨h0, h1⟩), if_neg (by decide)])
            go_wp2_with fail
            go_roundw
            case rel => exact ⟨i + 1, acc, ax, nn, cx, by go_num, by omega, hid (by have := HAl.out; omega), HNn, HAc, HX, HS, HA, HO, HG⟩
            case measure => simp [intOf]; omega
      · as_aux_lemma =>
        have hlt' : ¬ (i : Int) < (n : Int) := by omega
        have hRL : RL = acc := by rw [HAc.out, List.drop_of_length_le (by rw [HN.out]; omega)]; simp
        go_wp2_with (first
          | (with_reducible refine wpList_load_part (by with_unfolding_all rfl) 69 _ (by with_unfolding_all rfl) p5 0 [.slice ax nn cx, .int .u64 X] _ (by with_unfolding_all rfl) HX.out.whole Try.underlying69 (by with_unfolding_all rfl) (by with_unfolding_all exact Try.size69) ?_)
          | ((with_reducible refine wpList_store_all (by with_unfolding_all rfl) 69 _ _ (by with_unfolding_all rfl) p4 [.slice none 0 0, .int .u64 0] [.slice ax nn cx, .int .u64 X] 69 (by with_unfolding_all rfl) (by with_unfolding_all rfl) HA.out (by with_unfolding_all rfl) (by with_unfolding_all exact Try.size69) (ring_one _ _ _ _) ?_); intro w13 B13 g13 s13; have HA13 := hid B13; have HO13 := hid (HO.out.offB g13 HA.out (by decide)); have HG13 := hid (HG.out.andThen g13 (fun j hj => .inl (by injection hj with hj; have := HPn.out; omega))); clear B13 g13 s13))
        refine bodyPost_ret (v := .agg #[.slice ax nn cx, .int .u64 X]) (results_blk rfl _ p4 69 [.slice ax nn cx, .int .u64 X] _ rfl HA13.out Try.underlying69 rfl (by with_unfolding_all exact Try.size69)) rfl ?_
        subst hRL
        exact ⟨ax, cx, by rw [HNn.out], by rw [HNn.out]; exact HO13.out, HG13.out⟩
end Go.Proofs.Ytmpcpakdocaieaa
