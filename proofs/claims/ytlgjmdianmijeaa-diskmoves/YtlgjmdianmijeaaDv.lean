/- DiskMoves' walk. -/
import Derived.Test.YtlgjmdianmijeaaDvA
namespace Go.Proofs.Ytlgjmdianmijeaa
open Go Go.RowKit Go.MapKept Go.MuLone
open Go.RowKit (wrap32 wrap64)

set_option maxRecDepth 100000 in
set_option maxHeartbeats 16000000 in
theorem moves_walk (w : World) (F : Nat → Prop) (a : Option Addr) (g off n c : Nat) (r0 r1 : Int) (T : Nat → Opv) (hA : ArO w F a g off n T) (hn : n ≤ 140737488355328) :
    Calls Try.prog 6 #[.agg [Value.int .i64 r0, .int .i64 r1, .slice a n c].toArray] w fun e w' => e = .returned (.bool true) ∧ w.grownBy w' none := by
  have HA : Hid (∀ u, w.grownBy u none → ArO u F a g off n T) := hid (fun u hu => hA.keep hu)
  have HNw : Hid (∀ u : World, Calls Try.prog 8 #[.int .i64 1048576] u fun e w' => ∃ b, e = .returned (.tuple #[.pointer (some ⟨b, 0, none⟩), .int .i64 0]) ∧ DkP w' u.heap.size b (Ab.new 1048576) (fun k => u.heap.size ≤ k ∧ k < w'.heap.size) ∧ u.grownBy w' none) := hid (fun u => new_ok u 1048576 (by decide) (by decide))
  have HNu : Hid (∀ (E : Int) (u : World), Calls Try.prog 9 #[.int .i64 E] u fun e w' => e = .returned (.int .i64 E) ∧ w' = u) := hid num_any
  have HWk := hid works_any
  clear hA
  go_enter Try.func6, Try.ntmps6
  go_upto_region 6 with (first
    | ((with_reducible refine wpList_box_row (by with_unfolding_all rfl) 48 _ (by with_unfolding_all rfl) [Value.int .i64 r0, .int .i64 r1, .slice a n c] (by with_unfolding_all rfl) ?_); intro w1 B1 s1 g1; have HB1 := hid B1; have HG1 := hid g1; clear B1 s1 g1)
    | (go_at_call 8; refine (HNw.out _).mono ?_; rintro e w2 ⟨b, rfl, hd, hg⟩; have HD2 := hid hd; have HG2 := hid hg; clear hd hg)
    | (go_at_call 9; refine (HNu.out _ _).mono ?_; rintro e w3 ⟨rfl, rfl⟩)
    | (go_at_call 10; refine (HWk.out _).mono ?_; rintro e wW ⟨rfl, hg⟩; have HG4 := hid hg; clear hg))
  have HW0 : Hid (Wd w1 wW b (Ab.new 1048576)) := hid (Wd.keep ⟨HD2.out, HG2.out⟩ HG4.out)
  have HG1' := hid HG1.out
  obtain ⟨p1, hp1⟩ : ∃ x, w.heap.size = x := ⟨_, rfl⟩
  rw [hp1] at HB1 ⊢
  clear hp1 HD2 HG2 HG4 HNw HWk
  go_loopw [6, 5] (fun iv sv wr => ∃ (i z : Nat) (A : Ab), iv = .int .i64 i ∧ sv = .int .i64 z ∧ i ≤ n ∧ i ≤ 400 ∧ z ≤ 262144 ∧ Hid (Wd w1 wr b A ∧ A.calm ∧ A.wr ≤ i)) (fun iv _ _ => n - (intOf iv).toNat)
  case atStart => exact ⟨0, 0, _, rfl, rfl, by omega, by omega, by omega, hid ⟨HW0.out, ⟨rfl, rfl⟩, by show (0 : Int) ≤ _; omega⟩⟩
  case round =>
    obtain ⟨i, z, A, rfl, rfl, hi, hi4, hz, HS⟩ := hrel
    obtain ⟨w0, hw0⟩ : ∃ x : World, x = wr := ⟨_, rfl⟩
    rw [← hw0] at HS ⊢
    clear hw0 HW0
    have HG0 := hid HS.out.1.2
    have k2 : w0.cell? ⟨p1, 2, none⟩ = some (.slice a n c) := (HB1.out.keep HG0.out).cell 2
    by_cases hlt : i < n
    · have hlt' : (i : Int) < (n : Int) := by omega
      by_cases h4 : i < 400
      · as_aux_lemma =>
        have h4' : (i : Int) < 400 := by omega
        obtain ⟨rfl, hgl, -⟩ := (HA.out w0 (gtrans HG1.out HG0.out)).at_ (by omega)
        obtain ⟨o, Ho⟩ : ∃ o, Hid (T i = o) := ⟨_, hid rfl⟩
        have HE : Hid (w0.rangeAt g (off + i * 8) o.cells ∧ o.In w0 F) := hid (by have := (HA.out w0 (gtrans HG1.out HG0.out)).each i hlt; rw [Ho.out] at this; exact this)
        have HOL : Hid (o.cells.length = 8) := hid rfl
        clear Ho
        go_upto_region 9 with (first
          | (with_reducible refine wpList_load_part (by with_unfolding_all rfl) 36 _ (by with_unfolding_all rfl) g (off + i * 8) o.cells _ (by with_unfolding_all rfl) HE.out.1 Try.underlying36 (by with_unfolding_all rfl) (by with_unfolding_all exact Try.size36) ?_)
          | ((with_reducible refine wpList_store_all (by with_unfolding_all rfl) 36 _ _ (by with_unfolding_all rfl) _ [.int .i64 0, .int .i64 0, .string ⟨#[]⟩, .string ⟨#[]⟩, .slice none 0 0, .int .i64 0, .int .i64 0, .slice none 0 0] o.cells 36 (by with_unfolding_all rfl) (by with_unfolding_all rfl) HB2.out (by with_unfolding_all rfl) (by with_unfolding_all exact Try.size36) o.one ?_); intro w3 BB hg ss; have HB3' := hid BB; have HU3 := hid (HU2.out.andThen hg (fun j hj => .inl (by injection hj with hj; omega))); clear BB hg ss)
          | ((with_reducible refine wpList_alloc_row (by with_unfolding_all rfl) 36 (by with_unfolding_all rfl) [.int .i64 0, .int .i64 0, .string ⟨#[]⟩, .string ⟨#[]⟩, .slice none 0 0, .int .i64 0, .int .i64 0, .slice none 0 0] Try.zero36 ?_); intro w2 BB ss hg; have HB2 := hid BB; have HU2 := hid hg; clear BB ss hg))
        obtain ⟨p7, hp7⟩ : ∃ x, w0.heap.size = x := ⟨_, rfl⟩
        rw [hp7] at HB3' ⊢
        have HP7 : Hid (w0.heap.size = p7) := hid hp7
        clear hp7 HB2 HU2
        have HSz : Hid (Calls Try.prog 12 #[.agg o.cells.toArray] w3 fun e w' => (∃ z : Nat, e = .returned (.int .i64 z) ∧ o.bs.length ≤ z ∧ z ≤ 281474976710656) ∧ w3.grownBy w' none) := hid (opSize_any w3 o F (HE.out.2.keep HU3.out))
        go_upto_region 10 with (first
          | (with_reducible refine wpList_load_part (by with_unfolding_all rfl) 36 _ (by with_unfolding_all rfl) p7 0 o.cells _ (by with_unfolding_all rfl) HB3'.out.whole Try.underlying36 (by with_unfolding_all rfl) (by with_unfolding_all exact Try.size36) ?_)
          | (go_at_call 12; refine HSz.out.mono ?_; rintro e u3 ⟨⟨zz, rfl, hzb, hzl⟩, hg⟩; have HZb := hid hzb; have HU4 := hid hg; clear hg hzb))
        obtain ⟨y, hy⟩ : ∃ y : Nat, z + zz = y := ⟨_, rfl⟩
        have hwr : (z : Int) + (zz : Int) = (y : Int) := by omega
        have HLb : Hid (o.bs.length ≤ y) := hid (by have := HZb.out; omega)
        have hyl : y ≤ 562949953421312 := by omega
        rw [hwr]
        clear hwr hy HZb hzl
        by_cases hbr : 262144 < y
        · have hbr' : (262144 : Int) < (y : Int) := by omega
          go_wp2_with fail
          go_ret
          exact ⟨rfl, gtrans HG1.out (gtrans HG0.out (gtrans HU3.out HU4.out))⟩
        have hbr' : ¬ (262144 : Int) < (y : Int) := by omega
        have HT3 := hid (gtrans HU3.out HU4.out)
        have HDu := hid (HS.out.1.1.keep HT3.out)
        have HFl1 := hid (files_p HDu.out)
        obtain ⟨L, HL⟩ : ∃ x, Hid (srtC A.C = x) := ⟨_, hid rfl⟩
        rw [HL.out] at HFl1
        obtain ⟨sn, HSn⟩ : ∃ x, Hid (L.length = x) := ⟨_, hid rfl⟩
        rw [HSn.out] at HFl1
        go_upto_region 12 with (go_at_call 13; refine HFl1.out.mono ?_; rintro e u4 ⟨⟨sa, sg, sc, rfl, hsA⟩, hg⟩; have HWs := hid hsA; have HU5 := hid hg; clear hsA hg)
        have HDo := hid (do_any (HDu.out.keep HU5.out) (fun k hk => by have := HT3.out.size; have := HU5.out.size; omega) o F (HE.out.2.keep (gtrans HT3.out HU5.out)) (by have := HLb.out; omega) (by have := HS.out.2.2; omega))
        obtain ⟨E, HEE⟩ : ∃ x, Hid (A.doE o = x) := ⟨_, hid rfl⟩
        obtain ⟨A', HA'⟩ : ∃ x, Hid (A.doA o = x) := ⟨_, hid rfl⟩
        obtain ⟨D, hD⟩ : ∃ x, o.isDo = x := ⟨_, rfl⟩
        rw [HEE.out, HA'.out, hD] at HDo
        have HB5 := hid ((HB3'.out.keep HU4.out).keep HU5.out)
        go_upto_region 13 with (first
          | (with_reducible refine wpList_load_part (by with_unfolding_all rfl) 36 _ (by with_unfolding_all rfl) p7 0 o.cells _ (by with_unfolding_all rfl) HB5.out.whole Try.underlying36 (by with_unfolding_all rfl) (by with_unfolding_all exact Try.size36) ?_)
          | (go_at_call 15; refine HDo.out.mono ?_; rintro e w4 ⟨rfl, hd, hf⟩; have HD4 := hid hd; have HF4 := hid hf; clear hd hf))
        have HB4 := hid (Blk.df HB5.out HF4.out (fun q => by have := HP7.out; have := q.2; omega))
        have HWs4 : Hid (ArF w4 (fun k => u3.heap.size ≤ k) sa sg 0 L) := hid ((HWs.out.df HF4.out (fun k hk hp => by have := HT3.out.size; have := hk.1; have := hp.2; omega)).mono (fun k hk => hk.1))
        have HW4 : Hid (Wd w1 w4 b A') := hid ⟨HD4.out.mono (fun k h1 h2 _ => ⟨h1, h2⟩), ((DF.of (gtrans HG0.out (gtrans HT3.out HU5.out)) (P := fun k => w1.heap.size ≤ k)).trans HF4.out (fun _ _ q => q.1)).grown (fun _ q => q)⟩
        have HCa : Hid (A'.calm ∧ A'.wr ≤ ((i + 1 : Nat) : Int)) := hid (by
          have q := Ab.calm.doA (o := o) HS.out.2.1
          rw [HA'.out] at q
          refine ⟨q.1, ?_⟩
          have := HS.out.2.2
          have := q.2.2.1
          omega)
        have HRel : Hid (∀ u, w4.grownBy u none → Hid (Wd w1 u b A' ∧ A'.calm ∧ A'.wr ≤ ((i + 1 : Nat) : Int))) := hid (fun u hu => hid ⟨HW4.out.keep hu, HCa.out⟩)
        clear HDo HB5 HFl1 HWs HSz HB3' hD
        cases D with
        | false =>
          as_aux_lemma =>
          go_wp2_with fail
          go_roundw
          case rel => exact ⟨i + 1, y, A', by go_num, rfl, by omega, by omega, by omega, HRel.out w4 (grefl _ _)⟩
          case measure => simp [intOf]; omega
        | true =>
          have HNu' : Hid (∀ u, Calls Try.prog 9 #[.int .i64 E] u fun e w' => ∃ v, e = .returned v ∧ u.grownBy w' none ∧ v = Value.int .i64 E) := hid (fun u => (HNu.out E u).mono fun e w' ⟨q1, q2⟩ => ⟨_, q1, by rw [q2]; exact grefl _ _, rfl⟩)
          obtain ⟨M, HM⟩ : ∃ x, Hid (srtC A'.C = x) := ⟨_, hid rfl⟩
          obtain ⟨tn, HTn⟩ : ∃ x, Hid (M.length = x) := ⟨_, hid rfl⟩
          have HF2 : Hid (∀ u, w4.grownBy u none → Calls Try.prog 13 #[.pointer (some ⟨b, 0, none⟩)] u fun e w' => ∃ v, e = .returned v ∧ u.grownBy w' none ∧ ∃ ta tg tc, v = Value.slice ta tn tc ∧ ArF w' (fun k => w4.heap.size ≤ k) ta tg 0 M) := hid (fun u hu => (files_p (HD4.out.keep hu)).mono fun e w' ⟨⟨ta, tg, tc, q1, q2⟩, q3⟩ => by
            rw [HM.out] at q1 q2
            rw [HTn.out] at q1
            exact ⟨_, q1, q3, ta, tg, tc, rfl, q2.mono (fun k hk => Nat.le_trans hu.size hk.1)⟩)
          have HMv : Hid (E = 0 → ∀ u ta tg tc, w4.grownBy u none → ArF u (fun k => w4.heap.size ≤ k) ta tg 0 M → Calls Try.prog 28 #[.slice sa sn sc, .slice ta tn tc, .agg o.cells.toArray] u fun e w' => ∃ v, e = .returned v ∧ u.grownBy w' none ∧ v = Value.bool true) := hid (fun hE u ta tg tc hu hM => by
            have q := moved_any u (fun k => u3.heap.size ≤ k) (fun k => w4.heap.size ≤ k) sa ta sg 0 sc tg 0 tc A o HS.out.2.1 HS.out.1.1.1 (by rw [HA'.out]; exact HD4.out.1) HS.out.1.1.nd (by rw [HA'.out]; exact HD4.out.nd) (by rw [HL.out]; exact HWs4.out.keep hu) (by rw [HA'.out, HM.out]; exact hM) (by rw [HEE.out]; exact hE)
            rw [HL.out, HA'.out, HM.out, HSn.out, HTn.out] at q
            exact q.mono fun e w' ⟨q1, q2⟩ => ⟨_, q1, q2, rfl⟩)
          have HFo : Hid (∀ u, w4.grownBy u none → Calls Try.prog 20 #[.slice sa sn sc, .string o.nm] u fun e w' => w' = u ∧ ∃ v, e = .returned (.tuple #[v, .bool (getC L o.nm).isSome]) ∧ Rd u (fun k => u3.heap.size ≤ k) v ((getC L o.nm).getD [])) := hid (fun u hu => by
            have q := file_any u (fun k => u3.heap.size ≤ k) sa sg 0 sc L o.nm (HWs4.out.keep hu) (by rw [← HL.out, srtC_len]; have := HS.out.1.1.1.len; omega)
            rw [HSn.out] at q
            exact q)
          have HMz : Hid (E ≠ 0 → (getC L o.nm).isSome = true → ¬ (o.dv = 4 ∨ (o.dv = 2 ∧ 0 ≤ o.nv ∧ o.nv ≤ (((getC L o.nm).getD []).length : Int)) ∨ (o.dv = 3 ∧ (o.to = ⟨#[97]⟩ ∨ o.to = ⟨#[98]⟩)))) := hid (fun hE h1 h2 => by
            rw [← HL.out, get_srt HS.out.1.1.nd] at h1 h2
            exact hE (by rw [← HEE.out]; exact may_zero HS.out.2.1 HS.out.1.1.1 h1 h2))
          clear HEE HA' HL HM HTn HSn HW4 HCa HD4 HF4 HWs4 HS HE
          obtain ⟨D1, hD1⟩ : ∃ x, (getC L o.nm).isSome = x := ⟨_, rfl⟩
          obtain ⟨ol, hol⟩ : ∃ x, (getC L o.nm).getD [] = x := ⟨_, rfl⟩
          rw [hD1, hol] at HFo HMz
          clear hD1 hol
          by_cases hE0 : E = 0
          · as_aux_lemma =>
            have HZ : Hid (∀ (x y : Operand) (u : World), (do eqGuard .eql 3 x y (.int .i64 E) (.int .i64 0); binOp .eql 3 (.int .i64 E) (.int .i64 0) : Sem Value).run Try.prog u = .ok (.bool true) u) := hid (fun x y u => by go_simp)
            have HMv := hid (HMv.out hE0)
            have HNu0 := HNu
            have HNu := HNu'
            go_upto_region 14 with fail
            refine wp_region_listX (by kernel_rfl) [fun v _ => v = (Value.int .i64 E), fun v _ => v = Value.int .i64 E, fun v _ => v = (Value.bool true), fun v _ => v = (Value.bool true), fun v _ => v = (Value.slice sa sn sc), fun v _ => v = (Value.pointer (some ⟨b, 0, none⟩)), fun v u => ∃ ta tg tc, v = Value.slice ta tn tc ∧ ArF u (fun k => w4.heap.size ≤ k) ta tg 0 M, fun v _ => v = (Value.agg o.cells.toArray), fun v _ => v = Value.bool true, fun v _ => v = (Value.bool false), fun v _ => v = (Value.bool false)] (none) (fun _ => none) 11 (by kernel_rfl) (by kernel_rfl) (by kernel_rfl) (by kernel_rfl) (by decide) noRow_one (fun _ => .inl rfl) ⟨fun i v u u' hki h hg => h, fun i v u u' hki h hg => h, fun i v u u' hki h hg => h, fun i v u u' hki h hg => h, fun i v u u' hki h hg => h, fun i v u u' hki h hg => h, fun i v u u' hki h hg => (by obtain ⟨ta, tg, tc, e, ho⟩ := h; exact ⟨ta, tg, tc, e, ho.keep hg⟩), fun i v u u' hki h hg => h, fun i v u u' hki h hg => h, fun i v u u' hki h hg => h, fun i v u u' hki h hg => h, trivial⟩ ⟨?_, ?_, ?_, ?_, ?_, ?_, ?_, ?_, ?_, ?_, ?_, trivial⟩ ?_
            · intro A u hu hpu hsz hout hdeps
              have e9 : A.eval (.tmp 9) = (.int .i64 E) := (hout 9 (by kernel_rfl)).trans rfl
              refine ifw_none rfl ?_
              with_reducible refine shown_q (Value.int .i64 E) ?qq_1_0 (fun _ _ => ?qr_1_0)
              case qr_1_0 => exact (rfl : (Value.int .i64 E) = (Value.int .i64 E))
              with_reducible refine quietAt_mv (.tmp 9) (Value.int .i64 E) ?h0_1_0 ?h1_1_0
              case h0_1_0 => rfl
              case h1_1_0 => exact e9
            · intro A u hu hpu hsz hout hdeps
              have e61 : A.eval (.tmp 61) = (.int .i64 E) := by have h := depL hdeps 0 (by kernel_rfl) 61 (by kernel_rfl); exact h
              refine ifw_none rfl ?_
              with_reducible refine shown_call 9 Try.f9 ?h0_1_1 ?h1_1_1 ?h2_1_1 #[.tmp 61] #[27] ?h3_1_1 #[(Value.int .i64 E)] ?h4_1_1 ?h5_1_1
              case h0_1_1 => exact Try.func9
              case h1_1_1 => kernel_rfl
              case h2_1_1 => kernel_rfl
              case h3_1_1 => rfl
              case h4_1_1 => exact map1 _ _ _ e61
              case h5_1_1 => exact HNu.out u
            · intro A u hu hpu hsz hout hdeps
              have f62 : (fun v _ => v = Value.int .i64 E) (A.eval (.tmp 62)) u := by have h := depL hdeps 1 (by kernel_rfl) 62 (by kernel_rfl); exact h
              have e62 := (f62 : _ = Value.int .i64 E)
              refine ifw_none rfl ?_
              with_reducible refine shown_q (Value.bool true) ?qq_1_2 (fun _ _ => ?qr_1_2)
              case qr_1_2 => exact (rfl : (Value.bool true) = (Value.bool true))
              with_reducible refine quietAt_bin .eql 3 (.tmp 62) (.const (.int .i64 0)) 3 (Value.int .i64 E) (Value.int .i64 0) (Value.bool true) ?h0_1_2 ?h1_1_2 ?h2_1_2 ?h3_1_2
              case h0_1_2 => rfl
              case h1_1_2 => exact e62
              case h2_1_2 => exact rfl
              case h3_1_2 => exact HZ.out _ _ u
            · intro A u hu hpu hsz hout hdeps
              have e63 : A.eval (.tmp 63) = (.bool true) := by have h := depL hdeps 2 (by kernel_rfl) 63 (by kernel_rfl); exact h
              refine ifw_none rfl ?_
              with_reducible refine shown_q (Value.bool true) ?qq_1_3 (fun _ _ => ?qr_1_3)
              case qr_1_3 => exact (rfl : (Value.bool true) = (Value.bool true))
              with_reducible refine quietAt_mv (.tmp 63) (Value.bool true) ?h0_1_3 ?h1_1_3
              case h0_1_3 => rfl
              case h1_1_3 => exact e63
            · intro A u hu hpu hsz hout hdeps
              have e64 : A.eval (.tmp 64) = (.bool true) := by have h := depL hdeps 3 (by kernel_rfl) 64 (by kernel_rfl); exact h
              have e8 : A.eval (.tmp 8) = (.slice sa sn sc) := (hout 8 (by kernel_rfl)).trans rfl
              refine ifw_want 3 true 64 rfl rfl e64 ?_
              with_reducible refine shown_q (Value.slice sa sn sc) ?qq_1_4 (fun _ _ => ?qr_1_4)
              case qr_1_4 => exact (rfl : (Value.slice sa sn sc) = (Value.slice sa sn sc))
              with_reducible refine quietAt_mv (.tmp 8) (Value.slice sa sn sc) ?h0_1_4 ?h1_1_4
              case h0_1_4 => rfl
              case h1_1_4 => exact e8
            · intro A u hu hpu hsz hout hdeps
              have e64 : A.eval (.tmp 64) = (.bool true) := by have h := depL hdeps 3 (by kernel_rfl) 64 (by kernel_rfl); exact h
              have e3 : A.eval (.tmp 3) = (.pointer (some ⟨b, 0, none⟩)) := (hout 3 (by kernel_rfl)).trans rfl
              refine ifw_want 3 true 64 rfl rfl e64 ?_
              with_reducible refine shown_q (Value.pointer (some ⟨b, 0, none⟩)) ?qq_1_5 (fun _ _ => ?qr_1_5)
              case qr_1_5 => exact (rfl : (Value.pointer (some ⟨b, 0, none⟩)) = (Value.pointer (some ⟨b, 0, none⟩)))
              with_reducible refine quietAt_mv (.tmp 3) (Value.pointer (some ⟨b, 0, none⟩)) ?h0_1_5 ?h1_1_5
              case h0_1_5 => rfl
              case h1_1_5 => exact e3
            · intro A u hu hpu hsz hout hdeps
              have e64 : A.eval (.tmp 64) = (.bool true) := by have h := depL hdeps 3 (by kernel_rfl) 64 (by kernel_rfl); exact h
              have e66 : A.eval (.tmp 66) = (.pointer (some ⟨b, 0, none⟩)) := by have h := depL hdeps 5 (by kernel_rfl) 66 (by kernel_rfl); exact h
              refine ifw_want 3 true 64 rfl rfl e64 ?_
              with_reducible refine shown_call 13 Try.f13 ?h0_1_6 ?h1_1_6 ?h2_1_6 #[.tmp 66] #[26] ?h3_1_6 #[(Value.pointer (some ⟨b, 0, none⟩))] ?h4_1_6 ?h5_1_6
              case h0_1_6 => exact Try.func13
              case h1_1_6 => kernel_rfl
              case h2_1_6 => kernel_rfl
              case h3_1_6 => rfl
              case h4_1_6 => exact map1 _ _ _ e66
              case h5_1_6 => exact HF2.out u hu
            · intro A u hu hpu hsz hout hdeps
              have e64 : A.eval (.tmp 64) = (.bool true) := by have h := depL hdeps 3 (by kernel_rfl) 64 (by kernel_rfl); exact h
              have e7 : A.eval (.tmp 7) = (.pointer (some ⟨p7, 0, none⟩)) := (hout 7 (by kernel_rfl)).trans rfl
              refine ifw_want 3 true 64 rfl rfl e64 ?_
              with_reducible refine shown_q (Value.agg o.cells.toArray) ?qq_1_7 (fun _ _ => ?qr_1_7)
              case qr_1_7 => exact (rfl : (Value.agg o.cells.toArray) = (Value.agg o.cells.toArray))
              with_reducible refine quietAt_load 36 (.tmp 7) ?h0_1_7 p7 0 o.cells (.struct (Try.prog.fieldsOf 36)) ?h1_1_7 ?h2_1_7 ?h3_1_7 ?h4_1_7 ?h5_1_7
              case h0_1_7 => rfl
              case h1_1_7 => exact e7
              case h2_1_7 => exact (HB4.out.keep hu).whole
              case h3_1_7 => exact Try.underlying36
              case h4_1_7 => rfl
              case h5_1_7 => exact (HOL.out ▸ Try.size36 : (Try.prog.info? 36).map (·.size) = some o.cells.length)
            · intro A u hu hpu hsz hout hdeps
              have e64 : A.eval (.tmp 64) = (.bool true) := by have h := depL hdeps 3 (by kernel_rfl) 64 (by kernel_rfl); exact h
              have e65 : A.eval (.tmp 65) = (.slice sa sn sc) := by have h := depL hdeps 4 (by kernel_rfl) 65 (by kernel_rfl); exact h
              have f67 : (fun v u => ∃ ta tg tc, v = Value.slice ta tn tc ∧ ArF u (fun k => w4.heap.size ≤ k) ta tg 0 M) (A.eval (.tmp 67)) u := by have h := depL hdeps 6 (by kernel_rfl) 67 (by kernel_rfl); exact h
              obtain ⟨ta, tg, tc, e67, hM⟩ := f67
              have e68 : A.eval (.tmp 68) = (.agg o.cells.toArray) := by have h := depL hdeps 7 (by kernel_rfl) 68 (by kernel_rfl); exact h
              refine ifw_want 3 true 64 rfl rfl e64 ?_
              with_reducible refine shown_call 28 Try.f28 ?h0_1_8 ?h1_1_8 ?h2_1_8 #[.tmp 65, .tmp 67, .tmp 68] #[34, 34, 36] ?h3_1_8 #[(Value.slice sa sn sc), (Value.slice ta tn tc), (Value.agg o.cells.toArray)] ?h4_1_8 ?h5_1_8
              case h0_1_8 => exact Try.func28
              case h1_1_8 => kernel_rfl
              case h2_1_8 => kernel_rfl
              case h3_1_8 => rfl
              case h4_1_8 => exact map3 _ _ _ _ _ _ _ e65 e67 e68
              case h5_1_8 => exact HMv.out u ta tg tc hu hM
            · intro A u hu hpu hsz hout hdeps
              have e64 : A.eval (.tmp 64) = (.bool true) := by have h := depL hdeps 3 (by kernel_rfl) 64 (by kernel_rfl); exact h
              have f69 : (fun v _ => v = Value.bool true) (A.eval (.tmp 69)) u := by have h := depL hdeps 8 (by kernel_rfl) 69 (by kernel_rfl); exact h
              have e69 := (f69 : _ = Value.bool true)
              refine ifw_want 3 true 64 rfl rfl e64 ?_
              with_reducible refine shown_q (Value.bool false) ?qq_1_9 (fun _ _ => ?qr_1_9)
              case qr_1_9 => exact (rfl : (Value.bool false) = (Value.bool false))
              with_reducible refine quietAt_un .not 4 (.tmp 69) (Value.bool true) (Value.bool false) ?h0_1_9 ?h1_1_9 ?h2_1_9
              case h0_1_9 => rfl
              case h1_1_9 => exact e69
              case h2_1_9 => rfl
            · intro A u hu hpu hsz hout hdeps
              have e64 : A.eval (.tmp 64) = (.bool true) := by have h := depL hdeps 3 (by kernel_rfl) 64 (by kernel_rfl); exact h
              have e70 : A.eval (.tmp 70) = (.bool false) := by have h := depL hdeps 9 (by kernel_rfl) 70 (by kernel_rfl); exact h
              refine ifw_none rfl ?_
              with_reducible refine shown_q (Value.bool false) ?qq_1_10 (fun _ _ => ?qr_1_10)
              case qr_1_10 => exact (rfl : (Value.bool false) = (Value.bool false))
              with_reducible refine quietAt_pick (.tmp 64) (.tmp 70) (.const (.bool false)) true (Value.bool false) ?h0_1_10 ?h1_1_10 ?h2_1_10
              case h0_1_10 => rfl
              case h1_1_10 => exact e64
              case h2_1_10 => rw [if_pos rfl]; exact e70
            · intro A u8 listed hh hall
              have hA := hh.frame
              have HU := hid hh.grown
              obtain ⟨x61, hx61⟩ : ∃ x, A.eval (.tmp 61) = x := ⟨_, rfl⟩
              have f61 : (fun v _ => v = (Value.int .i64 E)) x61 u8 := by rw [← hx61]; exact hh.got 0 _ 61 rfl rfl (hall 0 (by decide))
              obtain ⟨x62, hx62⟩ : ∃ x, A.eval (.tmp 62) = x := ⟨_, rfl⟩
              have f62 : (fun v _ => v = Value.int .i64 E) x62 u8 := by rw [← hx62]; exact hh.got 1 _ 62 rfl rfl (hall 1 (by decide))
              obtain ⟨x63, hx63⟩ : ∃ x, A.eval (.tmp 63) = x := ⟨_, rfl⟩
              have f63 : (fun v _ => v = (Value.bool true)) x63 u8 := by rw [← hx63]; exact hh.got 2 _ 63 rfl rfl (hall 2 (by decide))
              obtain ⟨x64, hx64⟩ : ∃ x, A.eval (.tmp 64) = x := ⟨_, rfl⟩
              have f64 : (fun v _ => v = (Value.bool true)) x64 u8 := by rw [← hx64]; exact hh.got 3 _ 64 rfl rfl (hall 3 (by decide))
              obtain ⟨x65, hx65⟩ : ∃ x, A.eval (.tmp 65) = x := ⟨_, rfl⟩
              have f65 : (fun v _ => v = (Value.slice sa sn sc)) x65 u8 := by rw [← hx65]; exact hh.got 4 _ 65 rfl rfl (hall 4 (by decide))
              obtain ⟨x66, hx66⟩ : ∃ x, A.eval (.tmp 66) = x := ⟨_, rfl⟩
              have f66 : (fun v _ => v = (Value.pointer (some ⟨b, 0, none⟩))) x66 u8 := by rw [← hx66]; exact hh.got 5 _ 66 rfl rfl (hall 5 (by decide))
              obtain ⟨x67, hx67⟩ : ∃ x, A.eval (.tmp 67) = x := ⟨_, rfl⟩
              have f67 : (fun v u => ∃ ta tg tc, v = Value.slice ta tn tc ∧ ArF u (fun k => w4.heap.size ≤ k) ta tg 0 M) x67 u8 := by rw [← hx67]; exact hh.got 6 _ 67 rfl rfl (hall 6 (by decide))
              obtain ⟨x68, hx68⟩ : ∃ x, A.eval (.tmp 68) = x := ⟨_, rfl⟩
              have f68 : (fun v _ => v = (Value.agg o.cells.toArray)) x68 u8 := by rw [← hx68]; exact hh.got 7 _ 68 rfl rfl (hall 7 (by decide))
              obtain ⟨x69, hx69⟩ : ∃ x, A.eval (.tmp 69) = x := ⟨_, rfl⟩
              have f69 : (fun v _ => v = Value.bool true) x69 u8 := by rw [← hx69]; exact hh.got 8 _ 69 rfl rfl (hall 8 (by decide))
              obtain ⟨x70, hx70⟩ : ∃ x, A.eval (.tmp 70) = x := ⟨_, rfl⟩
              have f70 : (fun v _ => v = (Value.bool false)) x70 u8 := by rw [← hx70]; exact hh.got 9 _ 70 rfl rfl (hall 9 (by decide))
              obtain ⟨x71, hx71⟩ : ∃ x, A.eval (.tmp 71) = x := ⟨_, rfl⟩
              have f71 : (fun v _ => v = (Value.bool false)) x71 u8 := by rw [← hx71]; exact hh.got 10 _ 71 rfl rfl (hall 10 (by decide))
              dsimp only [wrote, List.foldl] at hA
              rw [hx61, hx62, hx63, hx64, hx65, hx66, hx67, hx68, hx69, hx70, hx71] at hA
              clear hh hall hx61 hx62 hx63 hx64 hx65 hx66 hx67 hx68 hx69 hx70 hx71
              replace f61 := (f61 : x61 = (.int .i64 E))
              subst f61
              have e62 := (f62 : _ = Value.int .i64 E)
              subst e62
              replace f63 := (f63 : x63 = (.bool true))
              subst f63
              replace f64 := (f64 : x64 = (.bool true))
              subst f64
              replace f65 := (f65 : x65 = (.slice sa sn sc))
              subst f65
              replace f66 := (f66 : x66 = (.pointer (some ⟨b, 0, none⟩)))
              subst f66
              obtain ⟨ta, tg, tc, e67, hM⟩ := f67
              subst e67
              replace f68 := (f68 : x68 = (.agg o.cells.toArray))
              subst f68
              have e69 := (f69 : _ = Value.bool true)
              subst e69
              replace f70 := (f70 : x70 = (.bool false))
              subst f70
              replace f71 := (f71 : x71 = (.bool false))
              subst f71
              subst hA
              show wpList _ _ _ [] _ _
              unfold wpList
              simp only [Act.put, List.setIfInBounds_toArray, List.set_cons_succ, List.set_cons_zero]
              have k0 : u8.cell? ⟨p7, 0, none⟩ = some (.int .i64 o.dv) := (HB4.out.keep HU.out).cell 0
              have k2 : u8.cell? ⟨p7, 2, none⟩ = some (.string o.nm) := (HB4.out.keep HU.out).cell 2
              have k3 : u8.cell? ⟨p7, 3, none⟩ = some (.string o.to) := (HB4.out.keep HU.out).cell 3
              have k5 : u8.cell? ⟨p7, 5, none⟩ = some (.int .i64 o.nv) := (HB4.out.keep HU.out).cell 5
              obtain ⟨odv, hodv⟩ : ∃ x, o.dv = x := ⟨_, rfl⟩
              obtain ⟨onm, honm⟩ : ∃ x, o.nm = x := ⟨_, rfl⟩
              obtain ⟨oto, hoto⟩ : ∃ x, o.to = x := ⟨_, rfl⟩
              obtain ⟨onv, honv⟩ : ∃ x, o.nv = x := ⟨_, rfl⟩
              rw [hodv] at k0 HMz
              rw [honm] at k2 HFo
              rw [hoto] at k3 HMz
              rw [honv] at k5 HMz
              clear hodv honm hoto honv
              go_upto_region 17 with (go_at_call 20; refine (HFo.out _ HU.out).mono ?_; rintro e w9 ⟨rfl, v9, rfl, hv9⟩; obtain ⟨oa, -, -, oc, rfl, -⟩ := hv9)
              obtain ⟨oln, hln⟩ : ∃ x, ol.length = x := ⟨_, rfl⟩
              rw [hln] at HMz ⊢
              clear hln
              go_wp2_with (go_at_call 9; refine (HNu0.out _ _).mono ?_; rintro e w10 ⟨rfl, rfl⟩)
              all_goals (go_roundw; (case rel => exact ⟨i + 1, y, A', by go_num, rfl, by omega, by omega, by omega, HRel.out _ HU.out⟩); (case measure => (simp [intOf]; omega)))
          · as_aux_lemma =>
            have HZ : Hid (∀ (x y : Operand) (u : World), (do eqGuard .eql 3 x y (.int .i64 E) (.int .i64 0); binOp .eql 3 (.int .i64 E) (.int .i64 0) : Sem Value).run Try.prog u = .ok (.bool false) u) := hid (fun x y u => by go_simp)
            have HNu0 := HNu
            have HNu := HNu'
            go_upto_region 14 with fail
            refine wp_region_listX (by kernel_rfl) [fun v _ => v = (Value.int .i64 E), fun v _ => v = Value.int .i64 E, fun v _ => v = (Value.bool false), fun v _ => v = (Value.bool false), fun v _ => v = undef, fun v _ => v = undef, fun v _ => v = undef, fun v _ => v = undef, fun v _ => v = undef, fun v _ => v = undef, fun v _ => v = (Value.bool false)] (none) (fun _ => none) 11 (by kernel_rfl) (by kernel_rfl) (by kernel_rfl) (by kernel_rfl) (by decide) noRow_one (fun _ => .inl rfl) ⟨fun i v u u' hki h hg => h, fun i v u u' hki h hg => h, fun i v u u' hki h hg => h, fun i v u u' hki h hg => h, fun i v u u' hki h hg => h, fun i v u u' hki h hg => h, fun i v u u' hki h hg => h, fun i v u u' hki h hg => h, fun i v u u' hki h hg => h, fun i v u u' hki h hg => h, fun i v u u' hki h hg => h, trivial⟩ ⟨?_, ?_, ?_, ?_, ?_, ?_, ?_, ?_, ?_, ?_, ?_, trivial⟩ ?_
            · intro A u hu hpu hsz hout hdeps
              have e9 : A.eval (.tmp 9) = (.int .i64 E) := (hout 9 (by kernel_rfl)).trans rfl
              refine ifw_none rfl ?_
              with_reducible refine shown_q (Value.int .i64 E) ?qq_2_0 (fun _ _ => ?qr_2_0)
              case qr_2_0 => exact (rfl : (Value.int .i64 E) = (Value.int .i64 E))
              with_reducible refine quietAt_mv (.tmp 9) (Value.int .i64 E) ?h0_2_0 ?h1_2_0
              case h0_2_0 => rfl
              case h1_2_0 => exact e9
            · intro A u hu hpu hsz hout hdeps
              have e61 : A.eval (.tmp 61) = (.int .i64 E) := by have h := depL hdeps 0 (by kernel_rfl) 61 (by kernel_rfl); exact h
              refine ifw_none rfl ?_
              with_reducible refine shown_call 9 Try.f9 ?h0_2_1 ?h1_2_1 ?h2_2_1 #[.tmp 61] #[27] ?h3_2_1 #[(Value.int .i64 E)] ?h4_2_1 ?h5_2_1
              case h0_2_1 => exact Try.func9
              case h1_2_1 => kernel_rfl
              case h2_2_1 => kernel_rfl
              case h3_2_1 => rfl
              case h4_2_1 => exact map1 _ _ _ e61
              case h5_2_1 => exact HNu.out u
            · intro A u hu hpu hsz hout hdeps
              have f62 : (fun v _ => v = Value.int .i64 E) (A.eval (.tmp 62)) u := by have h := depL hdeps 1 (by kernel_rfl) 62 (by kernel_rfl); exact h
              have e62 := (f62 : _ = Value.int .i64 E)
              refine ifw_none rfl ?_
              with_reducible refine shown_q (Value.bool false) ?qq_2_2 (fun _ _ => ?qr_2_2)
              case qr_2_2 => exact (rfl : (Value.bool false) = (Value.bool false))
              with_reducible refine quietAt_bin .eql 3 (.tmp 62) (.const (.int .i64 0)) 3 (Value.int .i64 E) (Value.int .i64 0) (Value.bool false) ?h0_2_2 ?h1_2_2 ?h2_2_2 ?h3_2_2
              case h0_2_2 => rfl
              case h1_2_2 => exact e62
              case h2_2_2 => exact rfl
              case h3_2_2 => exact HZ.out _ _ u
            · intro A u hu hpu hsz hout hdeps
              have e63 : A.eval (.tmp 63) = (.bool false) := by have h := depL hdeps 2 (by kernel_rfl) 63 (by kernel_rfl); exact h
              refine ifw_none rfl ?_
              with_reducible refine shown_q (Value.bool false) ?qq_2_3 (fun _ _ => ?qr_2_3)
              case qr_2_3 => exact (rfl : (Value.bool false) = (Value.bool false))
              with_reducible refine quietAt_mv (.tmp 63) (Value.bool false) ?h0_2_3 ?h1_2_3
              case h0_2_3 => rfl
              case h1_2_3 => exact e63
            · intro A u hu hpu hsz hout hdeps
              have e64 : A.eval (.tmp 64) = (.bool false) := by have h := depL hdeps 3 (by kernel_rfl) 64 (by kernel_rfl); exact h
              refine ifw_pass 3 true false 64 rfl rfl e64 (by decide) ?_
              exact rfl
            · intro A u hu hpu hsz hout hdeps
              have e64 : A.eval (.tmp 64) = (.bool false) := by have h := depL hdeps 3 (by kernel_rfl) 64 (by kernel_rfl); exact h
              refine ifw_pass 3 true false 64 rfl rfl e64 (by decide) ?_
              exact rfl
            · intro A u hu hpu hsz hout hdeps
              have e64 : A.eval (.tmp 64) = (.bool false) := by have h := depL hdeps 3 (by kernel_rfl) 64 (by kernel_rfl); exact h
              refine ifw_pass 3 true false 64 rfl rfl e64 (by decide) ?_
              exact rfl
            · intro A u hu hpu hsz hout hdeps
              have e64 : A.eval (.tmp 64) = (.bool false) := by have h := depL hdeps 3 (by kernel_rfl) 64 (by kernel_rfl); exact h
              refine ifw_pass 3 true false 64 rfl rfl e64 (by decide) ?_
              exact rfl
            · intro A u hu hpu hsz hout hdeps
              have e64 : A.eval (.tmp 64) = (.bool false) := by have h := depL hdeps 3 (by kernel_rfl) 64 (by kernel_rfl); exact h
              refine ifw_pass 3 true false 64 rfl rfl e64 (by decide) ?_
              exact rfl
            · intro A u hu hpu hsz hout hdeps
              have e64 : A.eval (.tmp 64) = (.bool false) := by have h := depL hdeps 3 (by kernel_rfl) 64 (by kernel_rfl); exact h
              refine ifw_pass 3 true false 64 rfl rfl e64 (by decide) ?_
              exact rfl
            · intro A u hu hpu hsz hout hdeps
              have e64 : A.eval (.tmp 64) = (.bool false) := by have h := depL hdeps 3 (by kernel_rfl) 64 (by kernel_rfl); exact h
              refine ifw_none rfl ?_
              with_reducible refine shown_q (Value.bool false) ?qq_2_10 (fun _ _ => ?qr_2_10)
              case qr_2_10 => exact (rfl : (Value.bool false) = (Value.bool false))
              with_reducible refine quietAt_pick (.tmp 64) (.tmp 70) (.const (.bool false)) false (Value.bool false) ?h0_2_10 ?h1_2_10 ?h2_2_10
              case h0_2_10 => rfl
              case h1_2_10 => exact e64
              case h2_2_10 => rw [if_neg (by decide)]; exact rfl
            · intro A u8 listed hh hall
              have hA := hh.frame
              have HU := hid hh.grown
              obtain ⟨x61, hx61⟩ : ∃ x, A.eval (.tmp 61) = x := ⟨_, rfl⟩
              have f61 : (fun v _ => v = (Value.int .i64 E)) x61 u8 := by rw [← hx61]; exact hh.got 0 _ 61 rfl rfl (hall 0 (by decide))
              obtain ⟨x62, hx62⟩ : ∃ x, A.eval (.tmp 62) = x := ⟨_, rfl⟩
              have f62 : (fun v _ => v = Value.int .i64 E) x62 u8 := by rw [← hx62]; exact hh.got 1 _ 62 rfl rfl (hall 1 (by decide))
              obtain ⟨x63, hx63⟩ : ∃ x, A.eval (.tmp 63) = x := ⟨_, rfl⟩
              have f63 : (fun v _ => v = (Value.bool false)) x63 u8 := by rw [← hx63]; exact hh.got 2 _ 63 rfl rfl (hall 2 (by decide))
              obtain ⟨x64, hx64⟩ : ∃ x, A.eval (.tmp 64) = x := ⟨_, rfl⟩
              have f64 : (fun v _ => v = (Value.bool false)) x64 u8 := by rw [← hx64]; exact hh.got 3 _ 64 rfl rfl (hall 3 (by decide))
              obtain ⟨x65, hx65⟩ : ∃ x, A.eval (.tmp 65) = x := ⟨_, rfl⟩
              have f65 : (fun v _ => v = undef) x65 u8 := by rw [← hx65]; exact hh.got 4 _ 65 rfl rfl (hall 4 (by decide))
              obtain ⟨x66, hx66⟩ : ∃ x, A.eval (.tmp 66) = x := ⟨_, rfl⟩
              have f66 : (fun v _ => v = undef) x66 u8 := by rw [← hx66]; exact hh.got 5 _ 66 rfl rfl (hall 5 (by decide))
              obtain ⟨x67, hx67⟩ : ∃ x, A.eval (.tmp 67) = x := ⟨_, rfl⟩
              have f67 : (fun v _ => v = undef) x67 u8 := by rw [← hx67]; exact hh.got 6 _ 67 rfl rfl (hall 6 (by decide))
              obtain ⟨x68, hx68⟩ : ∃ x, A.eval (.tmp 68) = x := ⟨_, rfl⟩
              have f68 : (fun v _ => v = undef) x68 u8 := by rw [← hx68]; exact hh.got 7 _ 68 rfl rfl (hall 7 (by decide))
              obtain ⟨x69, hx69⟩ : ∃ x, A.eval (.tmp 69) = x := ⟨_, rfl⟩
              have f69 : (fun v _ => v = undef) x69 u8 := by rw [← hx69]; exact hh.got 8 _ 69 rfl rfl (hall 8 (by decide))
              obtain ⟨x70, hx70⟩ : ∃ x, A.eval (.tmp 70) = x := ⟨_, rfl⟩
              have f70 : (fun v _ => v = undef) x70 u8 := by rw [← hx70]; exact hh.got 9 _ 70 rfl rfl (hall 9 (by decide))
              obtain ⟨x71, hx71⟩ : ∃ x, A.eval (.tmp 71) = x := ⟨_, rfl⟩
              have f71 : (fun v _ => v = (Value.bool false)) x71 u8 := by rw [← hx71]; exact hh.got 10 _ 71 rfl rfl (hall 10 (by decide))
              dsimp only [wrote, List.foldl] at hA
              rw [hx61, hx62, hx63, hx64, hx65, hx66, hx67, hx68, hx69, hx70, hx71] at hA
              clear hh hall hx61 hx62 hx63 hx64 hx65 hx66 hx67 hx68 hx69 hx70 hx71
              replace f61 := (f61 : x61 = (.int .i64 E))
              subst f61
              have e62 := (f62 : _ = Value.int .i64 E)
              subst e62
              replace f63 := (f63 : x63 = (.bool false))
              subst f63
              replace f64 := (f64 : x64 = (.bool false))
              subst f64
              replace f65 := (f65 : x65 = undef)
              subst f65
              replace f66 := (f66 : x66 = undef)
              subst f66
              replace f67 := (f67 : x67 = undef)
              subst f67
              replace f68 := (f68 : x68 = undef)
              subst f68
              replace f69 := (f69 : x69 = undef)
              subst f69
              replace f70 := (f70 : x70 = undef)
              subst f70
              replace f71 := (f71 : x71 = (.bool false))
              subst f71
              subst hA
              show wpList _ _ _ [] _ _
              unfold wpList
              simp only [Act.put, List.setIfInBounds_toArray, List.set_cons_succ, List.set_cons_zero]
              have k0 : u8.cell? ⟨p7, 0, none⟩ = some (.int .i64 o.dv) := (HB4.out.keep HU.out).cell 0
              have k2 : u8.cell? ⟨p7, 2, none⟩ = some (.string o.nm) := (HB4.out.keep HU.out).cell 2
              have k3 : u8.cell? ⟨p7, 3, none⟩ = some (.string o.to) := (HB4.out.keep HU.out).cell 3
              have k5 : u8.cell? ⟨p7, 5, none⟩ = some (.int .i64 o.nv) := (HB4.out.keep HU.out).cell 5
              obtain ⟨odv, hodv⟩ : ∃ x, o.dv = x := ⟨_, rfl⟩
              obtain ⟨onm, honm⟩ : ∃ x, o.nm = x := ⟨_, rfl⟩
              obtain ⟨oto, hoto⟩ : ∃ x, o.to = x := ⟨_, rfl⟩
              obtain ⟨onv, honv⟩ : ∃ x, o.nv = x := ⟨_, rfl⟩
              rw [hodv] at k0 HMz
              rw [honm] at k2 HFo
              rw [hoto] at k3 HMz
              rw [honv] at k5 HMz
              clear hodv honm hoto honv
              go_upto_region 17 with (go_at_call 20; refine (HFo.out _ HU.out).mono ?_; rintro e w9 ⟨rfl, v9, rfl, hv9⟩; obtain ⟨oa, -, -, oc, rfl, -⟩ := hv9)
              obtain ⟨oln, hln⟩ : ∃ x, ol.length = x := ⟨_, rfl⟩
              rw [hln] at HMz ⊢
              clear hln
              cases D1 with
              | false =>
                go_wp2_with (go_at_call 9; refine (HNu0.out _ _).mono ?_; rintro e w10 ⟨rfl, rfl⟩)
                go_roundw
                case rel => exact ⟨i + 1, y, A', by go_num, rfl, by omega, by omega, by omega, HRel.out _ HU.out⟩
                case measure => simp [intOf]; omega
              | true =>
                have hm := HMz.out hE0 rfl
                have d4 : ¬ odv = 4 := fun q => hm (.inl q)
                by_cases d2 : odv = 2
                · by_cases g0 : 0 ≤ onv
                  · have g1 : ¬ onv ≤ (oln : Int) := fun q => hm (.inr (.inl ⟨d2, g0, q⟩))
                    subst d2
                    clear hm HMz
                    go_wp2_with (go_at_call 9; refine (HNu0.out _ _).mono ?_; rintro e w10 ⟨rfl, rfl⟩)
                    go_roundw
                    case rel => exact ⟨i + 1, y, A', by go_num, rfl, by omega, by omega, by omega, HRel.out _ HU.out⟩
                    case measure => simp [intOf]; omega
                  · subst d2
                    clear hm HMz
                    go_wp2_with (go_at_call 9; refine (HNu0.out _ _).mono ?_; rintro e w10 ⟨rfl, rfl⟩)
                    go_roundw
                    case rel => exact ⟨i + 1, y, A', by go_num, rfl, by omega, by omega, by omega, HRel.out _ HU.out⟩
                    case measure => simp [intOf]; omega
                · by_cases d3 : odv = 3
                  · have t1 : (oto.toList == (⟨#[97]⟩ : ByteArray).toList) = false := by rw [ba_dec, decide_eq_false (fun q => hm (.inr (.inr ⟨d3, .inl q⟩)))]
                    have t2 : (oto.toList == (⟨#[98]⟩ : ByteArray).toList) = false := by rw [ba_dec, decide_eq_false (fun q => hm (.inr (.inr ⟨d3, .inr q⟩)))]
                    have t3 : (oto.toList == [97]) = false := by rw [show (⟨#[97]⟩ : ByteArray).toList = [97] from Lib.toList_data _] at t1; exact t1
                    have t4 : (oto.toList == [98]) = false := by rw [show (⟨#[98]⟩ : ByteArray).toList = [98] from Lib.toList_data _] at t2; exact t2
                    subst d3
                    clear hm HMz
                    go_wp2_with (go_at_call 9; refine (HNu0.out _ _).mono ?_; rintro e w10 ⟨rfl, rfl⟩)
                    go_roundw
                    case rel => exact ⟨i + 1, y, A', by go_num, rfl, by omega, by omega, by omega, HRel.out _ HU.out⟩
                    case measure => simp [intOf]; omega
                  · clear hm HMz
                    go_wp2_with (go_at_call 9; refine (HNu0.out _ _).mono ?_; rintro e w10 ⟨rfl, rfl⟩)
                    go_roundw
                    case rel => exact ⟨i + 1, y, A', by go_num, rfl, by omega, by omega, by omega, HRel.out _ HU.out⟩
                    case measure => simp [intOf]; omega
      · have h4' : ¬ (i : Int) < 400 := by omega
        go_wp2_with fail
        go_ret
        exact ⟨rfl, gtrans HG1.out HG0.out⟩
    · have hlt' : ¬ (i : Int) < (n : Int) := by omega
      go_wp2_with fail
      go_ret
      exact ⟨rfl, gtrans HG1.out HG0.out⟩
end Go.Proofs.Ytlgjmdianmijeaa
