/- DiskHolds' walk. -/
import Derived.Test.YtlgjmdianmijeaaDya
namespace Go.Proofs.Ytlgjmdianmijeaa
open Go Go.RowKit Go.MapKept Go.MuLone
open Go.RowKit (wrap32 wrap64)

set_option maxRecDepth 100000 in
set_option maxHeartbeats 16000000 in
theorem holds_walk (w : World) (F : Nat → Prop) (a : Option Addr) (g off n c : Nat) (r0 r1 : Int) (T : Nat → Opv) (hA : ArO w F a g off n T) (hn : n ≤ 140737488355328) :
    Calls Try.prog 4 #[.agg [Value.int .i64 r0, .int .i64 r1, .slice a n c].toArray] w fun e w' => e = .returned (.bool true) ∧ w.grownBy w' none := by
  have HA : Hid (∀ u, w.grownBy u none → ArO u F a g off n T) := hid (fun u hu => hA.keep hu)
  have HWi : Hid (∀ u : World, Calls Try.prog 7 #[.int .i64 r0, .int .i64 65536] u fun e w' => (∃ r : Nat, r < 65536 ∧ e = .returned (.int .i64 r)) ∧ w' = u) := hid (fun u => within_any r0 65536 (by decide) (by decide) u)
  have HNw : Hid (∀ (r : Nat), r < 65536 → ∀ u : World, Calls Try.prog 8 #[.int .i64 (1 + (r : Int))] u fun e w' => ∃ b, e = .returned (.tuple #[.pointer (some ⟨b, 0, none⟩), .int .i64 0]) ∧ DkP w' u.heap.size b (Ab.new (1 + (r : Int))) (fun k => u.heap.size ≤ k ∧ k < w'.heap.size) ∧ u.grownBy w' none) := hid (fun r hr u => new_ok u (1 + (r : Int)) (by omega) (by omega))
  have HNu : Hid (∀ (E : Int) (u : World), Calls Try.prog 9 #[.int .i64 E] u fun e w' => e = .returned (.int .i64 E) ∧ w' = u) := hid num_any
  have HWk := hid works_any
  clear hA
  go_enter Try.func4, Try.ntmps4
  go_upto_region 7 with (first
    | ((with_reducible refine wpList_box_row (by with_unfolding_all rfl) 48 _ (by with_unfolding_all rfl) [Value.int .i64 r0, .int .i64 r1, .slice a n c] (by with_unfolding_all rfl) ?_); intro w1 B1 s1 g1; have HB1 := hid B1; have HG1 := hid g1; have cr := B1.cell 0; clear B1 s1 g1)
    | (go_at_call 7; refine (HWi.out _).mono ?_; rintro e w1' ⟨⟨rr, hrr, rfl⟩, hw1⟩; have hw1' := hw1.symm; clear hw1; subst hw1')
    | (go_at_call 8; refine (HNw.out rr hrr _).mono ?_; rintro e w2 ⟨b, rfl, hd, hg⟩; have HD2 := hid hd; have HG2 := hid hg; clear hd hg)
    | (go_at_call 9; refine (HNu.out _ _).mono ?_; rintro e w3 ⟨rfl, rfl⟩)
    | (go_at_call 10; refine (HWk.out _).mono ?_; rintro e wW ⟨rfl, hg⟩; have HG4 := hid hg; clear hg))
  have HW0 : Hid (Wd w1 wW b (Ab.new (1 + (rr : Int)))) := hid (Wd.keep ⟨HD2.out, HG2.out⟩ HG4.out)
  have HG1' := hid HG1.out
  obtain ⟨p1, hp1⟩ : ∃ x, w.heap.size = x := ⟨_, rfl⟩
  rw [hp1] at HB1 ⊢
  clear hp1 HD2 HG2 HG4 HNw HWk
  go_loopw [7, 6] (fun iv sv wr => ∃ (i z : Nat) (A : Ab), iv = .int .i64 i ∧ sv = .int .i64 z ∧ i ≤ n ∧ i ≤ 400 ∧ z ≤ 262144 ∧ Hid (Wd w1 wr b A ∧ A.calm ∧ A.wr ≤ i ∧ A.room = 1 + (rr : Int))) (fun iv _ _ => n - (intOf iv).toNat)
  case atStart => exact ⟨0, 0, _, rfl, rfl, by omega, by omega, by omega, hid ⟨HW0.out, ⟨rfl, rfl⟩, by show (0 : Int) ≤ _; omega, rfl⟩⟩
  case round =>
    obtain ⟨i, z, A, rfl, rfl, hi, hi4, hz, HS⟩ := hrel
    obtain ⟨w0, hw0⟩ : ∃ x : World, x = wr := ⟨_, rfl⟩
    rw [← hw0] at HS ⊢
    clear hw0 HW0
    have HG0 := hid HS.out.1.2
    have k2 : w0.cell? ⟨p1, 2, none⟩ = some (.slice a n c) := (HB1.out.keep HG0.out).cell 2
    by_cases hlt : i < n
    · have hlt' : (i : Int) < (n : Int) := by omega
      by_cases h4 : i < 400
      · as_aux_lemma =>
        have h4' : (i : Int) < 400 := by omega
        obtain ⟨rfl, hgl, -⟩ := (HA.out w0 (gtrans HG1.out HG0.out)).at_ (by omega)
        obtain ⟨o, Ho⟩ : ∃ o, Hid (T i = o) := ⟨_, hid rfl⟩
        have HE : Hid (w0.rangeAt g (off + i * 8) o.cells ∧ o.In w0 F) := hid (by have := (HA.out w0 (gtrans HG1.out HG0.out)).each i hlt; rw [Ho.out] at this; exact this)
        have HOL : Hid (o.cells.length = 8) := hid rfl
        have HEw : Hid (o.In w F) := hid (by have := (HA.out w (grefl _ _)).each i hlt; rw [Ho.out] at this; exact this.2)
        clear Ho
        go_upto_region 10 with (first
          | (with_reducible refine wpList_load_part (by with_unfolding_all rfl) 36 _ (by with_unfolding_all rfl) g (off + i * 8) o.cells _ (by with_unfolding_all rfl) HE.out.1 Try.underlying36 (by with_unfolding_all rfl) (by with_unfolding_all exact Try.size36) ?_)
          | ((with_reducible refine wpList_store_all (by with_unfolding_all rfl) 36 _ _ (by with_unfolding_all rfl) _ [.int .i64 0, .int .i64 0, .string ⟨#[]⟩, .string ⟨#[]⟩, .slice none 0 0, .int .i64 0, .int .i64 0, .slice none 0 0] o.cells 36 (by with_unfolding_all rfl) (by with_unfolding_all rfl) HB2.out (by with_unfolding_all rfl) (by with_unfolding_all exact Try.size36) o.one ?_); intro w3 BB hg ss; have HB3' := hid BB; have HU3 := hid (HU2.out.andThen hg (fun j hj => .inl (by injection hj with hj; omega))); clear BB hg ss)
          | ((with_reducible refine wpList_alloc_row (by with_unfolding_all rfl) 36 (by with_unfolding_all rfl) [.int .i64 0, .int .i64 0, .string ⟨#[]⟩, .string ⟨#[]⟩, .slice none 0 0, .int .i64 0, .int .i64 0, .slice none 0 0] Try.zero36 ?_); intro w2 BB ss hg; have HB2 := hid BB; have HU2 := hid hg; clear BB ss hg))
        obtain ⟨p7, hp7⟩ : ∃ x, w0.heap.size = x := ⟨_, rfl⟩
        rw [hp7] at HB3' ⊢
        have HP7 : Hid (w0.heap.size = p7) := hid hp7
        clear hp7 HB2 HU2
        have HSz : Hid (Calls Try.prog 12 #[.agg o.cells.toArray] w3 fun e w' => (∃ z : Nat, e = .returned (.int .i64 z) ∧ o.bs.length ≤ z ∧ z ≤ 281474976710656) ∧ w3.grownBy w' none) := hid (opSize_any w3 o F (HE.out.2.keep HU3.out))
        go_upto_region 11 with (first
          | (with_reducible refine wpList_load_part (by with_unfolding_all rfl) 36 _ (by with_unfolding_all rfl) p7 0 o.cells _ (by with_unfolding_all rfl) HB3'.out.whole Try.underlying36 (by with_unfolding_all rfl) (by with_unfolding_all exact Try.size36) ?_)
          | (go_at_call 12; refine HSz.out.mono ?_; rintro e u3 ⟨⟨zz, rfl, hzb, hzl⟩, hg⟩; have HZb := hid hzb; have HU4 := hid hg; clear hg hzb))
        obtain ⟨y, hy⟩ : ∃ y : Nat, z + zz = y := ⟨_, rfl⟩
        have hwr : (z : Int) + (zz : Int) = (y : Int) := by omega
        have HLb : Hid (o.bs.length ≤ y) := hid (by have := HZb.out; omega)
        have hyl : y ≤ 562949953421312 := by omega
        rw [hwr]
        clear hwr hy HZb hzl
        by_cases hbr : 262144 < y
        · have hbr' : (262144 : Int) < (y : Int) := by omega
          as_aux_lemma =>
          have HDz := hid (HS.out.1.keep (gtrans HU3.out HU4.out)).1
          have HOk := hid HDz.out.1
          have HNd := hid HDz.out.nd
          have HRm : Hid (A.room = 1 + (rr : Int)) := hid (HS.out).2.2.2
          have HFz := hid (files_p HDz.out)
          have HLb0 : Hid (∀ (u : World) (Fr : Nat → Prop) (a : Option Addr) (fb fo fc : Nat), ArF u Fr a fb fo (srtC A.C) → Calls Try.prog 24 #[.slice a (srtC A.C).length fc, .int .i64 (1 + (rr : Int))] u fun e w' => ∃ bz, e = .returned (.tuple #[.pointer (some ⟨bz, 0, none⟩), .int .i64 0]) ∧ DkP w' u.heap.size bz ⟨1 + (rr : Int), false, 0, 0, 0, srtC A.C⟩ (fun k => u.heap.size ≤ k ∧ k < w'.heap.size) ∧ u.grownBy w' none) := hid (fun u Fr a fb fo fc h => by have q := load_back A HOk.out HNd.out u Fr a fb fo fc h; rw [HRm.out] at q; exact q)
          have HSS : Hid (srtC (srtC A.C) = srtC A.C) := hid (srt_ext (srt_names A.C) (fun s => get_srt HNd.out s))
          obtain ⟨Lz, HLz⟩ : ∃ x, Hid (srtC A.C = x) := ⟨_, hid rfl⟩
          have HLb1 : Hid (Lz.length ≤ 1000000 ∧ ∀ p ∈ Lz, p.2.length ≤ 140737488355328) := hid (by
            rw [← HLz.out]
            refine ⟨by rw [srtC_len]; have := HOk.out.len; omega, srt_le HNd.out ?_⟩
            have h1 := HOk.out.used
            have h2 := HOk.out.room.2
            omega)
          have HFw : Hid (∀ u, u3.grownBy u none → Calls Try.prog 13 #[.pointer (some ⟨b, 0, none⟩)] u fun e w' => (∃ a g c, e = .returned (.slice a Lz.length c) ∧ ArF w' (fun k => u3.heap.size ≤ k) a g 0 Lz) ∧ u.grownBy w' none) := hid (fun u hu => (files_p (HDz.out.keep hu)).mono fun e w' ⟨⟨ta, tg, tc, q1, q2⟩, q3⟩ => by
            rw [HLz.out] at q1 q2
            exact ⟨⟨ta, tg, tc, q1, q2.mono (fun k hk => Nat.le_trans hu.size hk.1)⟩, q3⟩)
          rw [HLz.out] at HFz HLb0 HSS
          obtain ⟨zn, HZn⟩ : ∃ x, Hid (Lz.length = x) := ⟨_, hid rfl⟩
          rw [HZn.out] at HFz HLb0 HFw
          go_upto_region 28 with (first
            | (go_at_call 24; (with_reducible refine (HLb0.out _ _ _ _ _ _ HZa.out).mono ?_); rintro e u14 ⟨bz, rfl, hd, hg⟩; have HBz := hid hd; have HU14 := hid hg; clear hd hg)
            | (go_at_call 13; refine HFz.out.mono ?_; rintro e u13 ⟨⟨za, zg, zc, rfl, hzA⟩, hg⟩; have HZa := hid hzA; have HU13 := hid hg; clear hzA hg))
          have HFy : Hid (∀ u, u14.grownBy u none → Calls Try.prog 13 #[.pointer (some ⟨bz, 0, none⟩)] u fun e w' => (∃ a g c, e = .returned (.slice a zn c) ∧ ArF w' (fun k => u3.heap.size ≤ k) a g 0 Lz) ∧ u.grownBy w' none) := hid (fun u hu => (files_p (HBz.out.keep hu)).mono fun e w' ⟨⟨ta, tg, tc, q1, q2⟩, q3⟩ => by
            simp only [HSS.out, HZn.out] at q1 q2
            exact ⟨⟨ta, tg, tc, q1, q2.mono (fun k hk => Nat.le_trans (gtrans (gtrans HU13.out HU14.out) hu).size hk.1)⟩, q3⟩)
          have HWy : Hid (∀ u, u14.grownBy u none → Calls Try.prog 14 #[.pointer (some ⟨bz, 0, none⟩)] u fun e w' => e = .returned (.int .i64 0) ∧ u.grownBy w' none) := hid (fun u hu => writes_p (HBz.out.keep hu))
          have HOy : Hid (∀ u, u14.grownBy u none → Calls Try.prog 16 #[.pointer (some ⟨bz, 0, none⟩)] u fun e w' => e = .returned (.bool false) ∧ u.grownBy w' none) := hid (fun u hu => off_p (HBz.out.keep hu))
          have HQy : Hid (∀ u a g c a' g' c', ArF u (fun k => u3.heap.size ≤ k) a g 0 Lz → ArF u (fun k => u3.heap.size ≤ k) a' g' 0 Lz → Calls Try.prog 17 #[.slice a zn c, .slice a' zn c'] u fun e w' => e = .returned (.bool true) ∧ u.grownBy w' none) := hid (fun u a g c a' g' c' h1 h2 => by
            have q := eqFiles_same u _ _ a a' g 0 c g' 0 c' Lz h1 h2 HLb1.out.1 HLb1.out.2
            rw [HZn.out] at q
            exact q)
          have HGz : Hid (w.grownBy u14 none) := hid (gtrans (gtrans HG1.out (gtrans HG0.out (gtrans HU3.out HU4.out))) (gtrans HU13.out HU14.out))
          have HG13 : Hid (u3.grownBy u14 none) := hid (gtrans HU13.out HU14.out)
          clear HLb0 HFz HZa HBz HU13 HU14 HDz HOk HNd HLz HRm
          go_wp2_with (first
            | (go_at_call 16; (with_reducible refine (HOy.out _ HG18.out).mono ?_); rintro e u19 ⟨rfl, hg⟩; have HG19 := hid (gtrans HG18.out hg); clear hg)
            | (go_at_call 14; (with_reducible refine (HWy.out _ HG17.out).mono ?_); rintro e u18 ⟨rfl, hg⟩; have HG18 := hid (gtrans HG17.out hg); clear hg)
            | (go_at_call 17; (with_reducible refine (HQy.out _ _ _ _ _ _ _ HY1'.out HY2.out).mono ?_); rintro e u17 ⟨rfl, hg⟩; have HG17 := hid (gtrans HG16.out hg); clear hg)
            | (go_at_call 13; (with_reducible refine (HFw.out _ (gtrans HG13.out HG15.out)).mono ?_); rintro e u16 ⟨⟨y2, y2g, y2c, rfl, hy⟩, hg⟩; have HY2 := hid hy; have HY1' := hid (HY1.out.keep hg); have HG16 := hid (gtrans HG15.out hg); clear hy hg)
            | (go_at_call 13; (with_reducible refine (HFy.out _ (grefl _ _)).mono ?_); rintro e u15 ⟨⟨y1, y1g, y1c, rfl, hy⟩, hg⟩; have HY1 := hid hy; have HG15 := hid hg; clear hy hg)
            | (go_at_call 9; (with_reducible refine (HNu.out _ _).mono ?_); rintro e w3' ⟨rfl, hw3⟩; have hw3' := hw3.symm; clear hw3; subst hw3'))
          go_ret
          exact ⟨rfl, gtrans HGz.out HG19.out⟩
        have hbr' : ¬ (262144 : Int) < (y : Int) := by omega
        have HT3 := hid (gtrans HU3.out HU4.out)
        have HDu := hid (HS.out.1.1.keep HT3.out)
        have HFl1 := hid (files_p HDu.out)
        obtain ⟨L, HL⟩ : ∃ x, Hid (srtC A.C = x) := ⟨_, hid rfl⟩
        rw [HL.out] at HFl1
        obtain ⟨sn, HSn⟩ : ∃ x, Hid (L.length = x) := ⟨_, hid rfl⟩
        rw [HSn.out] at HFl1
        go_upto_region 13 with (go_at_call 13; refine HFl1.out.mono ?_; rintro e u4 ⟨⟨sa, sg, sc, rfl, hsA⟩, hg⟩; have HWs := hid hsA; have HU5 := hid hg; clear hsA hg)
        have HDo := hid (do_any (HDu.out.keep HU5.out) (fun k hk => by have := HT3.out.size; have := HU5.out.size; omega) o F (HE.out.2.keep (gtrans HT3.out HU5.out)) (by have := HLb.out; omega) (by have := HS.out.2.2.1; omega))
        obtain ⟨E, HEE⟩ : ∃ x, Hid (A.doE o = x) := ⟨_, hid rfl⟩
        obtain ⟨A', HA'⟩ : ∃ x, Hid (A.doA o = x) := ⟨_, hid rfl⟩
        obtain ⟨D, hD⟩ : ∃ x, o.isDo = x := ⟨_, rfl⟩
        rw [HEE.out, HA'.out, hD] at HDo
        have HB5 := hid ((HB3'.out.keep HU4.out).keep HU5.out)
        go_upto_region 14 with (first
          | (with_reducible refine wpList_load_part (by with_unfolding_all rfl) 36 _ (by with_unfolding_all rfl) p7 0 o.cells _ (by with_unfolding_all rfl) HB5.out.whole Try.underlying36 (by with_unfolding_all rfl) (by with_unfolding_all exact Try.size36) ?_)
          | (go_at_call 15; refine HDo.out.mono ?_; rintro e w4 ⟨rfl, hd, hf⟩; have HD4 := hid hd; have HF4 := hid hf; clear hd hf))
        have HB4 := hid (Blk.df HB5.out HF4.out (fun q => by have := HP7.out; have := q.2; omega))
        have HWs4 : Hid (ArF w4 (fun k => u3.heap.size ≤ k) sa sg 0 L) := hid ((HWs.out.df HF4.out (fun k hk hp => by have := HT3.out.size; have := hk.1; have := hp.2; omega)).mono (fun k hk => hk.1))
        have HW4 : Hid (Wd w1 w4 b A') := hid ⟨HD4.out.mono (fun k h1 h2 _ => ⟨h1, h2⟩), ((DF.of (gtrans HG0.out (gtrans HT3.out HU5.out)) (P := fun k => w1.heap.size ≤ k)).trans HF4.out (fun _ _ q => q.1)).grown (fun _ q => q)⟩
        have HCa : Hid (A'.calm ∧ A'.wr ≤ ((i + 1 : Nat) : Int) ∧ A'.room = 1 + (rr : Int)) := hid (by
          have q := Ab.calm.doA (o := o) HS.out.2.1
          rw [HA'.out] at q
          refine ⟨q.1, ?_, q.2.2.2.trans HS.out.2.2.2⟩
          have := HS.out.2.2.1
          have := q.2.2.1
          omega)
        have HRel : Hid (∀ u, w4.grownBy u none → Hid (Wd w1 u b A' ∧ A'.calm ∧ A'.wr ≤ ((i + 1 : Nat) : Int) ∧ A'.room = 1 + (rr : Int))) := hid (fun u hu => hid ⟨HW4.out.keep hu, HCa.out⟩)
        clear HDo HB5 HFl1 HWs HSz HB3' hD
        cases D with
        | false =>
          as_aux_lemma =>
          go_wp2_with fail
          go_roundw
          case rel => exact ⟨i + 1, y, A', by go_num, rfl, by omega, by omega, by omega, HRel.out w4 (grefl _ _)⟩
          case measure => simp [intOf]; omega
        | true =>
          have HNu' : Hid (∀ u, Calls Try.prog 9 #[.int .i64 E] u fun e w' => ∃ v, e = .returned v ∧ u.grownBy w' none ∧ v = Value.int .i64 E) := hid (fun u => (HNu.out E u).mono fun e w' ⟨q1, q2⟩ => ⟨_, q1, by rw [q2]; exact grefl _ _, rfl⟩)
          have HNdA := hid HS.out.1.1.nd
          have HNdB := hid HD4.out.nd
          have HOkA := hid HS.out.1.1.1
          have HOkB := hid HD4.out.1
          obtain ⟨M, HM⟩ : ∃ x, Hid (srtC A'.C = x) := ⟨_, hid rfl⟩
          obtain ⟨tn, HTn⟩ : ∃ x, Hid (M.length = x) := ⟨_, hid rfl⟩
          obtain ⟨us, HUs⟩ : ∃ x, Hid (usedC L = x) := ⟨_, hid rfl⟩
          obtain ⟨um, HUm⟩ : ∃ x, Hid (usedC M = x) := ⟨_, hid rfl⟩
          have HLL : Hid (sn ≤ 64 ∧ us ≤ 1 + rr ∧ ∀ p ∈ L, p.2.length ≤ 140737488355328) := hid (by
            have h1 := HOkA.out.len
            have h2 := HOkA.out.used
            have h3 := HS.out.2.2.2
            have h4 : us = usedC A.C := by rw [← HUs.out, ← HL.out, used_srt HNdA.out]
            refine ⟨by rw [← HSn.out, ← HL.out, srtC_len]; exact h1, by omega, ?_⟩
            rw [← HL.out]
            exact srt_le HNdA.out (by omega))
          have HMM : Hid (tn ≤ 64 ∧ um ≤ 1 + rr ∧ ∀ p ∈ M, p.2.length ≤ 140737488355328) := hid (by
            have h1 := HOkB.out.len
            have h2 := HOkB.out.used
            have h3 := HCa.out.2.2
            have h4 : um = usedC A'.C := by rw [← HUm.out, ← HM.out, used_srt HNdB.out]
            refine ⟨by rw [← HTn.out, ← HM.out, srtC_len]; exact h1, by omega, ?_⟩
            rw [← HM.out]
            exact srt_le HNdB.out (by omega))
          have HLu : Hid (usedC L = us) := hid HUs.out
          have HF2 := hid (files_p HD4.out)
          rw [HM.out, HTn.out] at HF2
          go_upto_region 16 with (go_at_call 13; refine HF2.out.mono ?_; rintro e u5 ⟨⟨ta, tg, tc, rfl, hsB⟩, hg⟩; have HMs := hid (hsB.mono (fun k hk => hk.1)); have HG5 := hid hg; clear hsB hg)
          have HLs5 := hid (HWs4.out.keep HG5.out)
          have HEq : Hid (E ≠ 0 → ∀ u, u5.grownBy u none → Calls Try.prog 17 #[.slice sa sn sc, .slice ta tn tc] u fun e w' => e = .returned (.bool true) ∧ u.grownBy w' none) := hid (fun hE u hu => by
            have hML : M = L := by rw [← HM.out, ← HL.out, ← HA'.out, doA_no HS.out.2.1 (by rw [HEE.out]; exact hE)]
            have hB := HMs.out.keep hu
            rw [hML] at hB
            have q := eqFiles_same u _ _ sa ta sg 0 sc tg 0 tc L (HLs5.out.keep hu) hB (by rw [HSn.out]; have := HLL.out.1; omega) HLL.out.2.2
            rw [HSn.out] at q
            have ht : tn = sn := by rw [← HTn.out, ← HSn.out, hML]
            rw [ht]
            exact q)
          have HFo : Hid (Calls Try.prog 20 #[.slice sa sn sc, .string o.nm] u5 fun e w' => w' = u5 ∧ ∃ v, e = .returned (.tuple #[v, .bool (getC L o.nm).isSome]) ∧ Rd u5 (fun k => u3.heap.size ≤ k) v ((getC L o.nm).getD [])) := hid (by
            have q := file_any u5 (fun k => u3.heap.size ≤ k) sa sg 0 sc L o.nm HLs5.out (by rw [HSn.out]; have := HLL.out.1; omega)
            rw [HSn.out] at q
            exact q)
          have HFn : Hid (∀ u, u5.grownBy u none → Calls Try.prog 20 #[.slice ta tn tc, .string o.nm] u fun e w' => w' = u ∧ ∃ v, e = .returned (.tuple #[v, .bool (getC M o.nm).isSome]) ∧ Rd u (fun k => w4.heap.size ≤ k) v ((getC M o.nm).getD [])) := hid (fun u hu => by
            have q := file_any u (fun k => w4.heap.size ≤ k) ta tg 0 tc M o.nm (HMs.out.keep hu) (by rw [HTn.out]; have := HMM.out.1; omega)
            rw [HTn.out] at q
            exact q)
          have HOt : Hid (o.dv = 1 → E = 0 → (getC M o.nm) = some ((getC L o.nm).getD [] ++ o.bs) ∧ ∀ u, u5.grownBy u none → Calls Try.prog 21 #[.slice sa sn sc, .slice ta tn tc, .string o.nm] u fun e w' => e = .returned (.bool true) ∧ u.grownBy w' none) := hid (fun hd hE => by
            have hA : A' = A.app o.nm o.bs := by rw [← HA'.out]; unfold Ab.doA; rw [if_pos hd]
            have hz : A.appE o.nm o.bs = 0 := by rw [← hE, ← HEE.out]; unfold Ab.doE; rw [if_pos hd]
            have hC := app_zero HS.out.2.1 (s := o.nm) (l := o.bs) (by have := HLb.out; omega) hz
            rw [← hA] at hC
            have hnB := HNdB.out
            rw [hC] at hnB
            have q := app_others HNdA.out hnB
            rw [← hC, HL.out, HM.out] at q
            refine ⟨?_, fun u hu => ?_⟩
            · rw [← HM.out, ← HL.out, get_srt HNdB.out, get_srt HNdA.out, hC, get_set, if_pos rfl]
            · have q2 := others_true u _ _ sa ta sg 0 sc tg 0 tc L M o.nm (HLs5.out.keep hu) (HMs.out.keep hu) (by rw [HSn.out]; have := HLL.out.1; omega) (by rw [HTn.out]; have := HMM.out.1; omega) q.1 q.2
              rw [HSn.out, HTn.out] at q2
              exact q2)
          have HSm : Hid (∀ u, u5.grownBy u none → Calls Try.prog 22 #[.slice sa sn sc] u fun e w' => ∃ v, e = .returned v ∧ u.grownBy w' none ∧ v = Value.int .i64 (us : Nat)) := hid (fun u hu => by
            have q := sum_any u _ sa sg 0 sc L (HLs5.out.keep hu) (by rw [HSn.out]; have := HLL.out.1; omega) (by rw [HUs.out]; have := HLL.out.2.1; omega)
            rw [HSn.out, HUs.out] at q
            exact q.mono fun e w' ⟨q1, q2⟩ => ⟨_, q1, by rw [q2]; exact grefl _ _, rfl⟩)
          have HSM : Hid (∀ u, u5.grownBy u none → Calls Try.prog 22 #[.slice ta tn tc] u fun e w' => e = .returned (.int .i64 (um : Nat)) ∧ u.grownBy w' none) := hid (fun u hu => by
            have q := sum_any u _ ta tg 0 tc M (HMs.out.keep hu) (by rw [HTn.out]; have := HMM.out.1; omega) (by rw [HUm.out]; have := HMM.out.2.1; omega)
            rw [HTn.out, HUm.out] at q
            exact q.mono fun e w' ⟨q1, q2⟩ => ⟨q1, by rw [q2]; exact grefl _ _⟩)
          have HTl : Hid (∀ u, u5.grownBy u none → Calls Try.prog 23 #[.pointer (some ⟨b, 0, none⟩), .slice ta tn tc] u fun e w' => e = .returned (.bool true) ∧ u.grownBy w' none) := hid (fun u hu => by
            have hB := HMs.out.keep hu
            rw [← HM.out] at hB
            have q := tells_true ((HD4.out.keep HG5.out).keep hu) HCa.out.1 _ ta tg 0 tc hB
            rw [HM.out, HTn.out] at q
            exact q)
          have HFu : Hid (E = 93 → ¬ (((getC L o.nm).isSome = true ∨ sn < 64) ∧ us + o.bn ≤ 1 + rr)) := hid (fun hE h => by
            refine full_no HS.out.2.1 (o := o) (by rw [HEE.out]; exact hE) ⟨?_, ?_⟩
            · rw [← HL.out, get_srt HNdA.out] at h
              rw [← HSn.out, ← HL.out, srtC_len] at h
              exact h.1
            · have h2 := h.2
              have h3 := HS.out.2.2.2
              have h4 : us = usedC A.C := by rw [← HUs.out, ← HL.out, used_srt HNdA.out]
              have h5 : o.bs.length = o.bn := by obtain ⟨_, _, _, _, e, _⟩ := HE.out.2.b; injection e with _ e _; exact e.symm
              omega)
          have HBn : Hid (o.bn ≤ 562949953421312) := hid (by
            have h5 : o.bs.length = o.bn := by obtain ⟨_, _, _, _, e, _⟩ := HE.out.2.b; injection e with _ e _; exact e.symm
            have := HLb.out
            omega)
          have HK : Hid (∀ u, u5.grownBy u none → Blk u p7 o.cells 36) := hid (fun u hu => (HB4.out.keep HG5.out).keep hu)
          have HK4 : Hid (∀ u, u5.grownBy u none → u.cell? ⟨p7, 4, none⟩ = some (.slice o.ba o.bn o.bc)) := hid (fun u hu => (HK.out u hu).cell 4)
          have HK0 : Hid (∀ u, u5.grownBy u none → u.cell? ⟨p7, 0, none⟩ = some (.int .i64 o.dv)) := hid (fun u hu => (HK.out u hu).cell 0)
          have k0 : u5.cell? ⟨p7, 0, none⟩ = some (.int .i64 o.dv) := (HK.out u5 (grefl _ _)).cell 0
          have k2 : u5.cell? ⟨p7, 2, none⟩ = some (.string o.nm) := (HK.out u5 (grefl _ _)).cell 2
          have HRb : Hid (∀ u, u5.grownBy u none → Rd u F (.slice o.ba o.bn o.bc) o.bs) := hid (fun u hu => (HEw.out.keep (gtrans HG1.out (gtrans HW4.out.2 (gtrans HG5.out hu)))).b)
          clear HEE HA' HL HM HTn HSn HW4 HCa HD4 HF4 HWs4 HS HE HF2 HDu HUs HUm HNdA HNdB HOkA HOkB HB4
          obtain ⟨D1, hD1⟩ : ∃ x, (getC L o.nm).isSome = x := ⟨_, rfl⟩
          obtain ⟨ol, hol⟩ : ∃ x, (getC L o.nm).getD [] = x := ⟨_, rfl⟩
          rw [hD1, hol] at HFo
          rw [hD1] at HFu
          rw [hol] at HOt
          have HOm : Hid (ol.length ≤ 140737488355328) := hid (by
            rw [← hol]
            have h1 := get_used L o.nm
            have h2 := HLu.out
            have h3 := HLL.out.2.1
            omega)
          clear hD1 hol HLu
          go_upto_region 17 with (go_at_call 20; (with_reducible refine HFo.out.mono ?_); rintro e w9 ⟨hw9, v9, rfl, hv9⟩; have hw9' := hw9.symm; clear hw9; subst hw9'; obtain ⟨oa, og, oo, oc, rfl, hv9'⟩ := hv9)
          have hm1 : ¬ (64 : Int) < (tn : Int) := by have := HMM.out.1; omega
          have hm2 : ¬ (1 + (rr : Int)) < (um : Int) := by have := HMM.out.2.1; omega
          obtain ⟨odv, hodv⟩ : ∃ x, o.dv = x := ⟨_, rfl⟩
          rw [hodv] at k0 HOt HK0
          obtain ⟨onm, honm⟩ : ∃ x, o.nm = x := ⟨_, rfl⟩
          rw [honm] at k2 HOt HFn
          obtain ⟨oln, holn⟩ : ∃ x, ol.length = x := ⟨_, rfl⟩
          have HVo : Hid (Rd u5 (fun k => u3.heap.size ≤ k) (.slice oa oln oc) ol) := hid (by rw [← holn]; exact ⟨oa, og, oo, oc, rfl, hv9'⟩)
          rw [holn]
          have HOl : Hid (ol.length = oln) := hid holn
          clear hodv holn hv9' HFo
          by_cases hE0 : E = 0
          · subst hE0
            have HX : Hid (u5.grownBy u5 none) := hid (grefl _ _)
            have HZ3 : Hid (∀ (x y : Operand) (u : World), (do eqGuard .eql 3 x y (.int .i64 0) (.int .i64 93); binOp .eql 3 (.int .i64 0) (.int .i64 93) : Sem Value).run Try.prog u = .ok (.bool false) u) := hid (fun x y u => by go_simp)
            by_cases hdv : odv = 1
            · as_aux_lemma =>
              have HOt' := hid (HOt.out hdv rfl)
              subst hdv
              obtain ⟨nl, HNl⟩ : ∃ x, Hid (ol ++ o.bs = x) := ⟨_, hid rfl⟩
              rw [HNl.out] at HOt'
              have HFn' := hid (HFn.out u5 (grefl _ _))
              rw [HOt'.out.1] at HFn'
              simp only [Option.isSome_some, Option.getD_some] at HFn'
              have HOo := hid (HOt'.out.2 u5 (grefl _ _))
              clear HOt HFn HEq HFu HOt' HX
              go_upto_region 21 with (first
                | (go_at_call 20; (with_reducible refine HFn'.out.mono ?_); rintro e w9' ⟨hw9, v9', rfl, hv9⟩; have hw9' := hw9.symm; clear hw9; subst hw9'; obtain ⟨na, ng, no, nc, rfl, hvn⟩ := hv9)
                | (go_at_call 9; (with_reducible refine (HNu.out _ _).mono ?_); rintro e w9' ⟨rfl, hw9⟩; have hw9' := hw9.symm; clear hw9; subst hw9'))
              obtain ⟨nn, hnn⟩ : ∃ x, nl.length = x := ⟨_, rfl⟩
              have HVn : Hid (Rd u5 (fun k => w4.heap.size ≤ k) (.slice na nl.length nc) nl) := hid ⟨na, ng, no, nc, rfl, hvn⟩
              rw [hnn] at HVn ⊢
              clear hnn hvn HFn'
              obtain ⟨So, HSo⟩ : ∃ x : ByteArray, Hid ((⟨ol.toArray⟩ : ByteArray) = x) := ⟨_, hid rfl⟩
              obtain ⟨Sb, HSb⟩ : ∃ x : ByteArray, Hid ((⟨o.bs.toArray⟩ : ByteArray) = x) := ⟨_, hid rfl⟩
              have cvo : (convert 33 9 (.slice oa oln oc)).run Try.prog u5 = .ok (.string So) u5 := by rw [← HSo.out]; exact HVo.out.convert
              have cvb : (convert 33 9 (.slice o.ba o.bn o.bc)).run Try.prog u5 = .ok (.string Sb) u5 := by rw [← HSb.out]; exact (HRb.out u5 (grefl _ _)).convert
              have cvn : (convert 33 9 (.slice na nn nc)).run Try.prog u5 = .ok (.string (So ++ Sb)) u5 := by
                have q := HVn.out.convert
                have e : (⟨nl.toArray⟩ : ByteArray) = So ++ Sb := by
                  rw [← HNl.out, ← HSo.out, ← HSb.out]
                  apply ByteArray.ext
                  simp [ByteArray.data_append]
                rw [e] at q
                exact q
              have hsz : ¬ (9223372036854775807 < So.size + Sb.size) := by
                have h1 : So.size = ol.length := by rw [← HSo.out]; show ol.toArray.size = _; simp
                have h2 : Sb.size = o.bs.length := by rw [← HSb.out]; show o.bs.toArray.size = _; simp
                have h3 := HOl.out
                have h4 := HLb.out
                have h5 := HOm.out
                omega
              have hsq : ((So ++ Sb).toList == (So ++ Sb).toList) = true := by simp
              have k4 : u5.cell? ⟨p7, 4, none⟩ = some (.slice o.ba o.bn o.bc) := HK4.out u5 (grefl _ _)
              go_upto_region 23 with (go_at_call 21; (with_reducible refine HOo.out.mono ?_); rintro e u6 ⟨rfl, hg⟩; have HX := hid hg; clear hg)
              clear k0 k2 k4 honm cvo cvb cvn hsz hsq HOo HVn HNl HSo HSb
              refine wp_region_listX (by kernel_rfl) [fun v _ => v = (Value.int .i64 0), fun v _ => v = Value.int .i64 0, fun v _ => v = (Value.bool false), fun v _ => v = (Value.bool false), fun v _ => v = undef, fun v _ => v = undef, fun v _ => v = undef, fun v _ => v = undef, fun v _ => v = undef, fun v _ => v = undef, fun v _ => v = undef, fun v _ => v = undef, fun v _ => v = (Value.bool false), fun v _ => v = (Value.bool false), fun v _ => v = undef, fun v _ => v = undef, fun v _ => v = undef, fun v _ => v = undef, fun v _ => v = undef, fun v _ => v = undef, fun v _ => v = (Value.bool false)] (none) (fun _ => none) 21 (by kernel_rfl) (by kernel_rfl) (by kernel_rfl) (by kernel_rfl) (by decide) noRow_one (fun _ => .inl rfl) ⟨fun i v u u' hki h hg => h, fun i v u u' hki h hg => h, fun i v u u' hki h hg => h, fun i v u u' hki h hg => h, fun i v u u' hki h hg => h, fun i v u u' hki h hg => h, fun i v u u' hki h hg => h, fun i v u u' hki h hg => h, fun i v u u' hki h hg => h, fun i v u u' hki h hg => h, fun i v u u' hki h hg => h, fun i v u u' hki h hg => h, fun i v u u' hki h hg => h, fun i v u u' hki h hg => h, fun i v u u' hki h hg => h, fun i v u u' hki h hg => h, fun i v u u' hki h hg => h, fun i v u u' hki h hg => h, fun i v u u' hki h hg => h, fun i v u u' hki h hg => h, fun i v u u' hki h hg => h, trivial⟩ ⟨?_, ?_, ?_, ?_, ?_, ?_, ?_, ?_, ?_, ?_, ?_, ?_, ?_, ?_, ?_, ?_, ?_, ?_, ?_, ?_, ?_, trivial⟩ ?_
              · intro A u hu hpu hsz hout hdeps
                have e10 : A.eval (.tmp 10) = (.int .i64 0) := (hout 10 (by kernel_rfl)).trans rfl
                refine ifw_none rfl ?_
                with_reducible refine shown_q (Value.int .i64 0) ?qq_5_0 (fun _ _ => ?qr_5_0)
                case qr_5_0 => exact (rfl : (Value.int .i64 0) = (Value.int .i64 0))
                with_reducible refine quietAt_mv (.tmp 10) (Value.int .i64 0) ?h0_5_0 ?h1_5_0
                case h0_5_0 => rfl
                case h1_5_0 => exact e10
              · intro A u hu hpu hsz hout hdeps
                have e126 : A.eval (.tmp 126) = (.int .i64 0) := by have h := depL hdeps 0 (by kernel_rfl) 126 (by kernel_rfl); exact h
                refine ifw_none rfl ?_
                with_reducible refine shown_call 9 Try.f9 ?h0_5_1 ?h1_5_1 ?h2_5_1 #[.tmp 126] #[27] ?h3_5_1 #[(Value.int .i64 0)] ?h4_5_1 ?h5_5_1
                case h0_5_1 => exact Try.func9
                case h1_5_1 => kernel_rfl
                case h2_5_1 => kernel_rfl
                case h3_5_1 => rfl
                case h4_5_1 => exact map1 _ _ _ e126
                case h5_5_1 => exact HNu'.out u
              · intro A u hu hpu hsz hout hdeps
                have f127 : (fun v _ => v = Value.int .i64 0) (A.eval (.tmp 127)) u := by have h := depL hdeps 1 (by kernel_rfl) 127 (by kernel_rfl); exact h
                have e127 := (f127 : _ = Value.int .i64 0)
                refine ifw_none rfl ?_
                with_reducible refine shown_q (Value.bool false) ?qq_5_2 (fun _ _ => ?qr_5_2)
                case qr_5_2 => exact (rfl : (Value.bool false) = (Value.bool false))
                with_reducible refine quietAt_bin .eql 3 (.tmp 127) (.const (.int .i64 93)) 3 (Value.int .i64 0) (Value.int .i64 93) (Value.bool false) ?h0_5_2 ?h1_5_2 ?h2_5_2 ?h3_5_2
                case h0_5_2 => rfl
                case h1_5_2 => exact e127
                case h2_5_2 => exact rfl
                case h3_5_2 => exact HZ3.out _ _ u
              · intro A u hu hpu hsz hout hdeps
                have e128 : A.eval (.tmp 128) = (.bool false) := by have h := depL hdeps 2 (by kernel_rfl) 128 (by kernel_rfl); exact h
                refine ifw_none rfl ?_
                with_reducible refine shown_q (Value.bool false) ?qq_5_3 (fun _ _ => ?qr_5_3)
                case qr_5_3 => exact (rfl : (Value.bool false) = (Value.bool false))
                with_reducible refine quietAt_mv (.tmp 128) (Value.bool false) ?h0_5_3 ?h1_5_3
                case h0_5_3 => rfl
                case h1_5_3 => exact e128
              · intro A u hu hpu hsz hout hdeps
                have e129 : A.eval (.tmp 129) = (.bool false) := by have h := depL hdeps 3 (by kernel_rfl) 129 (by kernel_rfl); exact h
                refine ifw_pass 3 true false 129 rfl rfl e129 (by decide) ?_
                exact rfl
              · intro A u hu hpu hsz hout hdeps
                have e129 : A.eval (.tmp 129) = (.bool false) := by have h := depL hdeps 3 (by kernel_rfl) 129 (by kernel_rfl); exact h
                refine ifw_pass 3 true false 129 rfl rfl e129 (by decide) ?_
                exact rfl
              · intro A u hu hpu hsz hout hdeps
                have e129 : A.eval (.tmp 129) = (.bool false) := by have h := depL hdeps 3 (by kernel_rfl) 129 (by kernel_rfl); exact h
                refine ifw_pass 3 true false 129 rfl rfl e129 (by decide) ?_
                exact rfl
              · intro A u hu hpu hsz hout hdeps
                have e129 : A.eval (.tmp 129) = (.bool false) := by have h := depL hdeps 3 (by kernel_rfl) 129 (by kernel_rfl); exact h
                refine ifw_pass 3 true false 129 rfl rfl e129 (by decide) ?_
                exact rfl
              · intro A u hu hpu hsz hout hdeps
                have e129 : A.eval (.tmp 129) = (.bool false) := by have h := depL hdeps 3 (by kernel_rfl) 129 (by kernel_rfl); exact h
                refine ifw_pass 3 true false 129 rfl rfl e129 (by decide) ?_
                exact rfl
              · intro A u hu hpu hsz hout hdeps
                have e129 : A.eval (.tmp 129) = (.bool false) := by have h := depL hdeps 3 (by kernel_rfl) 129 (by kernel_rfl); exact h
                refine ifw_pass 3 true false 129 rfl rfl e129 (by decide) ?_
                exact rfl
              · intro A u hu hpu hsz hout hdeps
                have e129 : A.eval (.tmp 129) = (.bool false) := by have h := depL hdeps 3 (by kernel_rfl) 129 (by kernel_rfl); exact h
                refine ifw_pass 3 true false 129 rfl rfl e129 (by decide) ?_
                exact rfl
              · intro A u hu hpu hsz hout hdeps
                have e129 : A.eval (.tmp 129) = (.bool false) := by have h := depL hdeps 3 (by kernel_rfl) 129 (by kernel_rfl); exact h
                refine ifw_pass 3 true false 129 rfl rfl e129 (by decide) ?_
                exact rfl
              · intro A u hu hpu hsz hout hdeps
                have e129 : A.eval (.tmp 129) = (.bool false) := by have h := depL hdeps 3 (by kernel_rfl) 129 (by kernel_rfl); exact h
                refine ifw_none rfl ?_
                with_reducible refine shown_q (Value.bool false) ?qq_5_12 (fun _ _ => ?qr_5_12)
                case qr_5_12 => exact (rfl : (Value.bool false) = (Value.bool false))
                with_reducible refine quietAt_pick (.tmp 129) (.tmp 137) (.const (.bool false)) false (Value.bool false) ?h0_5_12 ?h1_5_12 ?h2_5_12
                case h0_5_12 => rfl
                case h1_5_12 => exact e129
                case h2_5_12 => rw [if_neg (by decide)]; exact rfl
              · intro A u hu hpu hsz hout hdeps
                have e138 : A.eval (.tmp 138) = (.bool false) := by have h := depL hdeps 12 (by kernel_rfl) 138 (by kernel_rfl); exact h
                refine ifw_none rfl ?_
                with_reducible refine shown_q (Value.bool false) ?qq_5_13 (fun _ _ => ?qr_5_13)
                case qr_5_13 => exact (rfl : (Value.bool false) = (Value.bool false))
                with_reducible refine quietAt_mv (.tmp 138) (Value.bool false) ?h0_5_13 ?h1_5_13
                case h0_5_13 => rfl
                case h1_5_13 => exact e138
              · intro A u hu hpu hsz hout hdeps
                have e139 : A.eval (.tmp 139) = (.bool false) := by have h := depL hdeps 13 (by kernel_rfl) 139 (by kernel_rfl); exact h
                refine ifw_pass 13 true false 139 rfl rfl e139 (by decide) ?_
                exact rfl
              · intro A u hu hpu hsz hout hdeps
                have e139 : A.eval (.tmp 139) = (.bool false) := by have h := depL hdeps 13 (by kernel_rfl) 139 (by kernel_rfl); exact h
                refine ifw_pass 13 true false 139 rfl rfl e139 (by decide) ?_
                exact rfl
              · intro A u hu hpu hsz hout hdeps
                have e141 : A.eval (.tmp 141) = undef := by have h := depL hdeps 15 (by kernel_rfl) 141 (by kernel_rfl); exact h
                refine ifw_undef 15 false 141 rfl rfl e141 ?_
                exact rfl
              · intro A u hu hpu hsz hout hdeps
                have e141 : A.eval (.tmp 141) = undef := by have h := depL hdeps 15 (by kernel_rfl) 141 (by kernel_rfl); exact h
                refine ifw_undef 15 false 141 rfl rfl e141 ?_
                exact rfl
              · intro A u hu hpu hsz hout hdeps
                have e141 : A.eval (.tmp 141) = undef := by have h := depL hdeps 15 (by kernel_rfl) 141 (by kernel_rfl); exact h
                refine ifw_undef 15 false 141 rfl rfl e141 ?_
                exact rfl
              · intro A u hu hpu hsz hout hdeps
                have e139 : A.eval (.tmp 139) = (.bool false) := by have h := depL hdeps 13 (by kernel_rfl) 139 (by kernel_rfl); exact h
                refine ifw_pass 13 true false 139 rfl rfl e139 (by decide) ?_
                exact rfl
              · intro A u hu hpu hsz hout hdeps
                have e139 : A.eval (.tmp 139) = (.bool false) := by have h := depL hdeps 13 (by kernel_rfl) 139 (by kernel_rfl); exact h
                refine ifw_none rfl ?_
                with_reducible refine shown_q (Value.bool false) ?qq_5_20 (fun _ _ => ?qr_5_20)
                case qr_5_20 => exact (rfl : (Value.bool false) = (Value.bool false))
                with_reducible refine quietAt_pick (.tmp 139) (.tmp 145) (.const (.bool false)) false (Value.bool false) ?h0_5_20 ?h1_5_20 ?h2_5_20
                case h0_5_20 => rfl
                case h1_5_20 => exact e139
                case h2_5_20 => rw [if_neg (by decide)]; exact rfl
              · intro A u8 listed hh hall
                have hA := hh.frame
                have HU := hid hh.grown
                obtain ⟨x126, hx126⟩ : ∃ x, A.eval (.tmp 126) = x := ⟨_, rfl⟩
                have f126 : (fun v _ => v = (Value.int .i64 0)) x126 u8 := by rw [← hx126]; exact hh.got 0 _ 126 rfl rfl (hall 0 (by decide))
                obtain ⟨x127, hx127⟩ : ∃ x, A.eval (.tmp 127) = x := ⟨_, rfl⟩
                have f127 : (fun v _ => v = Value.int .i64 0) x127 u8 := by rw [← hx127]; exact hh.got 1 _ 127 rfl rfl (hall 1 (by decide))
                obtain ⟨x128, hx128⟩ : ∃ x, A.eval (.tmp 128) = x := ⟨_, rfl⟩
                have f128 : (fun v _ => v = (Value.bool false)) x128 u8 := by rw [← hx128]; exact hh.got 2 _ 128 rfl rfl (hall 2 (by decide))
                obtain ⟨x129, hx129⟩ : ∃ x, A.eval (.tmp 129) = x := ⟨_, rfl⟩
                have f129 : (fun v _ => v = (Value.bool false)) x129 u8 := by rw [← hx129]; exact hh.got 3 _ 129 rfl rfl (hall 3 (by decide))
                obtain ⟨x130, hx130⟩ : ∃ x, A.eval (.tmp 130) = x := ⟨_, rfl⟩
                have f130 : (fun v _ => v = undef) x130 u8 := by rw [← hx130]; exact hh.got 4 _ 130 rfl rfl (hall 4 (by decide))
                obtain ⟨x131, hx131⟩ : ∃ x, A.eval (.tmp 131) = x := ⟨_, rfl⟩
                have f131 : (fun v _ => v = undef) x131 u8 := by rw [← hx131]; exact hh.got 5 _ 131 rfl rfl (hall 5 (by decide))
                obtain ⟨x132, hx132⟩ : ∃ x, A.eval (.tmp 132) = x := ⟨_, rfl⟩
                have f132 : (fun v _ => v = undef) x132 u8 := by rw [← hx132]; exact hh.got 6 _ 132 rfl rfl (hall 6 (by decide))
                obtain ⟨x133, hx133⟩ : ∃ x, A.eval (.tmp 133) = x := ⟨_, rfl⟩
                have f133 : (fun v _ => v = undef) x133 u8 := by rw [← hx133]; exact hh.got 7 _ 133 rfl rfl (hall 7 (by decide))
                obtain ⟨x134, hx134⟩ : ∃ x, A.eval (.tmp 134) = x := ⟨_, rfl⟩
                have f134 : (fun v _ => v = undef) x134 u8 := by rw [← hx134]; exact hh.got 8 _ 134 rfl rfl (hall 8 (by decide))
                obtain ⟨x135, hx135⟩ : ∃ x, A.eval (.tmp 135) = x := ⟨_, rfl⟩
                have f135 : (fun v _ => v = undef) x135 u8 := by rw [← hx135]; exact hh.got 9 _ 135 rfl rfl (hall 9 (by decide))
                obtain ⟨x136, hx136⟩ : ∃ x, A.eval (.tmp 136) = x := ⟨_, rfl⟩
                have f136 : (fun v _ => v = undef) x136 u8 := by rw [← hx136]; exact hh.got 10 _ 136 rfl rfl (hall 10 (by decide))
                obtain ⟨x137, hx137⟩ : ∃ x, A.eval (.tmp 137) = x := ⟨_, rfl⟩
                have f137 : (fun v _ => v = undef) x137 u8 := by rw [← hx137]; exact hh.got 11 _ 137 rfl rfl (hall 11 (by decide))
                obtain ⟨x138, hx138⟩ : ∃ x, A.eval (.tmp 138) = x := ⟨_, rfl⟩
                have f138 : (fun v _ => v = (Value.bool false)) x138 u8 := by rw [← hx138]; exact hh.got 12 _ 138 rfl rfl (hall 12 (by decide))
                obtain ⟨x139, hx139⟩ : ∃ x, A.eval (.tmp 139) = x := ⟨_, rfl⟩
                have f139 : (fun v _ => v = (Value.bool false)) x139 u8 := by rw [← hx139]; exact hh.got 13 _ 139 rfl rfl (hall 13 (by decide))
                obtain ⟨x140, hx140⟩ : ∃ x, A.eval (.tmp 140) = x := ⟨_, rfl⟩
                have f140 : (fun v _ => v = undef) x140 u8 := by rw [← hx140]; exact hh.got 14 _ 140 rfl rfl (hall 14 (by decide))
                obtain ⟨x141, hx141⟩ : ∃ x, A.eval (.tmp 141) = x := ⟨_, rfl⟩
                have f141 : (fun v _ => v = undef) x141 u8 := by rw [← hx141]; exact hh.got 15 _ 141 rfl rfl (hall 15 (by decide))
                obtain ⟨x142, hx142⟩ : ∃ x, A.eval (.tmp 142) = x := ⟨_, rfl⟩
                have f142 : (fun v _ => v = undef) x142 u8 := by rw [← hx142]; exact hh.got 16 _ 142 rfl rfl (hall 16 (by decide))
                obtain ⟨x143, hx143⟩ : ∃ x, A.eval (.tmp 143) = x := ⟨_, rfl⟩
                have f143 : (fun v _ => v = undef) x143 u8 := by rw [← hx143]; exact hh.got 17 _ 143 rfl rfl (hall 17 (by decide))
                obtain ⟨x144, hx144⟩ : ∃ x, A.eval (.tmp 144) = x := ⟨_, rfl⟩
                have f144 : (fun v _ => v = undef) x144 u8 := by rw [← hx144]; exact hh.got 18 _ 144 rfl rfl (hall 18 (by decide))
                obtain ⟨x145, hx145⟩ : ∃ x, A.eval (.tmp 145) = x := ⟨_, rfl⟩
                have f145 : (fun v _ => v = undef) x145 u8 := by rw [← hx145]; exact hh.got 19 _ 145 rfl rfl (hall 19 (by decide))
                obtain ⟨x146, hx146⟩ : ∃ x, A.eval (.tmp 146) = x := ⟨_, rfl⟩
                have f146 : (fun v _ => v = (Value.bool false)) x146 u8 := by rw [← hx146]; exact hh.got 20 _ 146 rfl rfl (hall 20 (by decide))
                dsimp only [wrote, List.foldl] at hA
                rw [hx126, hx127, hx128, hx129, hx130, hx131, hx132, hx133, hx134, hx135, hx136, hx137, hx138, hx139, hx140, hx141, hx142, hx143, hx144, hx145, hx146] at hA
                clear hh hall hx126 hx127 hx128 hx129 hx130 hx131 hx132 hx133 hx134 hx135 hx136 hx137 hx138 hx139 hx140 hx141 hx142 hx143 hx144 hx145 hx146
                replace f126 := (f126 : x126 = (.int .i64 0))
                subst f126
                have e127 := (f127 : _ = Value.int .i64 0)
                subst e127
                replace f128 := (f128 : x128 = (.bool false))
                subst f128
                replace f129 := (f129 : x129 = (.bool false))
                subst f129
                replace f130 := (f130 : x130 = undef)
                subst f130
                replace f131 := (f131 : x131 = undef)
                subst f131
                replace f132 := (f132 : x132 = undef)
                subst f132
                replace f133 := (f133 : x133 = undef)
                subst f133
                replace f134 := (f134 : x134 = undef)
                subst f134
                replace f135 := (f135 : x135 = undef)
                subst f135
                replace f136 := (f136 : x136 = undef)
                subst f136
                replace f137 := (f137 : x137 = undef)
                subst f137
                replace f138 := (f138 : x138 = (.bool false))
                subst f138
                replace f139 := (f139 : x139 = (.bool false))
                subst f139
                replace f140 := (f140 : x140 = undef)
                subst f140
                replace f141 := (f141 : x141 = undef)
                subst f141
                replace f142 := (f142 : x142 = undef)
                subst f142
                replace f143 := (f143 : x143 = undef)
                subst f143
                replace f144 := (f144 : x144 = undef)
                subst f144
                replace f145 := (f145 : x145 = undef)
                subst f145
                replace f146 := (f146 : x146 = (.bool false))
                subst f146
                subst hA
                show wpList _ _ _ [] _ _
                unfold wpList
                simp only [Act.put, List.setIfInBounds_toArray, List.set_cons_succ, List.set_cons_zero]
                go_wp2_with (first
                  | (go_at_call 23; (with_reducible refine (HTl.out _ (gtrans HX.out (gtrans HU.out HG22.out))).mono ?_); rintro e u10 ⟨rfl, hg⟩; have HG23 := hid (gtrans HG22.out hg); clear hg)
                  | (go_at_call 22; (with_reducible refine (HSM.out _ (gtrans HX.out HU.out)).mono ?_); rintro e u9 ⟨rfl, hg⟩; have HG22 := hid hg; clear hg))
                go_roundw
                case rel => exact ⟨i + 1, y, A', by go_num, rfl, by omega, by omega, by omega, HRel.out _ (gtrans HG5.out (gtrans HX.out (gtrans HU.out HG23.out)))⟩
                case measure => simp [intOf]; omega
            · as_aux_lemma =>
              clear HOt HFn HEq HFu
              go_upto_region 23 with (go_at_call 9; (with_reducible refine (HNu.out _ _).mono ?_); rintro e w9' ⟨rfl, hw9⟩; have hw9' := hw9.symm; clear hw9; subst hw9')
              clear k0 k2 honm hdv
              refine wp_region_listX (by kernel_rfl) [fun v _ => v = (Value.int .i64 0), fun v _ => v = Value.int .i64 0, fun v _ => v = (Value.bool false), fun v _ => v = (Value.bool false), fun v _ => v = undef, fun v _ => v = undef, fun v _ => v = undef, fun v _ => v = undef, fun v _ => v = undef, fun v _ => v = undef, fun v _ => v = undef, fun v _ => v = undef, fun v _ => v = (Value.bool false), fun v _ => v = (Value.bool false), fun v _ => v = undef, fun v _ => v = undef, fun v _ => v = undef, fun v _ => v = undef, fun v _ => v = undef, fun v _ => v = undef, fun v _ => v = (Value.bool false)] (none) (fun _ => none) 21 (by kernel_rfl) (by kernel_rfl) (by kernel_rfl) (by kernel_rfl) (by decide) noRow_one (fun _ => .inl rfl) ⟨fun i v u u' hki h hg => h, fun i v u u' hki h hg => h, fun i v u u' hki h hg => h, fun i v u u' hki h hg => h, fun i v u u' hki h hg => h, fun i v u u' hki h hg => h, fun i v u u' hki h hg => h, fun i v u u' hki h hg => h, fun i v u u' hki h hg => h, fun i v u u' hki h hg => h, fun i v u u' hki h hg => h, fun i v u u' hki h hg => h, fun i v u u' hki h hg => h, fun i v u u' hki h hg => h, fun i v u u' hki h hg => h, fun i v u u' hki h hg => h, fun i v u u' hki h hg => h, fun i v u u' hki h hg => h, fun i v u u' hki h hg => h, fun i v u u' hki h hg => h, fun i v u u' hki h hg => h, trivial⟩ ⟨?_, ?_, ?_, ?_, ?_, ?_, ?_, ?_, ?_, ?_, ?_, ?_, ?_, ?_, ?_, ?_, ?_, ?_, ?_, ?_, ?_, trivial⟩ ?_
              · intro A u hu hpu hsz hout hdeps
                have e10 : A.eval (.tmp 10) = (.int .i64 0) := (hout 10 (by kernel_rfl)).trans rfl
                refine ifw_none rfl ?_
                with_reducible refine shown_q (Value.int .i64 0) ?qq_4_0 (fun _ _ => ?qr_4_0)
                case qr_4_0 => exact (rfl : (Value.int .i64 0) = (Value.int .i64 0))
                with_reducible refine quietAt_mv (.tmp 10) (Value.int .i64 0) ?h0_4_0 ?h1_4_0
                case h0_4_0 => rfl
                case h1_4_0 => exact e10
              · intro A u hu hpu hsz hout hdeps
                have e126 : A.eval (.tmp 126) = (.int .i64 0) := by have h := depL hdeps 0 (by kernel_rfl) 126 (by kernel_rfl); exact h
                refine ifw_none rfl ?_
                with_reducible refine shown_call 9 Try.f9 ?h0_4_1 ?h1_4_1 ?h2_4_1 #[.tmp 126] #[27] ?h3_4_1 #[(Value.int .i64 0)] ?h4_4_1 ?h5_4_1
                case h0_4_1 => exact Try.func9
                case h1_4_1 => kernel_rfl
                case h2_4_1 => kernel_rfl
                case h3_4_1 => rfl
                case h4_4_1 => exact map1 _ _ _ e126
                case h5_4_1 => exact HNu'.out u
              · intro A u hu hpu hsz hout hdeps
                have f127 : (fun v _ => v = Value.int .i64 0) (A.eval (.tmp 127)) u := by have h := depL hdeps 1 (by kernel_rfl) 127 (by kernel_rfl); exact h
                have e127 := (f127 : _ = Value.int .i64 0)
                refine ifw_none rfl ?_
                with_reducible refine shown_q (Value.bool false) ?qq_4_2 (fun _ _ => ?qr_4_2)
                case qr_4_2 => exact (rfl : (Value.bool false) = (Value.bool false))
                with_reducible refine quietAt_bin .eql 3 (.tmp 127) (.const (.int .i64 93)) 3 (Value.int .i64 0) (Value.int .i64 93) (Value.bool false) ?h0_4_2 ?h1_4_2 ?h2_4_2 ?h3_4_2
                case h0_4_2 => rfl
                case h1_4_2 => exact e127
                case h2_4_2 => exact rfl
                case h3_4_2 => exact HZ3.out _ _ u
              · intro A u hu hpu hsz hout hdeps
                have e128 : A.eval (.tmp 128) = (.bool false) := by have h := depL hdeps 2 (by kernel_rfl) 128 (by kernel_rfl); exact h
                refine ifw_none rfl ?_
                with_reducible refine shown_q (Value.bool false) ?qq_4_3 (fun _ _ => ?qr_4_3)
                case qr_4_3 => exact (rfl : (Value.bool false) = (Value.bool false))
                with_reducible refine quietAt_mv (.tmp 128) (Value.bool false) ?h0_4_3 ?h1_4_3
                case h0_4_3 => rfl
                case h1_4_3 => exact e128
              · intro A u hu hpu hsz hout hdeps
                have e129 : A.eval (.tmp 129) = (.bool false) := by have h := depL hdeps 3 (by kernel_rfl) 129 (by kernel_rfl); exact h
                refine ifw_pass 3 true false 129 rfl rfl e129 (by decide) ?_
                exact rfl
              · intro A u hu hpu hsz hout hdeps
                have e129 : A.eval (.tmp 129) = (.bool false) := by have h := depL hdeps 3 (by kernel_rfl) 129 (by kernel_rfl); exact h
                refine ifw_pass 3 true false 129 rfl rfl e129 (by decide) ?_
                exact rfl
              · intro A u hu hpu hsz hout hdeps
                have e129 : A.eval (.tmp 129) = (.bool false) := by have h := depL hdeps 3 (by kernel_rfl) 129 (by kernel_rfl); exact h
                refine ifw_pass 3 true false 129 rfl rfl e129 (by decide) ?_
                exact rfl
              · intro A u hu hpu hsz hout hdeps
                have e129 : A.eval (.tmp 129) = (.bool false) := by have h := depL hdeps 3 (by kernel_rfl) 129 (by kernel_rfl); exact h
                refine ifw_pass 3 true false 129 rfl rfl e129 (by decide) ?_
                exact rfl
              · intro A u hu hpu hsz hout hdeps
                have e129 : A.eval (.tmp 129) = (.bool false) := by have h := depL hdeps 3 (by kernel_rfl) 129 (by kernel_rfl); exact h
                refine ifw_pass 3 true false 129 rfl rfl e129 (by decide) ?_
                exact rfl
              · intro A u hu hpu hsz hout hdeps
                have e129 : A.eval (.tmp 129) = (.bool false) := by have h := depL hdeps 3 (by kernel_rfl) 129 (by kernel_rfl); exact h
                refine ifw_pass 3 true false 129 rfl rfl e129 (by decide) ?_
                exact rfl
              · intro A u hu hpu hsz hout hdeps
                have e129 : A.eval (.tmp 129) = (.bool false) := by have h := depL hdeps 3 (by kernel_rfl) 129 (by kernel_rfl); exact h
                refine ifw_pass 3 true false 129 rfl rfl e129 (by decide) ?_
                exact rfl
              · intro A u hu hpu hsz hout hdeps
                have e129 : A.eval (.tmp 129) = (.bool false) := by have h := depL hdeps 3 (by kernel_rfl) 129 (by kernel_rfl); exact h
                refine ifw_pass 3 true false 129 rfl rfl e129 (by decide) ?_
                exact rfl
              · intro A u hu hpu hsz hout hdeps
                have e129 : A.eval (.tmp 129) = (.bool false) := by have h := depL hdeps 3 (by kernel_rfl) 129 (by kernel_rfl); exact h
                refine ifw_none rfl ?_
                with_reducible refine shown_q (Value.bool false) ?qq_4_12 (fun _ _ => ?qr_4_12)
                case qr_4_12 => exact (rfl : (Value.bool false) = (Value.bool false))
                with_reducible refine quietAt_pick (.tmp 129) (.tmp 137) (.const (.bool false)) false (Value.bool false) ?h0_4_12 ?h1_4_12 ?h2_4_12
                case h0_4_12 => rfl
                case h1_4_12 => exact e129
                case h2_4_12 => rw [if_neg (by decide)]; exact rfl
              · intro A u hu hpu hsz hout hdeps
                have e138 : A.eval (.tmp 138) = (.bool false) := by have h := depL hdeps 12 (by kernel_rfl) 138 (by kernel_rfl); exact h
                refine ifw_none rfl ?_
                with_reducible refine shown_q (Value.bool false) ?qq_4_13 (fun _ _ => ?qr_4_13)
                case qr_4_13 => exact (rfl : (Value.bool false) = (Value.bool false))
                with_reducible refine quietAt_mv (.tmp 138) (Value.bool false) ?h0_4_13 ?h1_4_13
                case h0_4_13 => rfl
                case h1_4_13 => exact e138
              · intro A u hu hpu hsz hout hdeps
                have e139 : A.eval (.tmp 139) = (.bool false) := by have h := depL hdeps 13 (by kernel_rfl) 139 (by kernel_rfl); exact h
                refine ifw_pass 13 true false 139 rfl rfl e139 (by decide) ?_
                exact rfl
              · intro A u hu hpu hsz hout hdeps
                have e139 : A.eval (.tmp 139) = (.bool false) := by have h := depL hdeps 13 (by kernel_rfl) 139 (by kernel_rfl); exact h
                refine ifw_pass 13 true false 139 rfl rfl e139 (by decide) ?_
                exact rfl
              · intro A u hu hpu hsz hout hdeps
                have e141 : A.eval (.tmp 141) = undef := by have h := depL hdeps 15 (by kernel_rfl) 141 (by kernel_rfl); exact h
                refine ifw_undef 15 false 141 rfl rfl e141 ?_
                exact rfl
              · intro A u hu hpu hsz hout hdeps
                have e141 : A.eval (.tmp 141) = undef := by have h := depL hdeps 15 (by kernel_rfl) 141 (by kernel_rfl); exact h
                refine ifw_undef 15 false 141 rfl rfl e141 ?_
                exact rfl
              · intro A u hu hpu hsz hout hdeps
                have e141 : A.eval (.tmp 141) = undef := by have h := depL hdeps 15 (by kernel_rfl) 141 (by kernel_rfl); exact h
                refine ifw_undef 15 false 141 rfl rfl e141 ?_
                exact rfl
              · intro A u hu hpu hsz hout hdeps
                have e139 : A.eval (.tmp 139) = (.bool false) := by have h := depL hdeps 13 (by kernel_rfl) 139 (by kernel_rfl); exact h
                refine ifw_pass 13 true false 139 rfl rfl e139 (by decide) ?_
                exact rfl
              · intro A u hu hpu hsz hout hdeps
                have e139 : A.eval (.tmp 139) = (.bool false) := by have h := depL hdeps 13 (by kernel_rfl) 139 (by kernel_rfl); exact h
                refine ifw_none rfl ?_
                with_reducible refine shown_q (Value.bool false) ?qq_4_20 (fun _ _ => ?qr_4_20)
                case qr_4_20 => exact (rfl : (Value.bool false) = (Value.bool false))
                with_reducible refine quietAt_pick (.tmp 139) (.tmp 145) (.const (.bool false)) false (Value.bool false) ?h0_4_20 ?h1_4_20 ?h2_4_20
                case h0_4_20 => rfl
                case h1_4_20 => exact e139
                case h2_4_20 => rw [if_neg (by decide)]; exact rfl
              · intro A u8 listed hh hall
                have hA := hh.frame
                have HU := hid hh.grown
                obtain ⟨x126, hx126⟩ : ∃ x, A.eval (.tmp 126) = x := ⟨_, rfl⟩
                have f126 : (fun v _ => v = (Value.int .i64 0)) x126 u8 := by rw [← hx126]; exact hh.got 0 _ 126 rfl rfl (hall 0 (by decide))
                obtain ⟨x127, hx127⟩ : ∃ x, A.eval (.tmp 127) = x := ⟨_, rfl⟩
                have f127 : (fun v _ => v = Value.int .i64 0) x127 u8 := by rw [← hx127]; exact hh.got 1 _ 127 rfl rfl (hall 1 (by decide))
                obtain ⟨x128, hx128⟩ : ∃ x, A.eval (.tmp 128) = x := ⟨_, rfl⟩
                have f128 : (fun v _ => v = (Value.bool false)) x128 u8 := by rw [← hx128]; exact hh.got 2 _ 128 rfl rfl (hall 2 (by decide))
                obtain ⟨x129, hx129⟩ : ∃ x, A.eval (.tmp 129) = x := ⟨_, rfl⟩
                have f129 : (fun v _ => v = (Value.bool false)) x129 u8 := by rw [← hx129]; exact hh.got 3 _ 129 rfl rfl (hall 3 (by decide))
                obtain ⟨x130, hx130⟩ : ∃ x, A.eval (.tmp 130) = x := ⟨_, rfl⟩
                have f130 : (fun v _ => v = undef) x130 u8 := by rw [← hx130]; exact hh.got 4 _ 130 rfl rfl (hall 4 (by decide))
                obtain ⟨x131, hx131⟩ : ∃ x, A.eval (.tmp 131) = x := ⟨_, rfl⟩
                have f131 : (fun v _ => v = undef) x131 u8 := by rw [← hx131]; exact hh.got 5 _ 131 rfl rfl (hall 5 (by decide))
                obtain ⟨x132, hx132⟩ : ∃ x, A.eval (.tmp 132) = x := ⟨_, rfl⟩
                have f132 : (fun v _ => v = undef) x132 u8 := by rw [← hx132]; exact hh.got 6 _ 132 rfl rfl (hall 6 (by decide))
                obtain ⟨x133, hx133⟩ : ∃ x, A.eval (.tmp 133) = x := ⟨_, rfl⟩
                have f133 : (fun v _ => v = undef) x133 u8 := by rw [← hx133]; exact hh.got 7 _ 133 rfl rfl (hall 7 (by decide))
                obtain ⟨x134, hx134⟩ : ∃ x, A.eval (.tmp 134) = x := ⟨_, rfl⟩
                have f134 : (fun v _ => v = undef) x134 u8 := by rw [← hx134]; exact hh.got 8 _ 134 rfl rfl (hall 8 (by decide))
                obtain ⟨x135, hx135⟩ : ∃ x, A.eval (.tmp 135) = x := ⟨_, rfl⟩
                have f135 : (fun v _ => v = undef) x135 u8 := by rw [← hx135]; exact hh.got 9 _ 135 rfl rfl (hall 9 (by decide))
                obtain ⟨x136, hx136⟩ : ∃ x, A.eval (.tmp 136) = x := ⟨_, rfl⟩
                have f136 : (fun v _ => v = undef) x136 u8 := by rw [← hx136]; exact hh.got 10 _ 136 rfl rfl (hall 10 (by decide))
                obtain ⟨x137, hx137⟩ : ∃ x, A.eval (.tmp 137) = x := ⟨_, rfl⟩
                have f137 : (fun v _ => v = undef) x137 u8 := by rw [← hx137]; exact hh.got 11 _ 137 rfl rfl (hall 11 (by decide))
                obtain ⟨x138, hx138⟩ : ∃ x, A.eval (.tmp 138) = x := ⟨_, rfl⟩
                have f138 : (fun v _ => v = (Value.bool false)) x138 u8 := by rw [← hx138]; exact hh.got 12 _ 138 rfl rfl (hall 12 (by decide))
                obtain ⟨x139, hx139⟩ : ∃ x, A.eval (.tmp 139) = x := ⟨_, rfl⟩
                have f139 : (fun v _ => v = (Value.bool false)) x139 u8 := by rw [← hx139]; exact hh.got 13 _ 139 rfl rfl (hall 13 (by decide))
                obtain ⟨x140, hx140⟩ : ∃ x, A.eval (.tmp 140) = x := ⟨_, rfl⟩
                have f140 : (fun v _ => v = undef) x140 u8 := by rw [← hx140]; exact hh.got 14 _ 140 rfl rfl (hall 14 (by decide))
                obtain ⟨x141, hx141⟩ : ∃ x, A.eval (.tmp 141) = x := ⟨_, rfl⟩
                have f141 : (fun v _ => v = undef) x141 u8 := by rw [← hx141]; exact hh.got 15 _ 141 rfl rfl (hall 15 (by decide))
                obtain ⟨x142, hx142⟩ : ∃ x, A.eval (.tmp 142) = x := ⟨_, rfl⟩
                have f142 : (fun v _ => v = undef) x142 u8 := by rw [← hx142]; exact hh.got 16 _ 142 rfl rfl (hall 16 (by decide))
                obtain ⟨x143, hx143⟩ : ∃ x, A.eval (.tmp 143) = x := ⟨_, rfl⟩
                have f143 : (fun v _ => v = undef) x143 u8 := by rw [← hx143]; exact hh.got 17 _ 143 rfl rfl (hall 17 (by decide))
                obtain ⟨x144, hx144⟩ : ∃ x, A.eval (.tmp 144) = x := ⟨_, rfl⟩
                have f144 : (fun v _ => v = undef) x144 u8 := by rw [← hx144]; exact hh.got 18 _ 144 rfl rfl (hall 18 (by decide))
                obtain ⟨x145, hx145⟩ : ∃ x, A.eval (.tmp 145) = x := ⟨_, rfl⟩
                have f145 : (fun v _ => v = undef) x145 u8 := by rw [← hx145]; exact hh.got 19 _ 145 rfl rfl (hall 19 (by decide))
                obtain ⟨x146, hx146⟩ : ∃ x, A.eval (.tmp 146) = x := ⟨_, rfl⟩
                have f146 : (fun v _ => v = (Value.bool false)) x146 u8 := by rw [← hx146]; exact hh.got 20 _ 146 rfl rfl (hall 20 (by decide))
                dsimp only [wrote, List.foldl] at hA
                rw [hx126, hx127, hx128, hx129, hx130, hx131, hx132, hx133, hx134, hx135, hx136, hx137, hx138, hx139, hx140, hx141, hx142, hx143, hx144, hx145, hx146] at hA
                clear hh hall hx126 hx127 hx128 hx129 hx130 hx131 hx132 hx133 hx134 hx135 hx136 hx137 hx138 hx139 hx140 hx141 hx142 hx143 hx144 hx145 hx146
                replace f126 := (f126 : x126 = (.int .i64 0))
                subst f126
                have e127 := (f127 : _ = Value.int .i64 0)
                subst e127
                replace f128 := (f128 : x128 = (.bool false))
                subst f128
                replace f129 := (f129 : x129 = (.bool false))
                subst f129
                replace f130 := (f130 : x130 = undef)
                subst f130
                replace f131 := (f131 : x131 = undef)
                subst f131
                replace f132 := (f132 : x132 = undef)
                subst f132
                replace f133 := (f133 : x133 = undef)
                subst f133
                replace f134 := (f134 : x134 = undef)
                subst f134
                replace f135 := (f135 : x135 = undef)
                subst f135
                replace f136 := (f136 : x136 = undef)
                subst f136
                replace f137 := (f137 : x137 = undef)
                subst f137
                replace f138 := (f138 : x138 = (.bool false))
                subst f138
                replace f139 := (f139 : x139 = (.bool false))
                subst f139
                replace f140 := (f140 : x140 = undef)
                subst f140
                replace f141 := (f141 : x141 = undef)
                subst f141
                replace f142 := (f142 : x142 = undef)
                subst f142
                replace f143 := (f143 : x143 = undef)
                subst f143
                replace f144 := (f144 : x144 = undef)
                subst f144
                replace f145 := (f145 : x145 = undef)
                subst f145
                replace f146 := (f146 : x146 = (.bool false))
                subst f146
                subst hA
                show wpList _ _ _ [] _ _
                unfold wpList
                simp only [Act.put, List.setIfInBounds_toArray, List.set_cons_succ, List.set_cons_zero]
                go_wp2_with (first
                  | (go_at_call 23; (with_reducible refine (HTl.out _ (gtrans HX.out (gtrans HU.out HG22.out))).mono ?_); rintro e u10 ⟨rfl, hg⟩; have HG23 := hid (gtrans HG22.out hg); clear hg)
                  | (go_at_call 22; (with_reducible refine (HSM.out _ (gtrans HX.out HU.out)).mono ?_); rintro e u9 ⟨rfl, hg⟩; have HG22 := hid hg; clear hg))
                go_roundw
                case rel => exact ⟨i + 1, y, A', by go_num, rfl, by omega, by omega, by omega, HRel.out _ (gtrans HG5.out (gtrans HX.out (gtrans HU.out HG23.out)))⟩
                case measure => simp [intOf]; omega
          · have hEq := hid (HEq.out hE0)
            go_upto_region 19 with (first
              | (go_at_call 17; (with_reducible refine (hEq.out _ (grefl _ _)).mono ?_); rintro e u6 ⟨rfl, hg⟩; have HX := hid hg; clear hg)
              | (go_at_call 9; (with_reducible refine (HNu.out _ _).mono ?_); rintro e w9' ⟨rfl, hw9⟩; have hw9' := hw9.symm; clear hw9; subst hw9'))
            have k0 : u6.cell? ⟨p7, 0, none⟩ = some (.int .i64 odv) := HK0.out u6 HX.out
            clear HOt HFn HEq hEq
            by_cases hdv : odv = 1
            · subst hdv
              go_upto_region 23 with (go_at_call 9; (with_reducible refine (HNu.out _ _).mono ?_); rintro e w9' ⟨rfl, hw9⟩; have hw9' := hw9.symm; clear hw9; subst hw9')
              clear k0 k2 honm
              by_cases hE9 : E = 93
              · subst hE9
                clear hE0
                have hfu := HFu.out rfl
                have HZ3 : Hid (∀ (x y : Operand) (u : World), (do eqGuard .eql 3 x y (.int .i64 93) (.int .i64 93); binOp .eql 3 (.int .i64 93) (.int .i64 93) : Sem Value).run Try.prog u = .ok (.bool true) u) := hid (fun x y u => by go_simp)
                have HZ4 : Hid (∀ (x y : Operand) (u : World), (do eqGuard .add 3 x y (.int .i64 (us : Nat)) (.int .i64 (o.bn : Nat)); binOp .add 3 (.int .i64 (us : Nat)) (.int .i64 (o.bn : Nat)) : Sem Value).run Try.prog u = .ok (.int .i64 ((us + o.bn : Nat) : Int)) u) := hid (fun x y u => by have h1 := HBn.out; have h2 := HLL.out.2.1; have e : IntKind.i64.wrap ((us : Int) + (o.bn : Int)) = ((us + o.bn : Nat) : Int) := (by rw [IntKind.wrap_i64]; omega); go_simp)
                by_cases hr : us + o.bn ≤ 1 + rr
                · as_aux_lemma =>
                  have hD1 : D1 = false := by cases D1 with | false => rfl | true => exact absurd ⟨.inl rfl, hr⟩ hfu
                  have hsn : ¬ (sn < 64) := fun q => hfu ⟨.inr q, hr⟩
                  subst hD1
                  have HZ5 : Hid (∀ (x y : Operand) (u : World), (do eqGuard .leq 3 x y (.int .i64 ((us + o.bn : Nat) : Int)) (.int .i64 (1 + (rr : Int))); binOp .leq 3 (.int .i64 ((us + o.bn : Nat) : Int)) (.int .i64 (1 + (rr : Int))) : Sem Value).run Try.prog u = .ok (.bool true) u) := hid (fun x y u => by have e : ((us + o.bn : Nat) : Int) ≤ 1 + (rr : Int) := (by omega); go_simp; omega)
                  have HZ6 : Hid (∀ (x y : Operand) (u : World), (do eqGuard .lss 3 x y (.int .i64 (sn : Nat)) (.int .i64 64); binOp .lss 3 (.int .i64 (sn : Nat)) (.int .i64 64) : Sem Value).run Try.prog u = .ok (.bool false) u) := hid (fun x y u => by have e : ¬ (sn : Int) < 64 := (by omega); go_simp)
                  clear hfu HFu hr hsn
                  refine wp_region_listX (by kernel_rfl) [fun v _ => v = (Value.int .i64 93), fun v _ => v = Value.int .i64 93, fun v _ => v = (Value.bool true), fun v _ => v = (Value.bool true), fun v _ => v = (Value.slice sa sn sc), fun v _ => v = Value.int .i64 (us : Nat), fun v _ => v = (Value.pointer (some ⟨p7, 4, none⟩)), fun v _ => v = (Value.slice o.ba o.bn o.bc), fun v _ => v = (Value.int .i64 (o.bn : Nat)), fun v _ => v = (Value.int .i64 ((us + o.bn : Nat) : Int)), fun v _ => v = (Value.int .i64 (1 + (rr : Int))), fun v _ => v = (Value.bool true), fun v _ => v = (Value.bool true), fun v _ => v = (Value.bool true), fun v _ => v = (Value.bool false), fun v _ => v = (Value.bool false), fun v _ => v = (Value.slice sa sn sc), fun v _ => v = (Value.int .i64 (sn : Nat)), fun v _ => v = (Value.bool false), fun v _ => v = (Value.bool false), fun v _ => v = (Value.bool false)] (none) (fun _ => none) 21 (by kernel_rfl) (by kernel_rfl) (by kernel_rfl) (by kernel_rfl) (by decide) noRow_one (fun _ => .inl rfl) ⟨fun i v u u' hki h hg => h, fun i v u u' hki h hg => h, fun i v u u' hki h hg => h, fun i v u u' hki h hg => h, fun i v u u' hki h hg => h, fun i v u u' hki h hg => h, fun i v u u' hki h hg => h, fun i v u u' hki h hg => h, fun i v u u' hki h hg => h, fun i v u u' hki h hg => h, fun i v u u' hki h hg => h, fun i v u u' hki h hg => h, fun i v u u' hki h hg => h, fun i v u u' hki h hg => h, fun i v u u' hki h hg => h, fun i v u u' hki h hg => h, fun i v u u' hki h hg => h, fun i v u u' hki h hg => h, fun i v u u' hki h hg => h, fun i v u u' hki h hg => h, fun i v u u' hki h hg => h, trivial⟩ ⟨?_, ?_, ?_, ?_, ?_, ?_, ?_, ?_, ?_, ?_, ?_, ?_, ?_, ?_, ?_, ?_, ?_, ?_, ?_, ?_, ?_, trivial⟩ ?_
                  · intro A u hu hpu hsz hout hdeps
                    have e10 : A.eval (.tmp 10) = (.int .i64 93) := (hout 10 (by kernel_rfl)).trans rfl
                    refine ifw_none rfl ?_
                    with_reducible refine shown_q (Value.int .i64 93) ?qq_1_0 (fun _ _ => ?qr_1_0)
                    case qr_1_0 => exact (rfl : (Value.int .i64 93) = (Value.int .i64 93))
                    with_reducible refine quietAt_mv (.tmp 10) (Value.int .i64 93) ?h0_1_0 ?h1_1_0
                    case h0_1_0 => rfl
                    case h1_1_0 => exact e10
                  · intro A u hu hpu hsz hout hdeps
                    have e126 : A.eval (.tmp 126) = (.int .i64 93) := by have h := depL hdeps 0 (by kernel_rfl) 126 (by kernel_rfl); exact h
                    refine ifw_none rfl ?_
                    with_reducible refine shown_call 9 Try.f9 ?h0_1_1 ?h1_1_1 ?h2_1_1 #[.tmp 126] #[27] ?h3_1_1 #[(Value.int .i64 93)] ?h4_1_1 ?h5_1_1
                    case h0_1_1 => exact Try.func9
                    case h1_1_1 => kernel_rfl
                    case h2_1_1 => kernel_rfl
                    case h3_1_1 => rfl
                    case h4_1_1 => exact map1 _ _ _ e126
                    case h5_1_1 => exact HNu'.out u
                  · intro A u hu hpu hsz hout hdeps
                    have f127 : (fun v _ => v = Value.int .i64 93) (A.eval (.tmp 127)) u := by have h := depL hdeps 1 (by kernel_rfl) 127 (by kernel_rfl); exact h
                    have e127 := (f127 : _ = Value.int .i64 93)
                    refine ifw_none rfl ?_
                    with_reducible refine shown_q (Value.bool true) ?qq_1_2 (fun _ _ => ?qr_1_2)
                    case qr_1_2 => exact (rfl : (Value.bool true) = (Value.bool true))
                    with_reducible refine quietAt_bin .eql 3 (.tmp 127) (.const (.int .i64 93)) 3 (Value.int .i64 93) (Value.int .i64 93) (Value.bool true) ?h0_1_2 ?h1_1_2 ?h2_1_2 ?h3_1_2
                    case h0_1_2 => rfl
                    case h1_1_2 => exact e127
                    case h2_1_2 => exact rfl
                    case h3_1_2 => exact HZ3.out _ _ u
                  · intro A u hu hpu hsz hout hdeps
                    have e128 : A.eval (.tmp 128) = (.bool true) := by have h := depL hdeps 2 (by kernel_rfl) 128 (by kernel_rfl); exact h
                    refine ifw_none rfl ?_
                    with_reducible refine shown_q (Value.bool true) ?qq_1_3 (fun _ _ => ?qr_1_3)
                    case qr_1_3 => exact (rfl : (Value.bool true) = (Value.bool true))
                    with_reducible refine quietAt_mv (.tmp 128) (Value.bool true) ?h0_1_3 ?h1_1_3
                    case h0_1_3 => rfl
                    case h1_1_3 => exact e128
                  · intro A u hu hpu hsz hout hdeps
                    have e129 : A.eval (.tmp 129) = (.bool true) := by have h := depL hdeps 3 (by kernel_rfl) 129 (by kernel_rfl); exact h
                    have e9 : A.eval (.tmp 9) = (.slice sa sn sc) := (hout 9 (by kernel_rfl)).trans rfl
                    refine ifw_want 3 true 129 rfl rfl e129 ?_
                    with_reducible refine shown_q (Value.slice sa sn sc) ?qq_1_4 (fun _ _ => ?qr_1_4)
                    case qr_1_4 => exact (rfl : (Value.slice sa sn sc) = (Value.slice sa sn sc))
                    with_reducible refine quietAt_mv (.tmp 9) (Value.slice sa sn sc) ?h0_1_4 ?h1_1_4
                    case h0_1_4 => rfl
                    case h1_1_4 => exact e9
                  · intro A u hu hpu hsz hout hdeps
                    have e129 : A.eval (.tmp 129) = (.bool true) := by have h := depL hdeps 3 (by kernel_rfl) 129 (by kernel_rfl); exact h
                    have e130 : A.eval (.tmp 130) = (.slice sa sn sc) := by have h := depL hdeps 4 (by kernel_rfl) 130 (by kernel_rfl); exact h
                    refine ifw_want 3 true 129 rfl rfl e129 ?_
                    with_reducible refine shown_call 22 Try.f22 ?h0_1_5 ?h1_1_5 ?h2_1_5 #[.tmp 130] #[34] ?h3_1_5 #[(Value.slice sa sn sc)] ?h4_1_5 ?h5_1_5
                    case h0_1_5 => exact Try.func22
                    case h1_1_5 => kernel_rfl
                    case h2_1_5 => kernel_rfl
                    case h3_1_5 => rfl
                    case h4_1_5 => exact map1 _ _ _ e130
                    case h5_1_5 => exact HSm.out u (gtrans HX.out hu)
                  · intro A u hu hpu hsz hout hdeps
                    have e129 : A.eval (.tmp 129) = (.bool true) := by have h := depL hdeps 3 (by kernel_rfl) 129 (by kernel_rfl); exact h
                    have e8 : A.eval (.tmp 8) = (.pointer (some ⟨p7, 0, none⟩)) := (hout 8 (by kernel_rfl)).trans rfl
                    refine ifw_want 3 true 129 rfl rfl e129 ?_
                    with_reducible refine shown_q (Value.pointer (some ⟨p7, 4, none⟩)) ?qq_1_6 (fun _ _ => ?qr_1_6)
                    case qr_1_6 => exact (rfl : (Value.pointer (some ⟨p7, 4, none⟩)) = (Value.pointer (some ⟨p7, 4, none⟩)))
                    with_reducible refine quietAt_field 36 (.tmp 8) 4 ?h0_1_6 ⟨p7, 0, none⟩ ⟨p7, 4, none⟩ ?h1_1_6 ?h2_1_6
                    case h0_1_6 => rfl
                    case h1_1_6 => exact e8
                    case h2_1_6 => kernel_rfl
                  · intro A u hu hpu hsz hout hdeps
                    have e129 : A.eval (.tmp 129) = (.bool true) := by have h := depL hdeps 3 (by kernel_rfl) 129 (by kernel_rfl); exact h
                    have e132 : A.eval (.tmp 132) = (.pointer (some ⟨p7, 4, none⟩)) := by have h := depL hdeps 6 (by kernel_rfl) 132 (by kernel_rfl); exact h
                    refine ifw_want 3 true 129 rfl rfl e129 ?_
                    with_reducible refine shown_q (Value.slice o.ba o.bn o.bc) ?qq_1_7 (fun _ _ => ?qr_1_7)
                    case qr_1_7 => exact (rfl : (Value.slice o.ba o.bn o.bc) = (Value.slice o.ba o.bn o.bc))
                    with_reducible refine quietAt_ld 33 (.tmp 132) (Value.pointer (some ⟨p7, 4, none⟩)) (Value.slice o.ba o.bn o.bc) ?h0_1_7 ?h1_1_7 ?h2_1_7
                    case h0_1_7 => rfl
                    case h1_1_7 => exact e132
                    case h2_1_7 => exact ld33 p7 4 o.bn o.bc o.ba u (HK4.out u (gtrans HX.out hu))
                  · intro A u hu hpu hsz hout hdeps
                    have e129 : A.eval (.tmp 129) = (.bool true) := by have h := depL hdeps 3 (by kernel_rfl) 129 (by kernel_rfl); exact h
                    have e133 : A.eval (.tmp 133) = (.slice o.ba o.bn o.bc) := by have h := depL hdeps 7 (by kernel_rfl) 133 (by kernel_rfl); exact h
                    refine ifw_want 3 true 129 rfl rfl e129 ?_
                    with_reducible refine shown_q (Value.int .i64 (o.bn : Nat)) ?qq_1_8 (fun _ _ => ?qr_1_8)
                    case qr_1_8 => exact (rfl : (Value.int .i64 (o.bn : Nat)) = (Value.int .i64 (o.bn : Nat)))
                    with_reducible refine quietAt_len (.tmp 133) 33 ?h0_1_8 o.ba o.bn o.bc ?h1_1_8 ?h2_1_8
                    case h0_1_8 => rfl
                    case h1_1_8 => exact e133
                    case h2_1_8 => kernel_rfl
                  · intro A u hu hpu hsz hout hdeps
                    have e129 : A.eval (.tmp 129) = (.bool true) := by have h := depL hdeps 3 (by kernel_rfl) 129 (by kernel_rfl); exact h
                    have f131 : (fun v _ => v = Value.int .i64 (us : Nat)) (A.eval (.tmp 131)) u := by have h := depL hdeps 5 (by kernel_rfl) 131 (by kernel_rfl); exact h
                    have e131 := (f131 : _ = Value.int .i64 (us : Nat))
                    have e134 : A.eval (.tmp 134) = (.int .i64 (o.bn : Nat)) := by have h := depL hdeps 8 (by kernel_rfl) 134 (by kernel_rfl); exact h
                    refine ifw_want 3 true 129 rfl rfl e129 ?_
                    with_reducible refine shown_q (Value.int .i64 ((us + o.bn : Nat) : Int)) ?qq_1_9 (fun _ _ => ?qr_1_9)
                    case qr_1_9 => exact (rfl : (Value.int .i64 ((us + o.bn : Nat) : Int)) = (Value.int .i64 ((us + o.bn : Nat) : Int)))
                    with_reducible refine quietAt_bin .add 3 (.tmp 131) (.tmp 134) 3 (Value.int .i64 (us : Nat)) (Value.int .i64 (o.bn : Nat)) (Value.int .i64 ((us + o.bn : Nat) : Int)) ?h0_1_9 ?h1_1_9 ?h2_1_9 ?h3_1_9
                    case h0_1_9 => rfl
                    case h1_1_9 => exact e131
                    case h2_1_9 => exact e134
                    case h3_1_9 => exact HZ4.out _ _ u
                  · intro A u hu hpu hsz hout hdeps
                    have e129 : A.eval (.tmp 129) = (.bool true) := by have h := depL hdeps 3 (by kernel_rfl) 129 (by kernel_rfl); exact h
                    have e3 : A.eval (.tmp 3) = (.int .i64 (1 + (rr : Int))) := (hout 3 (by kernel_rfl)).trans rfl
                    refine ifw_want 3 true 129 rfl rfl e129 ?_
                    with_reducible refine shown_q (Value.int .i64 (1 + (rr : Int))) ?qq_1_10 (fun _ _ => ?qr_1_10)
                    case qr_1_10 => exact (rfl : (Value.int .i64 (1 + (rr : Int))) = (Value.int .i64 (1 + (rr : Int))))
                    with_reducible refine quietAt_mv (.tmp 3) (Value.int .i64 (1 + (rr : Int))) ?h0_1_10 ?h1_1_10
                    case h0_1_10 => rfl
                    case h1_1_10 => exact e3
                  · intro A u hu hpu hsz hout hdeps
                    have e129 : A.eval (.tmp 129) = (.bool true) := by have h := depL hdeps 3 (by kernel_rfl) 129 (by kernel_rfl); exact h
                    have e135 : A.eval (.tmp 135) = (.int .i64 ((us + o.bn : Nat) : Int)) := by have h := depL hdeps 9 (by kernel_rfl) 135 (by kernel_rfl); exact h
                    have e136 : A.eval (.tmp 136) = (.int .i64 (1 + (rr : Int))) := by have h := depL hdeps 10 (by kernel_rfl) 136 (by kernel_rfl); exact h
                    refine ifw_want 3 true 129 rfl rfl e129 ?_
                    with_reducible refine shown_q (Value.bool true) ?qq_1_11 (fun _ _ => ?qr_1_11)
                    case qr_1_11 => exact (rfl : (Value.bool true) = (Value.bool true))
                    with_reducible refine quietAt_bin .leq 3 (.tmp 135) (.tmp 136) 3 (Value.int .i64 ((us + o.bn : Nat) : Int)) (Value.int .i64 (1 + (rr : Int))) (Value.bool true) ?h0_1_11 ?h1_1_11 ?h2_1_11 ?h3_1_11
                    case h0_1_11 => rfl
                    case h1_1_11 => exact e135
                    case h2_1_11 => exact e136
                    case h3_1_11 => exact HZ5.out _ _ u
                  · intro A u hu hpu hsz hout hdeps
                    have e129 : A.eval (.tmp 129) = (.bool true) := by have h := depL hdeps 3 (by kernel_rfl) 129 (by kernel_rfl); exact h
                    have e137 : A.eval (.tmp 137) = (.bool true) := by have h := depL hdeps 11 (by kernel_rfl) 137 (by kernel_rfl); exact h
                    refine ifw_none rfl ?_
                    with_reducible refine shown_q (Value.bool true) ?qq_1_12 (fun _ _ => ?qr_1_12)
                    case qr_1_12 => exact (rfl : (Value.bool true) = (Value.bool true))
                    with_reducible refine quietAt_pick (.tmp 129) (.tmp 137) (.const (.bool false)) true (Value.bool true) ?h0_1_12 ?h1_1_12 ?h2_1_12
                    case h0_1_12 => rfl
                    case h1_1_12 => exact e129
                    case h2_1_12 => rw [if_pos rfl]; exact e137
                  · intro A u hu hpu hsz hout hdeps
                    have e138 : A.eval (.tmp 138) = (.bool true) := by have h := depL hdeps 12 (by kernel_rfl) 138 (by kernel_rfl); exact h
                    refine ifw_none rfl ?_
                    with_reducible refine shown_q (Value.bool true) ?qq_1_13 (fun _ _ => ?qr_1_13)
                    case qr_1_13 => exact (rfl : (Value.bool true) = (Value.bool true))
                    with_reducible refine quietAt_mv (.tmp 138) (Value.bool true) ?h0_1_13 ?h1_1_13
                    case h0_1_13 => rfl
                    case h1_1_13 => exact e138
                  · intro A u hu hpu hsz hout hdeps
                    have e139 : A.eval (.tmp 139) = (.bool true) := by have h := depL hdeps 13 (by kernel_rfl) 139 (by kernel_rfl); exact h
                    have e14 : A.eval (.tmp 14) = (.bool false) := (hout 14 (by kernel_rfl)).trans rfl
                    refine ifw_want 13 true 139 rfl rfl e139 ?_
                    with_reducible refine shown_q (Value.bool false) ?qq_1_14 (fun _ _ => ?qr_1_14)
                    case qr_1_14 => exact (rfl : (Value.bool false) = (Value.bool false))
                    with_reducible refine quietAt_mv (.tmp 14) (Value.bool false) ?h0_1_14 ?h1_1_14
                    case h0_1_14 => rfl
                    case h1_1_14 => exact e14
                  · intro A u hu hpu hsz hout hdeps
                    have e139 : A.eval (.tmp 139) = (.bool true) := by have h := depL hdeps 13 (by kernel_rfl) 139 (by kernel_rfl); exact h
                    have e140 : A.eval (.tmp 140) = (.bool false) := by have h := depL hdeps 14 (by kernel_rfl) 140 (by kernel_rfl); exact h
                    refine ifw_want 13 true 139 rfl rfl e139 ?_
                    with_reducible refine shown_q (Value.bool false) ?qq_1_15 (fun _ _ => ?qr_1_15)
                    case qr_1_15 => exact (rfl : (Value.bool false) = (Value.bool false))
                    with_reducible refine quietAt_mv (.tmp 140) (Value.bool false) ?h0_1_15 ?h1_1_15
                    case h0_1_15 => rfl
                    case h1_1_15 => exact e140
                  · intro A u hu hpu hsz hout hdeps
                    have e141 : A.eval (.tmp 141) = (.bool false) := by have h := depL hdeps 15 (by kernel_rfl) 141 (by kernel_rfl); exact h
                    have e9 : A.eval (.tmp 9) = (.slice sa sn sc) := (hout 9 (by kernel_rfl)).trans rfl
                    refine ifw_want 15 false 141 rfl rfl e141 ?_
                    with_reducible refine shown_q (Value.slice sa sn sc) ?qq_1_16 (fun _ _ => ?qr_1_16)
                    case qr_1_16 => exact (rfl : (Value.slice sa sn sc) = (Value.slice sa sn sc))
                    with_reducible refine quietAt_mv (.tmp 9) (Value.slice sa sn sc) ?h0_1_16 ?h1_1_16
                    case h0_1_16 => rfl
                    case h1_1_16 => exact e9
                  · intro A u hu hpu hsz hout hdeps
                    have e141 : A.eval (.tmp 141) = (.bool false) := by have h := depL hdeps 15 (by kernel_rfl) 141 (by kernel_rfl); exact h
                    have e142 : A.eval (.tmp 142) = (.slice sa sn sc) := by have h := depL hdeps 16 (by kernel_rfl) 142 (by kernel_rfl); exact h
                    refine ifw_want 15 false 141 rfl rfl e141 ?_
                    with_reducible refine shown_q (Value.int .i64 (sn : Nat)) ?qq_1_17 (fun _ _ => ?qr_1_17)
                    case qr_1_17 => exact (rfl : (Value.int .i64 (sn : Nat)) = (Value.int .i64 (sn : Nat)))
                    with_reducible refine quietAt_len (.tmp 142) 34 ?h0_1_17 sa sn sc ?h1_1_17 ?h2_1_17
                    case h0_1_17 => rfl
                    case h1_1_17 => exact e142
                    case h2_1_17 => kernel_rfl
                  · intro A u hu hpu hsz hout hdeps
                    have e141 : A.eval (.tmp 141) = (.bool false) := by have h := depL hdeps 15 (by kernel_rfl) 141 (by kernel_rfl); exact h
                    have e143 : A.eval (.tmp 143) = (.int .i64 (sn : Nat)) := by have h := depL hdeps 17 (by kernel_rfl) 143 (by kernel_rfl); exact h
                    refine ifw_want 15 false 141 rfl rfl e141 ?_
                    with_reducible refine shown_q (Value.bool false) ?qq_1_18 (fun _ _ => ?qr_1_18)
                    case qr_1_18 => exact (rfl : (Value.bool false) = (Value.bool false))
                    with_reducible refine quietAt_bin .lss 3 (.tmp 143) (.const (.int .i64 64)) 3 (Value.int .i64 (sn : Nat)) (Value.int .i64 64) (Value.bool false) ?h0_1_18 ?h1_1_18 ?h2_1_18 ?h3_1_18
                    case h0_1_18 => rfl
                    case h1_1_18 => exact e143
                    case h2_1_18 => exact rfl
                    case h3_1_18 => exact HZ6.out _ _ u
                  · intro A u hu hpu hsz hout hdeps
                    have e139 : A.eval (.tmp 139) = (.bool true) := by have h := depL hdeps 13 (by kernel_rfl) 139 (by kernel_rfl); exact h
                    have e141 : A.eval (.tmp 141) = (.bool false) := by have h := depL hdeps 15 (by kernel_rfl) 141 (by kernel_rfl); exact h
                    have e144 : A.eval (.tmp 144) = (.bool false) := by have h := depL hdeps 18 (by kernel_rfl) 144 (by kernel_rfl); exact h
                    refine ifw_want 13 true 139 rfl rfl e139 ?_
                    with_reducible refine shown_q (Value.bool false) ?qq_1_19 (fun _ _ => ?qr_1_19)
                    case qr_1_19 => exact (rfl : (Value.bool false) = (Value.bool false))
                    with_reducible refine quietAt_pick (.tmp 141) (.const (.bool true)) (.tmp 144) false (Value.bool false) ?h0_1_19 ?h1_1_19 ?h2_1_19
                    case h0_1_19 => rfl
                    case h1_1_19 => exact e141
                    case h2_1_19 => rw [if_neg (by decide)]; exact e144
                  · intro A u hu hpu hsz hout hdeps
                    have e139 : A.eval (.tmp 139) = (.bool true) := by have h := depL hdeps 13 (by kernel_rfl) 139 (by kernel_rfl); exact h
                    have e145 : A.eval (.tmp 145) = (.bool false) := by have h := depL hdeps 19 (by kernel_rfl) 145 (by kernel_rfl); exact h
                    refine ifw_none rfl ?_
                    with_reducible refine shown_q (Value.bool false) ?qq_1_20 (fun _ _ => ?qr_1_20)
                    case qr_1_20 => exact (rfl : (Value.bool false) = (Value.bool false))
                    with_reducible refine quietAt_pick (.tmp 139) (.tmp 145) (.const (.bool false)) true (Value.bool false) ?h0_1_20 ?h1_1_20 ?h2_1_20
                    case h0_1_20 => rfl
                    case h1_1_20 => exact e139
                    case h2_1_20 => rw [if_pos rfl]; exact e145
                  · intro A u8 listed hh hall
                    have hA := hh.frame
                    have HU := hid hh.grown
                    obtain ⟨x126, hx126⟩ : ∃ x, A.eval (.tmp 126) = x := ⟨_, rfl⟩
                    have f126 : (fun v _ => v = (Value.int .i64 93)) x126 u8 := by rw [← hx126]; exact hh.got 0 _ 126 rfl rfl (hall 0 (by decide))
                    obtain ⟨x127, hx127⟩ : ∃ x, A.eval (.tmp 127) = x := ⟨_, rfl⟩
                    have f127 : (fun v _ => v = Value.int .i64 93) x127 u8 := by rw [← hx127]; exact hh.got 1 _ 127 rfl rfl (hall 1 (by decide))
                    obtain ⟨x128, hx128⟩ : ∃ x, A.eval (.tmp 128) = x := ⟨_, rfl⟩
                    have f128 : (fun v _ => v = (Value.bool true)) x128 u8 := by rw [← hx128]; exact hh.got 2 _ 128 rfl rfl (hall 2 (by decide))
                    obtain ⟨x129, hx129⟩ : ∃ x, A.eval (.tmp 129) = x := ⟨_, rfl⟩
                    have f129 : (fun v _ => v = (Value.bool true)) x129 u8 := by rw [← hx129]; exact hh.got 3 _ 129 rfl rfl (hall 3 (by decide))
                    obtain ⟨x130, hx130⟩ : ∃ x, A.eval (.tmp 130) = x := ⟨_, rfl⟩
                    have f130 : (fun v _ => v = (Value.slice sa sn sc)) x130 u8 := by rw [← hx130]; exact hh.got 4 _ 130 rfl rfl (hall 4 (by decide))
                    obtain ⟨x131, hx131⟩ : ∃ x, A.eval (.tmp 131) = x := ⟨_, rfl⟩
                    have f131 : (fun v _ => v = Value.int .i64 (us : Nat)) x131 u8 := by rw [← hx131]; exact hh.got 5 _ 131 rfl rfl (hall 5 (by decide))
                    obtain ⟨x132, hx132⟩ : ∃ x, A.eval (.tmp 132) = x := ⟨_, rfl⟩
                    have f132 : (fun v _ => v = (Value.pointer (some ⟨p7, 4, none⟩))) x132 u8 := by rw [← hx132]; exact hh.got 6 _ 132 rfl rfl (hall 6 (by decide))
                    obtain ⟨x133, hx133⟩ : ∃ x, A.eval (.tmp 133) = x := ⟨_, rfl⟩
                    have f133 : (fun v _ => v = (Value.slice o.ba o.bn o.bc)) x133 u8 := by rw [← hx133]; exact hh.got 7 _ 133 rfl rfl (hall 7 (by decide))
                    obtain ⟨x134, hx134⟩ : ∃ x, A.eval (.tmp 134) = x := ⟨_, rfl⟩
                    have f134 : (fun v _ => v = (Value.int .i64 (o.bn : Nat))) x134 u8 := by rw [← hx134]; exact hh.got 8 _ 134 rfl rfl (hall 8 (by decide))
                    obtain ⟨x135, hx135⟩ : ∃ x, A.eval (.tmp 135) = x := ⟨_, rfl⟩
                    have f135 : (fun v _ => v = (Value.int .i64 ((us + o.bn : Nat) : Int))) x135 u8 := by rw [← hx135]; exact hh.got 9 _ 135 rfl rfl (hall 9 (by decide))
                    obtain ⟨x136, hx136⟩ : ∃ x, A.eval (.tmp 136) = x := ⟨_, rfl⟩
                    have f136 : (fun v _ => v = (Value.int .i64 (1 + (rr : Int)))) x136 u8 := by rw [← hx136]; exact hh.got 10 _ 136 rfl rfl (hall 10 (by decide))
                    obtain ⟨x137, hx137⟩ : ∃ x, A.eval (.tmp 137) = x := ⟨_, rfl⟩
                    have f137 : (fun v _ => v = (Value.bool true)) x137 u8 := by rw [← hx137]; exact hh.got 11 _ 137 rfl rfl (hall 11 (by decide))
                    obtain ⟨x138, hx138⟩ : ∃ x, A.eval (.tmp 138) = x := ⟨_, rfl⟩
                    have f138 : (fun v _ => v = (Value.bool true)) x138 u8 := by rw [← hx138]; exact hh.got 12 _ 138 rfl rfl (hall 12 (by decide))
                    obtain ⟨x139, hx139⟩ : ∃ x, A.eval (.tmp 139) = x := ⟨_, rfl⟩
                    have f139 : (fun v _ => v = (Value.bool true)) x139 u8 := by rw [← hx139]; exact hh.got 13 _ 139 rfl rfl (hall 13 (by decide))
                    obtain ⟨x140, hx140⟩ : ∃ x, A.eval (.tmp 140) = x := ⟨_, rfl⟩
                    have f140 : (fun v _ => v = (Value.bool false)) x140 u8 := by rw [← hx140]; exact hh.got 14 _ 140 rfl rfl (hall 14 (by decide))
                    obtain ⟨x141, hx141⟩ : ∃ x, A.eval (.tmp 141) = x := ⟨_, rfl⟩
                    have f141 : (fun v _ => v = (Value.bool false)) x141 u8 := by rw [← hx141]; exact hh.got 15 _ 141 rfl rfl (hall 15 (by decide))
                    obtain ⟨x142, hx142⟩ : ∃ x, A.eval (.tmp 142) = x := ⟨_, rfl⟩
                    have f142 : (fun v _ => v = (Value.slice sa sn sc)) x142 u8 := by rw [← hx142]; exact hh.got 16 _ 142 rfl rfl (hall 16 (by decide))
                    obtain ⟨x143, hx143⟩ : ∃ x, A.eval (.tmp 143) = x := ⟨_, rfl⟩
                    have f143 : (fun v _ => v = (Value.int .i64 (sn : Nat))) x143 u8 := by rw [← hx143]; exact hh.got 17 _ 143 rfl rfl (hall 17 (by decide))
                    obtain ⟨x144, hx144⟩ : ∃ x, A.eval (.tmp 144) = x := ⟨_, rfl⟩
                    have f144 : (fun v _ => v = (Value.bool false)) x144 u8 := by rw [← hx144]; exact hh.got 18 _ 144 rfl rfl (hall 18 (by decide))
                    obtain ⟨x145, hx145⟩ : ∃ x, A.eval (.tmp 145) = x := ⟨_, rfl⟩
                    have f145 : (fun v _ => v = (Value.bool false)) x145 u8 := by rw [← hx145]; exact hh.got 19 _ 145 rfl rfl (hall 19 (by decide))
                    obtain ⟨x146, hx146⟩ : ∃ x, A.eval (.tmp 146) = x := ⟨_, rfl⟩
                    have f146 : (fun v _ => v = (Value.bool false)) x146 u8 := by rw [← hx146]; exact hh.got 20 _ 146 rfl rfl (hall 20 (by decide))
                    dsimp only [wrote, List.foldl] at hA
                    rw [hx126, hx127, hx128, hx129, hx130, hx131, hx132, hx133, hx134, hx135, hx136, hx137, hx138, hx139, hx140, hx141, hx142, hx143, hx144, hx145, hx146] at hA
                    clear hh hall hx126 hx127 hx128 hx129 hx130 hx131 hx132 hx133 hx134 hx135 hx136 hx137 hx138 hx139 hx140 hx141 hx142 hx143 hx144 hx145 hx146
                    replace f126 := (f126 : x126 = (.int .i64 93))
                    subst f126
                    have e127 := (f127 : _ = Value.int .i64 93)
                    subst e127
                    replace f128 := (f128 : x128 = (.bool true))
                    subst f128
                    replace f129 := (f129 : x129 = (.bool true))
                    subst f129
                    replace f130 := (f130 : x130 = (.slice sa sn sc))
                    subst f130
                    have e131 := (f131 : _ = Value.int .i64 (us : Nat))
                    subst e131
                    replace f132 := (f132 : x132 = (.pointer (some ⟨p7, 4, none⟩)))
                    subst f132
                    replace f133 := (f133 : x133 = (.slice o.ba o.bn o.bc))
                    subst f133
                    replace f134 := (f134 : x134 = (.int .i64 (o.bn : Nat)))
                    subst f134
                    replace f135 := (f135 : x135 = (.int .i64 ((us + o.bn : Nat) : Int)))
                    subst f135
                    replace f136 := (f136 : x136 = (.int .i64 (1 + (rr : Int))))
                    subst f136
                    replace f137 := (f137 : x137 = (.bool true))
                    subst f137
                    replace f138 := (f138 : x138 = (.bool true))
                    subst f138
                    replace f139 := (f139 : x139 = (.bool true))
                    subst f139
                    replace f140 := (f140 : x140 = (.bool false))
                    subst f140
                    replace f141 := (f141 : x141 = (.bool false))
                    subst f141
                    replace f142 := (f142 : x142 = (.slice sa sn sc))
                    subst f142
                    replace f143 := (f143 : x143 = (.int .i64 (sn : Nat)))
                    subst f143
                    replace f144 := (f144 : x144 = (.bool false))
                    subst f144
                    replace f145 := (f145 : x145 = (.bool false))
                    subst f145
                    replace f146 := (f146 : x146 = (.bool false))
                    subst f146
                    subst hA
                    show wpList _ _ _ [] _ _
                    unfold wpList
                    simp only [Act.put, List.setIfInBounds_toArray, List.set_cons_succ, List.set_cons_zero]
                    go_wp2_with (first
                      | (go_at_call 23; (with_reducible refine (HTl.out _ (gtrans HX.out (gtrans HU.out HG22.out))).mono ?_); rintro e u10 ⟨rfl, hg⟩; have HG23 := hid (gtrans HG22.out hg); clear hg)
                      | (go_at_call 22; (with_reducible refine (HSM.out _ (gtrans HX.out HU.out)).mono ?_); rintro e u9 ⟨rfl, hg⟩; have HG22 := hid hg; clear hg))
                    go_roundw
                    case rel => exact ⟨i + 1, y, A', by go_num, rfl, by omega, by omega, by omega, HRel.out _ (gtrans HG5.out (gtrans HX.out (gtrans HU.out HG23.out)))⟩
                    case measure => simp [intOf]; omega
                · as_aux_lemma =>
                  have HZ5 : Hid (∀ (x y : Operand) (u : World), (do eqGuard .leq 3 x y (.int .i64 ((us + o.bn : Nat) : Int)) (.int .i64 (1 + (rr : Int))); binOp .leq 3 (.int .i64 ((us + o.bn : Nat) : Int)) (.int .i64 (1 + (rr : Int))) : Sem Value).run Try.prog u = .ok (.bool false) u) := hid (fun x y u => by have e : ¬ ((us + o.bn : Nat) : Int) ≤ 1 + (rr : Int) := (by omega); go_simp; omega)
                  clear hfu HFu hr
                  refine wp_region_listX (by kernel_rfl) [fun v _ => v = (Value.int .i64 93), fun v _ => v = Value.int .i64 93, fun v _ => v = (Value.bool true), fun v _ => v = (Value.bool true), fun v _ => v = (Value.slice sa sn sc), fun v _ => v = Value.int .i64 (us : Nat), fun v _ => v = (Value.pointer (some ⟨p7, 4, none⟩)), fun v _ => v = (Value.slice o.ba o.bn o.bc), fun v _ => v = (Value.int .i64 (o.bn : Nat)), fun v _ => v = (Value.int .i64 ((us + o.bn : Nat) : Int)), fun v _ => v = (Value.int .i64 (1 + (rr : Int))), fun v _ => v = (Value.bool false), fun v _ => v = (Value.bool false), fun v _ => v = (Value.bool false), fun v _ => v = undef, fun v _ => v = undef, fun v _ => v = undef, fun v _ => v = undef, fun v _ => v = undef, fun v _ => v = undef, fun v _ => v = (Value.bool false)] (none) (fun _ => none) 21 (by kernel_rfl) (by kernel_rfl) (by kernel_rfl) (by kernel_rfl) (by decide) noRow_one (fun _ => .inl rfl) ⟨fun i v u u' hki h hg => h, fun i v u u' hki h hg => h, fun i v u u' hki h hg => h, fun i v u u' hki h hg => h, fun i v u u' hki h hg => h, fun i v u u' hki h hg => h, fun i v u u' hki h hg => h, fun i v u u' hki h hg => h, fun i v u u' hki h hg => h, fun i v u u' hki h hg => h, fun i v u u' hki h hg => h, fun i v u u' hki h hg => h, fun i v u u' hki h hg => h, fun i v u u' hki h hg => h, fun i v u u' hki h hg => h, fun i v u u' hki h hg => h, fun i v u u' hki h hg => h, fun i v u u' hki h hg => h, fun i v u u' hki h hg => h, fun i v u u' hki h hg => h, fun i v u u' hki h hg => h, trivial⟩ ⟨?_, ?_, ?_, ?_, ?_, ?_, ?_, ?_, ?_, ?_, ?_, ?_, ?_, ?_, ?_, ?_, ?_, ?_, ?_, ?_, ?_, trivial⟩ ?_
                  · intro A u hu hpu hsz hout hdeps
                    have e10 : A.eval (.tmp 10) = (.int .i64 93) := (hout 10 (by kernel_rfl)).trans rfl
                    refine ifw_none rfl ?_
                    with_reducible refine shown_q (Value.int .i64 93) ?qq_2_0 (fun _ _ => ?qr_2_0)
                    case qr_2_0 => exact (rfl : (Value.int .i64 93) = (Value.int .i64 93))
                    with_reducible refine quietAt_mv (.tmp 10) (Value.int .i64 93) ?h0_2_0 ?h1_2_0
                    case h0_2_0 => rfl
                    case h1_2_0 => exact e10
                  · intro A u hu hpu hsz hout hdeps
                    have e126 : A.eval (.tmp 126) = (.int .i64 93) := by have h := depL hdeps 0 (by kernel_rfl) 126 (by kernel_rfl); exact h
                    refine ifw_none rfl ?_
                    with_reducible refine shown_call 9 Try.f9 ?h0_2_1 ?h1_2_1 ?h2_2_1 #[.tmp 126] #[27] ?h3_2_1 #[(Value.int .i64 93)] ?h4_2_1 ?h5_2_1
                    case h0_2_1 => exact Try.func9
                    case h1_2_1 => kernel_rfl
                    case h2_2_1 => kernel_rfl
                    case h3_2_1 => rfl
                    case h4_2_1 => exact map1 _ _ _ e126
                    case h5_2_1 => exact HNu'.out u
                  · intro A u hu hpu hsz hout hdeps
                    have f127 : (fun v _ => v = Value.int .i64 93) (A.eval (.tmp 127)) u := by have h := depL hdeps 1 (by kernel_rfl) 127 (by kernel_rfl); exact h
                    have e127 := (f127 : _ = Value.int .i64 93)
                    refine ifw_none rfl ?_
                    with_reducible refine shown_q (Value.bool true) ?qq_2_2 (fun _ _ => ?qr_2_2)
                    case qr_2_2 => exact (rfl : (Value.bool true) = (Value.bool true))
                    with_reducible refine quietAt_bin .eql 3 (.tmp 127) (.const (.int .i64 93)) 3 (Value.int .i64 93) (Value.int .i64 93) (Value.bool true) ?h0_2_2 ?h1_2_2 ?h2_2_2 ?h3_2_2
                    case h0_2_2 => rfl
                    case h1_2_2 => exact e127
                    case h2_2_2 => exact rfl
                    case h3_2_2 => exact HZ3.out _ _ u
                  · intro A u hu hpu hsz hout hdeps
                    have e128 : A.eval (.tmp 128) = (.bool true) := by have h := depL hdeps 2 (by kernel_rfl) 128 (by kernel_rfl); exact h
                    refine ifw_none rfl ?_
                    with_reducible refine shown_q (Value.bool true) ?qq_2_3 (fun _ _ => ?qr_2_3)
                    case qr_2_3 => exact (rfl : (Value.bool true) = (Value.bool true))
                    with_reducible refine quietAt_mv (.tmp 128) (Value.bool true) ?h0_2_3 ?h1_2_3
                    case h0_2_3 => rfl
                    case h1_2_3 => exact e128
                  · intro A u hu hpu hsz hout hdeps
                    have e129 : A.eval (.tmp 129) = (.bool true) := by have h := depL hdeps 3 (by kernel_rfl) 129 (by kernel_rfl); exact h
                    have e9 : A.eval (.tmp 9) = (.slice sa sn sc) := (hout 9 (by kernel_rfl)).trans rfl
                    refine ifw_want 3 true 129 rfl rfl e129 ?_
                    with_reducible refine shown_q (Value.slice sa sn sc) ?qq_2_4 (fun _ _ => ?qr_2_4)
                    case qr_2_4 => exact (rfl : (Value.slice sa sn sc) = (Value.slice sa sn sc))
                    with_reducible refine quietAt_mv (.tmp 9) (Value.slice sa sn sc) ?h0_2_4 ?h1_2_4
                    case h0_2_4 => rfl
                    case h1_2_4 => exact e9
                  · intro A u hu hpu hsz hout hdeps
                    have e129 : A.eval (.tmp 129) = (.bool true) := by have h := depL hdeps 3 (by kernel_rfl) 129 (by kernel_rfl); exact h
                    have e130 : A.eval (.tmp 130) = (.slice sa sn sc) := by have h := depL hdeps 4 (by kernel_rfl) 130 (by kernel_rfl); exact h
                    refine ifw_want 3 true 129 rfl rfl e129 ?_
                    with_reducible refine shown_call 22 Try.f22 ?h0_2_5 ?h1_2_5 ?h2_2_5 #[.tmp 130] #[34] ?h3_2_5 #[(Value.slice sa sn sc)] ?h4_2_5 ?h5_2_5
                    case h0_2_5 => exact Try.func22
                    case h1_2_5 => kernel_rfl
                    case h2_2_5 => kernel_rfl
                    case h3_2_5 => rfl
                    case h4_2_5 => exact map1 _ _ _ e130
                    case h5_2_5 => exact HSm.out u (gtrans HX.out hu)
                  · intro A u hu hpu hsz hout hdeps
                    have e129 : A.eval (.tmp 129) = (.bool true) := by have h := depL hdeps 3 (by kernel_rfl) 129 (by kernel_rfl); exact h
                    have e8 : A.eval (.tmp 8) = (.pointer (some ⟨p7, 0, none⟩)) := (hout 8 (by kernel_rfl)).trans rfl
                    refine ifw_want 3 true 129 rfl rfl e129 ?_
                    with_reducible refine shown_q (Value.pointer (some ⟨p7, 4, none⟩)) ?qq_2_6 (fun _ _ => ?qr_2_6)
                    case qr_2_6 => exact (rfl : (Value.pointer (some ⟨p7, 4, none⟩)) = (Value.pointer (some ⟨p7, 4, none⟩)))
                    with_reducible refine quietAt_field 36 (.tmp 8) 4 ?h0_2_6 ⟨p7, 0, none⟩ ⟨p7, 4, none⟩ ?h1_2_6 ?h2_2_6
                    case h0_2_6 => rfl
                    case h1_2_6 => exact e8
                    case h2_2_6 => kernel_rfl
                  · intro A u hu hpu hsz hout hdeps
                    have e129 : A.eval (.tmp 129) = (.bool true) := by have h := depL hdeps 3 (by kernel_rfl) 129 (by kernel_rfl); exact h
                    have e132 : A.eval (.tmp 132) = (.pointer (some ⟨p7, 4, none⟩)) := by have h := depL hdeps 6 (by kernel_rfl) 132 (by kernel_rfl); exact h
                    refine ifw_want 3 true 129 rfl rfl e129 ?_
                    with_reducible refine shown_q (Value.slice o.ba o.bn o.bc) ?qq_2_7 (fun _ _ => ?qr_2_7)
                    case qr_2_7 => exact (rfl : (Value.slice o.ba o.bn o.bc) = (Value.slice o.ba o.bn o.bc))
                    with_reducible refine quietAt_ld 33 (.tmp 132) (Value.pointer (some ⟨p7, 4, none⟩)) (Value.slice o.ba o.bn o.bc) ?h0_2_7 ?h1_2_7 ?h2_2_7
                    case h0_2_7 => rfl
                    case h1_2_7 => exact e132
                    case h2_2_7 => exact ld33 p7 4 o.bn o.bc o.ba u (HK4.out u (gtrans HX.out hu))
                  · intro A u hu hpu hsz hout hdeps
                    have e129 : A.eval (.tmp 129) = (.bool true) := by have h := depL hdeps 3 (by kernel_rfl) 129 (by kernel_rfl); exact h
                    have e133 : A.eval (.tmp 133) = (.slice o.ba o.bn o.bc) := by have h := depL hdeps 7 (by kernel_rfl) 133 (by kernel_rfl); exact h
                    refine ifw_want 3 true 129 rfl rfl e129 ?_
                    with_reducible refine shown_q (Value.int .i64 (o.bn : Nat)) ?qq_2_8 (fun _ _ => ?qr_2_8)
                    case qr_2_8 => exact (rfl : (Value.int .i64 (o.bn : Nat)) = (Value.int .i64 (o.bn : Nat)))
                    with_reducible refine quietAt_len (.tmp 133) 33 ?h0_2_8 o.ba o.bn o.bc ?h1_2_8 ?h2_2_8
                    case h0_2_8 => rfl
                    case h1_2_8 => exact e133
                    case h2_2_8 => kernel_rfl
                  · intro A u hu hpu hsz hout hdeps
                    have e129 : A.eval (.tmp 129) = (.bool true) := by have h := depL hdeps 3 (by kernel_rfl) 129 (by kernel_rfl); exact h
                    have f131 : (fun v _ => v = Value.int .i64 (us : Nat)) (A.eval (.tmp 131)) u := by have h := depL hdeps 5 (by kernel_rfl) 131 (by kernel_rfl); exact h
                    have e131 := (f131 : _ = Value.int .i64 (us : Nat))
                    have e134 : A.eval (.tmp 134) = (.int .i64 (o.bn : Nat)) := by have h := depL hdeps 8 (by kernel_rfl) 134 (by kernel_rfl); exact h
                    refine ifw_want 3 true 129 rfl rfl e129 ?_
                    with_reducible refine shown_q (Value.int .i64 ((us + o.bn : Nat) : Int)) ?qq_2_9 (fun _ _ => ?qr_2_9)
                    case qr_2_9 => exact (rfl : (Value.int .i64 ((us + o.bn : Nat) : Int)) = (Value.int .i64 ((us + o.bn : Nat) : Int)))
                    with_reducible refine quietAt_bin .add 3 (.tmp 131) (.tmp 134) 3 (Value.int .i64 (us : Nat)) (Value.int .i64 (o.bn : Nat)) (Value.int .i64 ((us + o.bn : Nat) : Int)) ?h0_2_9 ?h1_2_9 ?h2_2_9 ?h3_2_9
                    case h0_2_9 => rfl
                    case h1_2_9 => exact e131
                    case h2_2_9 => exact e134
                    case h3_2_9 => exact HZ4.out _ _ u
                  · intro A u hu hpu hsz hout hdeps
                    have e129 : A.eval (.tmp 129) = (.bool true) := by have h := depL hdeps 3 (by kernel_rfl) 129 (by kernel_rfl); exact h
                    have e3 : A.eval (.tmp 3) = (.int .i64 (1 + (rr : Int))) := (hout 3 (by kernel_rfl)).trans rfl
                    refine ifw_want 3 true 129 rfl rfl e129 ?_
                    with_reducible refine shown_q (Value.int .i64 (1 + (rr : Int))) ?qq_2_10 (fun _ _ => ?qr_2_10)
                    case qr_2_10 => exact (rfl : (Value.int .i64 (1 + (rr : Int))) = (Value.int .i64 (1 + (rr : Int))))
                    with_reducible refine quietAt_mv (.tmp 3) (Value.int .i64 (1 + (rr : Int))) ?h0_2_10 ?h1_2_10
                    case h0_2_10 => rfl
                    case h1_2_10 => exact e3
                  · intro A u hu hpu hsz hout hdeps
                    have e129 : A.eval (.tmp 129) = (.bool true) := by have h := depL hdeps 3 (by kernel_rfl) 129 (by kernel_rfl); exact h
                    have e135 : A.eval (.tmp 135) = (.int .i64 ((us + o.bn : Nat) : Int)) := by have h := depL hdeps 9 (by kernel_rfl) 135 (by kernel_rfl); exact h
                    have e136 : A.eval (.tmp 136) = (.int .i64 (1 + (rr : Int))) := by have h := depL hdeps 10 (by kernel_rfl) 136 (by kernel_rfl); exact h
                    refine ifw_want 3 true 129 rfl rfl e129 ?_
                    with_reducible refine shown_q (Value.bool false) ?qq_2_11 (fun _ _ => ?qr_2_11)
                    case qr_2_11 => exact (rfl : (Value.bool false) = (Value.bool false))
                    with_reducible refine quietAt_bin .leq 3 (.tmp 135) (.tmp 136) 3 (Value.int .i64 ((us + o.bn : Nat) : Int)) (Value.int .i64 (1 + (rr : Int))) (Value.bool false) ?h0_2_11 ?h1_2_11 ?h2_2_11 ?h3_2_11
                    case h0_2_11 => rfl
                    case h1_2_11 => exact e135
                    case h2_2_11 => exact e136
                    case h3_2_11 => exact HZ5.out _ _ u
                  · intro A u hu hpu hsz hout hdeps
                    have e129 : A.eval (.tmp 129) = (.bool true) := by have h := depL hdeps 3 (by kernel_rfl) 129 (by kernel_rfl); exact h
                    have e137 : A.eval (.tmp 137) = (.bool false) := by have h := depL hdeps 11 (by kernel_rfl) 137 (by kernel_rfl); exact h
                    refine ifw_none rfl ?_
                    with_reducible refine shown_q (Value.bool false) ?qq_2_12 (fun _ _ => ?qr_2_12)
                    case qr_2_12 => exact (rfl : (Value.bool false) = (Value.bool false))
                    with_reducible refine quietAt_pick (.tmp 129) (.tmp 137) (.const (.bool false)) true (Value.bool false) ?h0_2_12 ?h1_2_12 ?h2_2_12
                    case h0_2_12 => rfl
                    case h1_2_12 => exact e129
                    case h2_2_12 => rw [if_pos rfl]; exact e137
                  · intro A u hu hpu hsz hout hdeps
                    have e138 : A.eval (.tmp 138) = (.bool false) := by have h := depL hdeps 12 (by kernel_rfl) 138 (by kernel_rfl); exact h
                    refine ifw_none rfl ?_
                    with_reducible refine shown_q (Value.bool false) ?qq_2_13 (fun _ _ => ?qr_2_13)
                    case qr_2_13 => exact (rfl : (Value.bool false) = (Value.bool false))
                    with_reducible refine quietAt_mv (.tmp 138) (Value.bool false) ?h0_2_13 ?h1_2_13
                    case h0_2_13 => rfl
                    case h1_2_13 => exact e138
                  · intro A u hu hpu hsz hout hdeps
                    have e139 : A.eval (.tmp 139) = (.bool false) := by have h := depL hdeps 13 (by kernel_rfl) 139 (by kernel_rfl); exact h
                    refine ifw_pass 13 true false 139 rfl rfl e139 (by decide) ?_
                    exact rfl
                  · intro A u hu hpu hsz hout hdeps
                    have e139 : A.eval (.tmp 139) = (.bool false) := by have h := depL hdeps 13 (by kernel_rfl) 139 (by kernel_rfl); exact h
                    refine ifw_pass 13 true false 139 rfl rfl e139 (by decide) ?_
                    exact rfl
                  · intro A u hu hpu hsz hout hdeps
                    have e141 : A.eval (.tmp 141) = undef := by have h := depL hdeps 15 (by kernel_rfl) 141 (by kernel_rfl); exact h
                    refine ifw_undef 15 false 141 rfl rfl e141 ?_
                    exact rfl
                  · intro A u hu hpu hsz hout hdeps
                    have e141 : A.eval (.tmp 141) = undef := by have h := depL hdeps 15 (by kernel_rfl) 141 (by kernel_rfl); exact h
                    refine ifw_undef 15 false 141 rfl rfl e141 ?_
                    exact rfl
                  · intro A u hu hpu hsz hout hdeps
                    have e141 : A.eval (.tmp 141) = undef := by have h := depL hdeps 15 (by kernel_rfl) 141 (by kernel_rfl); exact h
                    refine ifw_undef 15 false 141 rfl rfl e141 ?_
                    exact rfl
                  · intro A u hu hpu hsz hout hdeps
                    have e139 : A.eval (.tmp 139) = (.bool false) := by have h := depL hdeps 13 (by kernel_rfl) 139 (by kernel_rfl); exact h
                    refine ifw_pass 13 true false 139 rfl rfl e139 (by decide) ?_
                    exact rfl
                  · intro A u hu hpu hsz hout hdeps
                    have e139 : A.eval (.tmp 139) = (.bool false) := by have h := depL hdeps 13 (by kernel_rfl) 139 (by kernel_rfl); exact h
                    refine ifw_none rfl ?_
                    with_reducible refine shown_q (Value.bool false) ?qq_2_20 (fun _ _ => ?qr_2_20)
                    case qr_2_20 => exact (rfl : (Value.bool false) = (Value.bool false))
                    with_reducible refine quietAt_pick (.tmp 139) (.tmp 145) (.const (.bool false)) false (Value.bool false) ?h0_2_20 ?h1_2_20 ?h2_2_20
                    case h0_2_20 => rfl
                    case h1_2_20 => exact e139
                    case h2_2_20 => rw [if_neg (by decide)]; exact rfl
                  · intro A u8 listed hh hall
                    have hA := hh.frame
                    have HU := hid hh.grown
                    obtain ⟨x126, hx126⟩ : ∃ x, A.eval (.tmp 126) = x := ⟨_, rfl⟩
                    have f126 : (fun v _ => v = (Value.int .i64 93)) x126 u8 := by rw [← hx126]; exact hh.got 0 _ 126 rfl rfl (hall 0 (by decide))
                    obtain ⟨x127, hx127⟩ : ∃ x, A.eval (.tmp 127) = x := ⟨_, rfl⟩
                    have f127 : (fun v _ => v = Value.int .i64 93) x127 u8 := by rw [← hx127]; exact hh.got 1 _ 127 rfl rfl (hall 1 (by decide))
                    obtain ⟨x128, hx128⟩ : ∃ x, A.eval (.tmp 128) = x := ⟨_, rfl⟩
                    have f128 : (fun v _ => v = (Value.bool true)) x128 u8 := by rw [← hx128]; exact hh.got 2 _ 128 rfl rfl (hall 2 (by decide))
                    obtain ⟨x129, hx129⟩ : ∃ x, A.eval (.tmp 129) = x := ⟨_, rfl⟩
                    have f129 : (fun v _ => v = (Value.bool true)) x129 u8 := by rw [← hx129]; exact hh.got 3 _ 129 rfl rfl (hall 3 (by decide))
                    obtain ⟨x130, hx130⟩ : ∃ x, A.eval (.tmp 130) = x := ⟨_, rfl⟩
                    have f130 : (fun v _ => v = (Value.slice sa sn sc)) x130 u8 := by rw [← hx130]; exact hh.got 4 _ 130 rfl rfl (hall 4 (by decide))
                    obtain ⟨x131, hx131⟩ : ∃ x, A.eval (.tmp 131) = x := ⟨_, rfl⟩
                    have f131 : (fun v _ => v = Value.int .i64 (us : Nat)) x131 u8 := by rw [← hx131]; exact hh.got 5 _ 131 rfl rfl (hall 5 (by decide))
                    obtain ⟨x132, hx132⟩ : ∃ x, A.eval (.tmp 132) = x := ⟨_, rfl⟩
                    have f132 : (fun v _ => v = (Value.pointer (some ⟨p7, 4, none⟩))) x132 u8 := by rw [← hx132]; exact hh.got 6 _ 132 rfl rfl (hall 6 (by decide))
                    obtain ⟨x133, hx133⟩ : ∃ x, A.eval (.tmp 133) = x := ⟨_, rfl⟩
                    have f133 : (fun v _ => v = (Value.slice o.ba o.bn o.bc)) x133 u8 := by rw [← hx133]; exact hh.got 7 _ 133 rfl rfl (hall 7 (by decide))
                    obtain ⟨x134, hx134⟩ : ∃ x, A.eval (.tmp 134) = x := ⟨_, rfl⟩
                    have f134 : (fun v _ => v = (Value.int .i64 (o.bn : Nat))) x134 u8 := by rw [← hx134]; exact hh.got 8 _ 134 rfl rfl (hall 8 (by decide))
                    obtain ⟨x135, hx135⟩ : ∃ x, A.eval (.tmp 135) = x := ⟨_, rfl⟩
                    have f135 : (fun v _ => v = (Value.int .i64 ((us + o.bn : Nat) : Int))) x135 u8 := by rw [← hx135]; exact hh.got 9 _ 135 rfl rfl (hall 9 (by decide))
                    obtain ⟨x136, hx136⟩ : ∃ x, A.eval (.tmp 136) = x := ⟨_, rfl⟩
                    have f136 : (fun v _ => v = (Value.int .i64 (1 + (rr : Int)))) x136 u8 := by rw [← hx136]; exact hh.got 10 _ 136 rfl rfl (hall 10 (by decide))
                    obtain ⟨x137, hx137⟩ : ∃ x, A.eval (.tmp 137) = x := ⟨_, rfl⟩
                    have f137 : (fun v _ => v = (Value.bool false)) x137 u8 := by rw [← hx137]; exact hh.got 11 _ 137 rfl rfl (hall 11 (by decide))
                    obtain ⟨x138, hx138⟩ : ∃ x, A.eval (.tmp 138) = x := ⟨_, rfl⟩
                    have f138 : (fun v _ => v = (Value.bool false)) x138 u8 := by rw [← hx138]; exact hh.got 12 _ 138 rfl rfl (hall 12 (by decide))
                    obtain ⟨x139, hx139⟩ : ∃ x, A.eval (.tmp 139) = x := ⟨_, rfl⟩
                    have f139 : (fun v _ => v = (Value.bool false)) x139 u8 := by rw [← hx139]; exact hh.got 13 _ 139 rfl rfl (hall 13 (by decide))
                    obtain ⟨x140, hx140⟩ : ∃ x, A.eval (.tmp 140) = x := ⟨_, rfl⟩
                    have f140 : (fun v _ => v = undef) x140 u8 := by rw [← hx140]; exact hh.got 14 _ 140 rfl rfl (hall 14 (by decide))
                    obtain ⟨x141, hx141⟩ : ∃ x, A.eval (.tmp 141) = x := ⟨_, rfl⟩
                    have f141 : (fun v _ => v = undef) x141 u8 := by rw [← hx141]; exact hh.got 15 _ 141 rfl rfl (hall 15 (by decide))
                    obtain ⟨x142, hx142⟩ : ∃ x, A.eval (.tmp 142) = x := ⟨_, rfl⟩
                    have f142 : (fun v _ => v = undef) x142 u8 := by rw [← hx142]; exact hh.got 16 _ 142 rfl rfl (hall 16 (by decide))
                    obtain ⟨x143, hx143⟩ : ∃ x, A.eval (.tmp 143) = x := ⟨_, rfl⟩
                    have f143 : (fun v _ => v = undef) x143 u8 := by rw [← hx143]; exact hh.got 17 _ 143 rfl rfl (hall 17 (by decide))
                    obtain ⟨x144, hx144⟩ : ∃ x, A.eval (.tmp 144) = x := ⟨_, rfl⟩
                    have f144 : (fun v _ => v = undef) x144 u8 := by rw [← hx144]; exact hh.got 18 _ 144 rfl rfl (hall 18 (by decide))
                    obtain ⟨x145, hx145⟩ : ∃ x, A.eval (.tmp 145) = x := ⟨_, rfl⟩
                    have f145 : (fun v _ => v = undef) x145 u8 := by rw [← hx145]; exact hh.got 19 _ 145 rfl rfl (hall 19 (by decide))
                    obtain ⟨x146, hx146⟩ : ∃ x, A.eval (.tmp 146) = x := ⟨_, rfl⟩
                    have f146 : (fun v _ => v = (Value.bool false)) x146 u8 := by rw [← hx146]; exact hh.got 20 _ 146 rfl rfl (hall 20 (by decide))
                    dsimp only [wrote, List.foldl] at hA
                    rw [hx126, hx127, hx128, hx129, hx130, hx131, hx132, hx133, hx134, hx135, hx136, hx137, hx138, hx139, hx140, hx141, hx142, hx143, hx144, hx145, hx146] at hA
                    clear hh hall hx126 hx127 hx128 hx129 hx130 hx131 hx132 hx133 hx134 hx135 hx136 hx137 hx138 hx139 hx140 hx141 hx142 hx143 hx144 hx145 hx146
                    replace f126 := (f126 : x126 = (.int .i64 93))
                    subst f126
                    have e127 := (f127 : _ = Value.int .i64 93)
                    subst e127
                    replace f128 := (f128 : x128 = (.bool true))
                    subst f128
                    replace f129 := (f129 : x129 = (.bool true))
                    subst f129
                    replace f130 := (f130 : x130 = (.slice sa sn sc))
                    subst f130
                    have e131 := (f131 : _ = Value.int .i64 (us : Nat))
                    subst e131
                    replace f132 := (f132 : x132 = (.pointer (some ⟨p7, 4, none⟩)))
                    subst f132
                    replace f133 := (f133 : x133 = (.slice o.ba o.bn o.bc))
                    subst f133
                    replace f134 := (f134 : x134 = (.int .i64 (o.bn : Nat)))
                    subst f134
                    replace f135 := (f135 : x135 = (.int .i64 ((us + o.bn : Nat) : Int)))
                    subst f135
                    replace f136 := (f136 : x136 = (.int .i64 (1 + (rr : Int))))
                    subst f136
                    replace f137 := (f137 : x137 = (.bool false))
                    subst f137
                    replace f138 := (f138 : x138 = (.bool false))
                    subst f138
                    replace f139 := (f139 : x139 = (.bool false))
                    subst f139
                    replace f140 := (f140 : x140 = undef)
                    subst f140
                    replace f141 := (f141 : x141 = undef)
                    subst f141
                    replace f142 := (f142 : x142 = undef)
                    subst f142
                    replace f143 := (f143 : x143 = undef)
                    subst f143
                    replace f144 := (f144 : x144 = undef)
                    subst f144
                    replace f145 := (f145 : x145 = undef)
                    subst f145
                    replace f146 := (f146 : x146 = (.bool false))
                    subst f146
                    subst hA
                    show wpList _ _ _ [] _ _
                    unfold wpList
                    simp only [Act.put, List.setIfInBounds_toArray, List.set_cons_succ, List.set_cons_zero]
                    go_wp2_with (first
                      | (go_at_call 23; (with_reducible refine (HTl.out _ (gtrans HX.out (gtrans HU.out HG22.out))).mono ?_); rintro e u10 ⟨rfl, hg⟩; have HG23 := hid (gtrans HG22.out hg); clear hg)
                      | (go_at_call 22; (with_reducible refine (HSM.out _ (gtrans HX.out HU.out)).mono ?_); rintro e u9 ⟨rfl, hg⟩; have HG22 := hid hg; clear hg))
                    go_roundw
                    case rel => exact ⟨i + 1, y, A', by go_num, rfl, by omega, by omega, by omega, HRel.out _ (gtrans HG5.out (gtrans HX.out (gtrans HU.out HG23.out)))⟩
                    case measure => simp [intOf]; omega
              · as_aux_lemma =>
                have HZ3 : Hid (∀ (x y : Operand) (u : World), (do eqGuard .eql 3 x y (.int .i64 E) (.int .i64 93); binOp .eql 3 (.int .i64 E) (.int .i64 93) : Sem Value).run Try.prog u = .ok (.bool false) u) := hid (fun x y u => by go_simp)
                clear HFu hE9 hE0
                refine wp_region_listX (by kernel_rfl) [fun v _ => v = (Value.int .i64 E), fun v _ => v = Value.int .i64 E, fun v _ => v = (Value.bool false), fun v _ => v = (Value.bool false), fun v _ => v = undef, fun v _ => v = undef, fun v _ => v = undef, fun v _ => v = undef, fun v _ => v = undef, fun v _ => v = undef, fun v _ => v = undef, fun v _ => v = undef, fun v _ => v = (Value.bool false), fun v _ => v = (Value.bool false), fun v _ => v = undef, fun v _ => v = undef, fun v _ => v = undef, fun v _ => v = undef, fun v _ => v = undef, fun v _ => v = undef, fun v _ => v = (Value.bool false)] (none) (fun _ => none) 21 (by kernel_rfl) (by kernel_rfl) (by kernel_rfl) (by kernel_rfl) (by decide) noRow_one (fun _ => .inl rfl) ⟨fun i v u u' hki h hg => h, fun i v u u' hki h hg => h, fun i v u u' hki h hg => h, fun i v u u' hki h hg => h, fun i v u u' hki h hg => h, fun i v u u' hki h hg => h, fun i v u u' hki h hg => h, fun i v u u' hki h hg => h, fun i v u u' hki h hg => h, fun i v u u' hki h hg => h, fun i v u u' hki h hg => h, fun i v u u' hki h hg => h, fun i v u u' hki h hg => h, fun i v u u' hki h hg => h, fun i v u u' hki h hg => h, fun i v u u' hki h hg => h, fun i v u u' hki h hg => h, fun i v u u' hki h hg => h, fun i v u u' hki h hg => h, fun i v u u' hki h hg => h, fun i v u u' hki h hg => h, trivial⟩ ⟨?_, ?_, ?_, ?_, ?_, ?_, ?_, ?_, ?_, ?_, ?_, ?_, ?_, ?_, ?_, ?_, ?_, ?_, ?_, ?_, ?_, trivial⟩ ?_
                · intro A u hu hpu hsz hout hdeps
                  have e10 : A.eval (.tmp 10) = (.int .i64 E) := (hout 10 (by kernel_rfl)).trans rfl
                  refine ifw_none rfl ?_
                  with_reducible refine shown_q (Value.int .i64 E) ?qq_3_0 (fun _ _ => ?qr_3_0)
                  case qr_3_0 => exact (rfl : (Value.int .i64 E) = (Value.int .i64 E))
                  with_reducible refine quietAt_mv (.tmp 10) (Value.int .i64 E) ?h0_3_0 ?h1_3_0
                  case h0_3_0 => rfl
                  case h1_3_0 => exact e10
                · intro A u hu hpu hsz hout hdeps
                  have e126 : A.eval (.tmp 126) = (.int .i64 E) := by have h := depL hdeps 0 (by kernel_rfl) 126 (by kernel_rfl); exact h
                  refine ifw_none rfl ?_
                  with_reducible refine shown_call 9 Try.f9 ?h0_3_1 ?h1_3_1 ?h2_3_1 #[.tmp 126] #[27] ?h3_3_1 #[(Value.int .i64 E)] ?h4_3_1 ?h5_3_1
                  case h0_3_1 => exact Try.func9
                  case h1_3_1 => kernel_rfl
                  case h2_3_1 => kernel_rfl
                  case h3_3_1 => rfl
                  case h4_3_1 => exact map1 _ _ _ e126
                  case h5_3_1 => exact HNu'.out u
                · intro A u hu hpu hsz hout hdeps
                  have f127 : (fun v _ => v = Value.int .i64 E) (A.eval (.tmp 127)) u := by have h := depL hdeps 1 (by kernel_rfl) 127 (by kernel_rfl); exact h
                  have e127 := (f127 : _ = Value.int .i64 E)
                  refine ifw_none rfl ?_
                  with_reducible refine shown_q (Value.bool false) ?qq_3_2 (fun _ _ => ?qr_3_2)
                  case qr_3_2 => exact (rfl : (Value.bool false) = (Value.bool false))
                  with_reducible refine quietAt_bin .eql 3 (.tmp 127) (.const (.int .i64 93)) 3 (Value.int .i64 E) (Value.int .i64 93) (Value.bool false) ?h0_3_2 ?h1_3_2 ?h2_3_2 ?h3_3_2
                  case h0_3_2 => rfl
                  case h1_3_2 => exact e127
                  case h2_3_2 => exact rfl
                  case h3_3_2 => exact HZ3.out _ _ u
                · intro A u hu hpu hsz hout hdeps
                  have e128 : A.eval (.tmp 128) = (.bool false) := by have h := depL hdeps 2 (by kernel_rfl) 128 (by kernel_rfl); exact h
                  refine ifw_none rfl ?_
                  with_reducible refine shown_q (Value.bool false) ?qq_3_3 (fun _ _ => ?qr_3_3)
                  case qr_3_3 => exact (rfl : (Value.bool false) = (Value.bool false))
                  with_reducible refine quietAt_mv (.tmp 128) (Value.bool false) ?h0_3_3 ?h1_3_3
                  case h0_3_3 => rfl
                  case h1_3_3 => exact e128
                · intro A u hu hpu hsz hout hdeps
                  have e129 : A.eval (.tmp 129) = (.bool false) := by have h := depL hdeps 3 (by kernel_rfl) 129 (by kernel_rfl); exact h
                  refine ifw_pass 3 true false 129 rfl rfl e129 (by decide) ?_
                  exact rfl
                · intro A u hu hpu hsz hout hdeps
                  have e129 : A.eval (.tmp 129) = (.bool false) := by have h := depL hdeps 3 (by kernel_rfl) 129 (by kernel_rfl); exact h
                  refine ifw_pass 3 true false 129 rfl rfl e129 (by decide) ?_
                  exact rfl
                · intro A u hu hpu hsz hout hdeps
                  have e129 : A.eval (.tmp 129) = (.bool false) := by have h := depL hdeps 3 (by kernel_rfl) 129 (by kernel_rfl); exact h
                  refine ifw_pass 3 true false 129 rfl rfl e129 (by decide) ?_
                  exact rfl
                · intro A u hu hpu hsz hout hdeps
                  have e129 : A.eval (.tmp 129) = (.bool false) := by have h := depL hdeps 3 (by kernel_rfl) 129 (by kernel_rfl); exact h
                  refine ifw_pass 3 true false 129 rfl rfl e129 (by decide) ?_
                  exact rfl
                · intro A u hu hpu hsz hout hdeps
                  have e129 : A.eval (.tmp 129) = (.bool false) := by have h := depL hdeps 3 (by kernel_rfl) 129 (by kernel_rfl); exact h
                  refine ifw_pass 3 true false 129 rfl rfl e129 (by decide) ?_
                  exact rfl
                · intro A u hu hpu hsz hout hdeps
                  have e129 : A.eval (.tmp 129) = (.bool false) := by have h := depL hdeps 3 (by kernel_rfl) 129 (by kernel_rfl); exact h
                  refine ifw_pass 3 true false 129 rfl rfl e129 (by decide) ?_
                  exact rfl
                · intro A u hu hpu hsz hout hdeps
                  have e129 : A.eval (.tmp 129) = (.bool false) := by have h := depL hdeps 3 (by kernel_rfl) 129 (by kernel_rfl); exact h
                  refine ifw_pass 3 true false 129 rfl rfl e129 (by decide) ?_
                  exact rfl
                · intro A u hu hpu hsz hout hdeps
                  have e129 : A.eval (.tmp 129) = (.bool false) := by have h := depL hdeps 3 (by kernel_rfl) 129 (by kernel_rfl); exact h
                  refine ifw_pass 3 true false 129 rfl rfl e129 (by decide) ?_
                  exact rfl
                · intro A u hu hpu hsz hout hdeps
                  have e129 : A.eval (.tmp 129) = (.bool false) := by have h := depL hdeps 3 (by kernel_rfl) 129 (by kernel_rfl); exact h
                  refine ifw_none rfl ?_
                  with_reducible refine shown_q (Value.bool false) ?qq_3_12 (fun _ _ => ?qr_3_12)
                  case qr_3_12 => exact (rfl : (Value.bool false) = (Value.bool false))
                  with_reducible refine quietAt_pick (.tmp 129) (.tmp 137) (.const (.bool false)) false (Value.bool false) ?h0_3_12 ?h1_3_12 ?h2_3_12
                  case h0_3_12 => rfl
                  case h1_3_12 => exact e129
                  case h2_3_12 => rw [if_neg (by decide)]; exact rfl
                · intro A u hu hpu hsz hout hdeps
                  have e138 : A.eval (.tmp 138) = (.bool false) := by have h := depL hdeps 12 (by kernel_rfl) 138 (by kernel_rfl); exact h
                  refine ifw_none rfl ?_
                  with_reducible refine shown_q (Value.bool false) ?qq_3_13 (fun _ _ => ?qr_3_13)
                  case qr_3_13 => exact (rfl : (Value.bool false) = (Value.bool false))
                  with_reducible refine quietAt_mv (.tmp 138) (Value.bool false) ?h0_3_13 ?h1_3_13
                  case h0_3_13 => rfl
                  case h1_3_13 => exact e138
                · intro A u hu hpu hsz hout hdeps
                  have e139 : A.eval (.tmp 139) = (.bool false) := by have h := depL hdeps 13 (by kernel_rfl) 139 (by kernel_rfl); exact h
                  refine ifw_pass 13 true false 139 rfl rfl e139 (by decide) ?_
                  exact rfl
                · intro A u hu hpu hsz hout hdeps
                  have e139 : A.eval (.tmp 139) = (.bool false) := by have h := depL hdeps 13 (by kernel_rfl) 139 (by kernel_rfl); exact h
                  refine ifw_pass 13 true false 139 rfl rfl e139 (by decide) ?_
                  exact rfl
                · intro A u hu hpu hsz hout hdeps
                  have e141 : A.eval (.tmp 141) = undef := by have h := depL hdeps 15 (by kernel_rfl) 141 (by kernel_rfl); exact h
                  refine ifw_undef 15 false 141 rfl rfl e141 ?_
                  exact rfl
                · intro A u hu hpu hsz hout hdeps
                  have e141 : A.eval (.tmp 141) = undef := by have h := depL hdeps 15 (by kernel_rfl) 141 (by kernel_rfl); exact h
                  refine ifw_undef 15 false 141 rfl rfl e141 ?_
                  exact rfl
                · intro A u hu hpu hsz hout hdeps
                  have e141 : A.eval (.tmp 141) = undef := by have h := depL hdeps 15 (by kernel_rfl) 141 (by kernel_rfl); exact h
                  refine ifw_undef 15 false 141 rfl rfl e141 ?_
                  exact rfl
                · intro A u hu hpu hsz hout hdeps
                  have e139 : A.eval (.tmp 139) = (.bool false) := by have h := depL hdeps 13 (by kernel_rfl) 139 (by kernel_rfl); exact h
                  refine ifw_pass 13 true false 139 rfl rfl e139 (by decide) ?_
                  exact rfl
                · intro A u hu hpu hsz hout hdeps
                  have e139 : A.eval (.tmp 139) = (.bool false) := by have h := depL hdeps 13 (by kernel_rfl) 139 (by kernel_rfl); exact h
                  refine ifw_none rfl ?_
                  with_reducible refine shown_q (Value.bool false) ?qq_3_20 (fun _ _ => ?qr_3_20)
                  case qr_3_20 => exact (rfl : (Value.bool false) = (Value.bool false))
                  with_reducible refine quietAt_pick (.tmp 139) (.tmp 145) (.const (.bool false)) false (Value.bool false) ?h0_3_20 ?h1_3_20 ?h2_3_20
                  case h0_3_20 => rfl
                  case h1_3_20 => exact e139
                  case h2_3_20 => rw [if_neg (by decide)]; exact rfl
                · intro A u8 listed hh hall
                  have hA := hh.frame
                  have HU := hid hh.grown
                  obtain ⟨x126, hx126⟩ : ∃ x, A.eval (.tmp 126) = x := ⟨_, rfl⟩
                  have f126 : (fun v _ => v = (Value.int .i64 E)) x126 u8 := by rw [← hx126]; exact hh.got 0 _ 126 rfl rfl (hall 0 (by decide))
                  obtain ⟨x127, hx127⟩ : ∃ x, A.eval (.tmp 127) = x := ⟨_, rfl⟩
                  have f127 : (fun v _ => v = Value.int .i64 E) x127 u8 := by rw [← hx127]; exact hh.got 1 _ 127 rfl rfl (hall 1 (by decide))
                  obtain ⟨x128, hx128⟩ : ∃ x, A.eval (.tmp 128) = x := ⟨_, rfl⟩
                  have f128 : (fun v _ => v = (Value.bool false)) x128 u8 := by rw [← hx128]; exact hh.got 2 _ 128 rfl rfl (hall 2 (by decide))
                  obtain ⟨x129, hx129⟩ : ∃ x, A.eval (.tmp 129) = x := ⟨_, rfl⟩
                  have f129 : (fun v _ => v = (Value.bool false)) x129 u8 := by rw [← hx129]; exact hh.got 3 _ 129 rfl rfl (hall 3 (by decide))
                  obtain ⟨x130, hx130⟩ : ∃ x, A.eval (.tmp 130) = x := ⟨_, rfl⟩
                  have f130 : (fun v _ => v = undef) x130 u8 := by rw [← hx130]; exact hh.got 4 _ 130 rfl rfl (hall 4 (by decide))
                  obtain ⟨x131, hx131⟩ : ∃ x, A.eval (.tmp 131) = x := ⟨_, rfl⟩
                  have f131 : (fun v _ => v = undef) x131 u8 := by rw [← hx131]; exact hh.got 5 _ 131 rfl rfl (hall 5 (by decide))
                  obtain ⟨x132, hx132⟩ : ∃ x, A.eval (.tmp 132) = x := ⟨_, rfl⟩
                  have f132 : (fun v _ => v = undef) x132 u8 := by rw [← hx132]; exact hh.got 6 _ 132 rfl rfl (hall 6 (by decide))
                  obtain ⟨x133, hx133⟩ : ∃ x, A.eval (.tmp 133) = x := ⟨_, rfl⟩
                  have f133 : (fun v _ => v = undef) x133 u8 := by rw [← hx133]; exact hh.got 7 _ 133 rfl rfl (hall 7 (by decide))
                  obtain ⟨x134, hx134⟩ : ∃ x, A.eval (.tmp 134) = x := ⟨_, rfl⟩
                  have f134 : (fun v _ => v = undef) x134 u8 := by rw [← hx134]; exact hh.got 8 _ 134 rfl rfl (hall 8 (by decide))
                  obtain ⟨x135, hx135⟩ : ∃ x, A.eval (.tmp 135) = x := ⟨_, rfl⟩
                  have f135 : (fun v _ => v = undef) x135 u8 := by rw [← hx135]; exact hh.got 9 _ 135 rfl rfl (hall 9 (by decide))
                  obtain ⟨x136, hx136⟩ : ∃ x, A.eval (.tmp 136) = x := ⟨_, rfl⟩
                  have f136 : (fun v _ => v = undef) x136 u8 := by rw [← hx136]; exact hh.got 10 _ 136 rfl rfl (hall 10 (by decide))
                  obtain ⟨x137, hx137⟩ : ∃ x, A.eval (.tmp 137) = x := ⟨_, rfl⟩
                  have f137 : (fun v _ => v = undef) x137 u8 := by rw [← hx137]; exact hh.got 11 _ 137 rfl rfl (hall 11 (by decide))
                  obtain ⟨x138, hx138⟩ : ∃ x, A.eval (.tmp 138) = x := ⟨_, rfl⟩
                  have f138 : (fun v _ => v = (Value.bool false)) x138 u8 := by rw [← hx138]; exact hh.got 12 _ 138 rfl rfl (hall 12 (by decide))
                  obtain ⟨x139, hx139⟩ : ∃ x, A.eval (.tmp 139) = x := ⟨_, rfl⟩
                  have f139 : (fun v _ => v = (Value.bool false)) x139 u8 := by rw [← hx139]; exact hh.got 13 _ 139 rfl rfl (hall 13 (by decide))
                  obtain ⟨x140, hx140⟩ : ∃ x, A.eval (.tmp 140) = x := ⟨_, rfl⟩
                  have f140 : (fun v _ => v = undef) x140 u8 := by rw [← hx140]; exact hh.got 14 _ 140 rfl rfl (hall 14 (by decide))
                  obtain ⟨x141, hx141⟩ : ∃ x, A.eval (.tmp 141) = x := ⟨_, rfl⟩
                  have f141 : (fun v _ => v = undef) x141 u8 := by rw [← hx141]; exact hh.got 15 _ 141 rfl rfl (hall 15 (by decide))
                  obtain ⟨x142, hx142⟩ : ∃ x, A.eval (.tmp 142) = x := ⟨_, rfl⟩
                  have f142 : (fun v _ => v = undef) x142 u8 := by rw [← hx142]; exact hh.got 16 _ 142 rfl rfl (hall 16 (by decide))
                  obtain ⟨x143, hx143⟩ : ∃ x, A.eval (.tmp 143) = x := ⟨_, rfl⟩
                  have f143 : (fun v _ => v = undef) x143 u8 := by rw [← hx143]; exact hh.got 17 _ 143 rfl rfl (hall 17 (by decide))
                  obtain ⟨x144, hx144⟩ : ∃ x, A.eval (.tmp 144) = x := ⟨_, rfl⟩
                  have f144 : (fun v _ => v = undef) x144 u8 := by rw [← hx144]; exact hh.got 18 _ 144 rfl rfl (hall 18 (by decide))
                  obtain ⟨x145, hx145⟩ : ∃ x, A.eval (.tmp 145) = x := ⟨_, rfl⟩
                  have f145 : (fun v _ => v = undef) x145 u8 := by rw [← hx145]; exact hh.got 19 _ 145 rfl rfl (hall 19 (by decide))
                  obtain ⟨x146, hx146⟩ : ∃ x, A.eval (.tmp 146) = x := ⟨_, rfl⟩
                  have f146 : (fun v _ => v = (Value.bool false)) x146 u8 := by rw [← hx146]; exact hh.got 20 _ 146 rfl rfl (hall 20 (by decide))
                  dsimp only [wrote, List.foldl] at hA
                  rw [hx126, hx127, hx128, hx129, hx130, hx131, hx132, hx133, hx134, hx135, hx136, hx137, hx138, hx139, hx140, hx141, hx142, hx143, hx144, hx145, hx146] at hA
                  clear hh hall hx126 hx127 hx128 hx129 hx130 hx131 hx132 hx133 hx134 hx135 hx136 hx137 hx138 hx139 hx140 hx141 hx142 hx143 hx144 hx145 hx146
                  replace f126 := (f126 : x126 = (.int .i64 E))
                  subst f126
                  have e127 := (f127 : _ = Value.int .i64 E)
                  subst e127
                  replace f128 := (f128 : x128 = (.bool false))
                  subst f128
                  replace f129 := (f129 : x129 = (.bool false))
                  subst f129
                  replace f130 := (f130 : x130 = undef)
                  subst f130
                  replace f131 := (f131 : x131 = undef)
                  subst f131
                  replace f132 := (f132 : x132 = undef)
                  subst f132
                  replace f133 := (f133 : x133 = undef)
                  subst f133
                  replace f134 := (f134 : x134 = undef)
                  subst f134
                  replace f135 := (f135 : x135 = undef)
                  subst f135
                  replace f136 := (f136 : x136 = undef)
                  subst f136
                  replace f137 := (f137 : x137 = undef)
                  subst f137
                  replace f138 := (f138 : x138 = (.bool false))
                  subst f138
                  replace f139 := (f139 : x139 = (.bool false))
                  subst f139
                  replace f140 := (f140 : x140 = undef)
                  subst f140
                  replace f141 := (f141 : x141 = undef)
                  subst f141
                  replace f142 := (f142 : x142 = undef)
                  subst f142
                  replace f143 := (f143 : x143 = undef)
                  subst f143
                  replace f144 := (f144 : x144 = undef)
                  subst f144
                  replace f145 := (f145 : x145 = undef)
                  subst f145
                  replace f146 := (f146 : x146 = (.bool false))
                  subst f146
                  subst hA
                  show wpList _ _ _ [] _ _
                  unfold wpList
                  simp only [Act.put, List.setIfInBounds_toArray, List.set_cons_succ, List.set_cons_zero]
                  go_wp2_with (first
                    | (go_at_call 23; (with_reducible refine (HTl.out _ (gtrans HX.out (gtrans HU.out HG22.out))).mono ?_); rintro e u10 ⟨rfl, hg⟩; have HG23 := hid (gtrans HG22.out hg); clear hg)
                    | (go_at_call 22; (with_reducible refine (HSM.out _ (gtrans HX.out HU.out)).mono ?_); rintro e u9 ⟨rfl, hg⟩; have HG22 := hid hg; clear hg))
                  go_roundw
                  case rel => exact ⟨i + 1, y, A', by go_num, rfl, by omega, by omega, by omega, HRel.out _ (gtrans HG5.out (gtrans HX.out (gtrans HU.out HG23.out)))⟩
                  case measure => simp [intOf]; omega
            · go_upto_region 23 with (go_at_call 9; (with_reducible refine (HNu.out _ _).mono ?_); rintro e w9' ⟨rfl, hw9⟩; have hw9' := hw9.symm; clear hw9; subst hw9')
              clear k0 k2 honm hdv
              by_cases hE9 : E = 93
              · subst hE9
                clear hE0
                have hfu := HFu.out rfl
                have HZ3 : Hid (∀ (x y : Operand) (u : World), (do eqGuard .eql 3 x y (.int .i64 93) (.int .i64 93); binOp .eql 3 (.int .i64 93) (.int .i64 93) : Sem Value).run Try.prog u = .ok (.bool true) u) := hid (fun x y u => by go_simp)
                have HZ4 : Hid (∀ (x y : Operand) (u : World), (do eqGuard .add 3 x y (.int .i64 (us : Nat)) (.int .i64 (o.bn : Nat)); binOp .add 3 (.int .i64 (us : Nat)) (.int .i64 (o.bn : Nat)) : Sem Value).run Try.prog u = .ok (.int .i64 ((us + o.bn : Nat) : Int)) u) := hid (fun x y u => by have h1 := HBn.out; have h2 := HLL.out.2.1; have e : IntKind.i64.wrap ((us : Int) + (o.bn : Int)) = ((us + o.bn : Nat) : Int) := (by rw [IntKind.wrap_i64]; omega); go_simp)
                by_cases hr : us + o.bn ≤ 1 + rr
                · as_aux_lemma =>
                  have hD1 : D1 = false := by cases D1 with | false => rfl | true => exact absurd ⟨.inl rfl, hr⟩ hfu
                  have hsn : ¬ (sn < 64) := fun q => hfu ⟨.inr q, hr⟩
                  subst hD1
                  have HZ5 : Hid (∀ (x y : Operand) (u : World), (do eqGuard .leq 3 x y (.int .i64 ((us + o.bn : Nat) : Int)) (.int .i64 (1 + (rr : Int))); binOp .leq 3 (.int .i64 ((us + o.bn : Nat) : Int)) (.int .i64 (1 + (rr : Int))) : Sem Value).run Try.prog u = .ok (.bool true) u) := hid (fun x y u => by have e : ((us + o.bn : Nat) : Int) ≤ 1 + (rr : Int) := (by omega); go_simp; omega)
                  have HZ6 : Hid (∀ (x y : Operand) (u : World), (do eqGuard .lss 3 x y (.int .i64 (sn : Nat)) (.int .i64 64); binOp .lss 3 (.int .i64 (sn : Nat)) (.int .i64 64) : Sem Value).run Try.prog u = .ok (.bool false) u) := hid (fun x y u => by have e : ¬ (sn : Int) < 64 := (by omega); go_simp)
                  clear hfu HFu hr hsn
                  refine wp_region_listX (by kernel_rfl) [fun v _ => v = (Value.int .i64 93), fun v _ => v = Value.int .i64 93, fun v _ => v = (Value.bool true), fun v _ => v = (Value.bool true), fun v _ => v = (Value.slice sa sn sc), fun v _ => v = Value.int .i64 (us : Nat), fun v _ => v = (Value.pointer (some ⟨p7, 4, none⟩)), fun v _ => v = (Value.slice o.ba o.bn o.bc), fun v _ => v = (Value.int .i64 (o.bn : Nat)), fun v _ => v = (Value.int .i64 ((us + o.bn : Nat) : Int)), fun v _ => v = (Value.int .i64 (1 + (rr : Int))), fun v _ => v = (Value.bool true), fun v _ => v = (Value.bool true), fun v _ => v = (Value.bool true), fun v _ => v = (Value.bool false), fun v _ => v = (Value.bool false), fun v _ => v = (Value.slice sa sn sc), fun v _ => v = (Value.int .i64 (sn : Nat)), fun v _ => v = (Value.bool false), fun v _ => v = (Value.bool false), fun v _ => v = (Value.bool false)] (none) (fun _ => none) 21 (by kernel_rfl) (by kernel_rfl) (by kernel_rfl) (by kernel_rfl) (by decide) noRow_one (fun _ => .inl rfl) ⟨fun i v u u' hki h hg => h, fun i v u u' hki h hg => h, fun i v u u' hki h hg => h, fun i v u u' hki h hg => h, fun i v u u' hki h hg => h, fun i v u u' hki h hg => h, fun i v u u' hki h hg => h, fun i v u u' hki h hg => h, fun i v u u' hki h hg => h, fun i v u u' hki h hg => h, fun i v u u' hki h hg => h, fun i v u u' hki h hg => h, fun i v u u' hki h hg => h, fun i v u u' hki h hg => h, fun i v u u' hki h hg => h, fun i v u u' hki h hg => h, fun i v u u' hki h hg => h, fun i v u u' hki h hg => h, fun i v u u' hki h hg => h, fun i v u u' hki h hg => h, fun i v u u' hki h hg => h, trivial⟩ ⟨?_, ?_, ?_, ?_, ?_, ?_, ?_, ?_, ?_, ?_, ?_, ?_, ?_, ?_, ?_, ?_, ?_, ?_, ?_, ?_, ?_, trivial⟩ ?_
                  · intro A u hu hpu hsz hout hdeps
                    have e10 : A.eval (.tmp 10) = (.int .i64 93) := (hout 10 (by kernel_rfl)).trans rfl
                    refine ifw_none rfl ?_
                    with_reducible refine shown_q (Value.int .i64 93) ?qq_1b_0 (fun _ _ => ?qr_1b_0)
                    case qr_1b_0 => exact (rfl : (Value.int .i64 93) = (Value.int .i64 93))
                    with_reducible refine quietAt_mv (.tmp 10) (Value.int .i64 93) ?h0_1b_0 ?h1_1b_0
                    case h0_1b_0 => rfl
                    case h1_1b_0 => exact e10
                  · intro A u hu hpu hsz hout hdeps
                    have e126 : A.eval (.tmp 126) = (.int .i64 93) := by have h := depL hdeps 0 (by kernel_rfl) 126 (by kernel_rfl); exact h
                    refine ifw_none rfl ?_
                    with_reducible refine shown_call 9 Try.f9 ?h0_1b_1 ?h1_1b_1 ?h2_1b_1 #[.tmp 126] #[27] ?h3_1b_1 #[(Value.int .i64 93)] ?h4_1b_1 ?h5_1b_1
                    case h0_1b_1 => exact Try.func9
                    case h1_1b_1 => kernel_rfl
                    case h2_1b_1 => kernel_rfl
                    case h3_1b_1 => rfl
                    case h4_1b_1 => exact map1 _ _ _ e126
                    case h5_1b_1 => exact HNu'.out u
                  · intro A u hu hpu hsz hout hdeps
                    have f127 : (fun v _ => v = Value.int .i64 93) (A.eval (.tmp 127)) u := by have h := depL hdeps 1 (by kernel_rfl) 127 (by kernel_rfl); exact h
                    have e127 := (f127 : _ = Value.int .i64 93)
                    refine ifw_none rfl ?_
                    with_reducible refine shown_q (Value.bool true) ?qq_1b_2 (fun _ _ => ?qr_1b_2)
                    case qr_1b_2 => exact (rfl : (Value.bool true) = (Value.bool true))
                    with_reducible refine quietAt_bin .eql 3 (.tmp 127) (.const (.int .i64 93)) 3 (Value.int .i64 93) (Value.int .i64 93) (Value.bool true) ?h0_1b_2 ?h1_1b_2 ?h2_1b_2 ?h3_1b_2
                    case h0_1b_2 => rfl
                    case h1_1b_2 => exact e127
                    case h2_1b_2 => exact rfl
                    case h3_1b_2 => exact HZ3.out _ _ u
                  · intro A u hu hpu hsz hout hdeps
                    have e128 : A.eval (.tmp 128) = (.bool true) := by have h := depL hdeps 2 (by kernel_rfl) 128 (by kernel_rfl); exact h
                    refine ifw_none rfl ?_
                    with_reducible refine shown_q (Value.bool true) ?qq_1b_3 (fun _ _ => ?qr_1b_3)
                    case qr_1b_3 => exact (rfl : (Value.bool true) = (Value.bool true))
                    with_reducible refine quietAt_mv (.tmp 128) (Value.bool true) ?h0_1b_3 ?h1_1b_3
                    case h0_1b_3 => rfl
                    case h1_1b_3 => exact e128
                  · intro A u hu hpu hsz hout hdeps
                    have e129 : A.eval (.tmp 129) = (.bool true) := by have h := depL hdeps 3 (by kernel_rfl) 129 (by kernel_rfl); exact h
                    have e9 : A.eval (.tmp 9) = (.slice sa sn sc) := (hout 9 (by kernel_rfl)).trans rfl
                    refine ifw_want 3 true 129 rfl rfl e129 ?_
                    with_reducible refine shown_q (Value.slice sa sn sc) ?qq_1b_4 (fun _ _ => ?qr_1b_4)
                    case qr_1b_4 => exact (rfl : (Value.slice sa sn sc) = (Value.slice sa sn sc))
                    with_reducible refine quietAt_mv (.tmp 9) (Value.slice sa sn sc) ?h0_1b_4 ?h1_1b_4
                    case h0_1b_4 => rfl
                    case h1_1b_4 => exact e9
                  · intro A u hu hpu hsz hout hdeps
                    have e129 : A.eval (.tmp 129) = (.bool true) := by have h := depL hdeps 3 (by kernel_rfl) 129 (by kernel_rfl); exact h
                    have e130 : A.eval (.tmp 130) = (.slice sa sn sc) := by have h := depL hdeps 4 (by kernel_rfl) 130 (by kernel_rfl); exact h
                    refine ifw_want 3 true 129 rfl rfl e129 ?_
                    with_reducible refine shown_call 22 Try.f22 ?h0_1b_5 ?h1_1b_5 ?h2_1b_5 #[.tmp 130] #[34] ?h3_1b_5 #[(Value.slice sa sn sc)] ?h4_1b_5 ?h5_1b_5
                    case h0_1b_5 => exact Try.func22
                    case h1_1b_5 => kernel_rfl
                    case h2_1b_5 => kernel_rfl
                    case h3_1b_5 => rfl
                    case h4_1b_5 => exact map1 _ _ _ e130
                    case h5_1b_5 => exact HSm.out u (gtrans HX.out hu)
                  · intro A u hu hpu hsz hout hdeps
                    have e129 : A.eval (.tmp 129) = (.bool true) := by have h := depL hdeps 3 (by kernel_rfl) 129 (by kernel_rfl); exact h
                    have e8 : A.eval (.tmp 8) = (.pointer (some ⟨p7, 0, none⟩)) := (hout 8 (by kernel_rfl)).trans rfl
                    refine ifw_want 3 true 129 rfl rfl e129 ?_
                    with_reducible refine shown_q (Value.pointer (some ⟨p7, 4, none⟩)) ?qq_1b_6 (fun _ _ => ?qr_1b_6)
                    case qr_1b_6 => exact (rfl : (Value.pointer (some ⟨p7, 4, none⟩)) = (Value.pointer (some ⟨p7, 4, none⟩)))
                    with_reducible refine quietAt_field 36 (.tmp 8) 4 ?h0_1b_6 ⟨p7, 0, none⟩ ⟨p7, 4, none⟩ ?h1_1b_6 ?h2_1b_6
                    case h0_1b_6 => rfl
                    case h1_1b_6 => exact e8
                    case h2_1b_6 => kernel_rfl
                  · intro A u hu hpu hsz hout hdeps
                    have e129 : A.eval (.tmp 129) = (.bool true) := by have h := depL hdeps 3 (by kernel_rfl) 129 (by kernel_rfl); exact h
                    have e132 : A.eval (.tmp 132) = (.pointer (some ⟨p7, 4, none⟩)) := by have h := depL hdeps 6 (by kernel_rfl) 132 (by kernel_rfl); exact h
                    refine ifw_want 3 true 129 rfl rfl e129 ?_
                    with_reducible refine shown_q (Value.slice o.ba o.bn o.bc) ?qq_1b_7 (fun _ _ => ?qr_1b_7)
                    case qr_1b_7 => exact (rfl : (Value.slice o.ba o.bn o.bc) = (Value.slice o.ba o.bn o.bc))
                    with_reducible refine quietAt_ld 33 (.tmp 132) (Value.pointer (some ⟨p7, 4, none⟩)) (Value.slice o.ba o.bn o.bc) ?h0_1b_7 ?h1_1b_7 ?h2_1b_7
                    case h0_1b_7 => rfl
                    case h1_1b_7 => exact e132
                    case h2_1b_7 => exact ld33 p7 4 o.bn o.bc o.ba u (HK4.out u (gtrans HX.out hu))
                  · intro A u hu hpu hsz hout hdeps
                    have e129 : A.eval (.tmp 129) = (.bool true) := by have h := depL hdeps 3 (by kernel_rfl) 129 (by kernel_rfl); exact h
                    have e133 : A.eval (.tmp 133) = (.slice o.ba o.bn o.bc) := by have h := depL hdeps 7 (by kernel_rfl) 133 (by kernel_rfl); exact h
                    refine ifw_want 3 true 129 rfl rfl e129 ?_
                    with_reducible refine shown_q (Value.int .i64 (o.bn : Nat)) ?qq_1b_8 (fun _ _ => ?qr_1b_8)
                    case qr_1b_8 => exact (rfl : (Value.int .i64 (o.bn : Nat)) = (Value.int .i64 (o.bn : Nat)))
                    with_reducible refine quietAt_len (.tmp 133) 33 ?h0_1b_8 o.ba o.bn o.bc ?h1_1b_8 ?h2_1b_8
                    case h0_1b_8 => rfl
                    case h1_1b_8 => exact e133
                    case h2_1b_8 => kernel_rfl
                  · intro A u hu hpu hsz hout hdeps
                    have e129 : A.eval (.tmp 129) = (.bool true) := by have h := depL hdeps 3 (by kernel_rfl) 129 (by kernel_rfl); exact h
                    have f131 : (fun v _ => v = Value.int .i64 (us : Nat)) (A.eval (.tmp 131)) u := by have h := depL hdeps 5 (by kernel_rfl) 131 (by kernel_rfl); exact h
                    have e131 := (f131 : _ = Value.int .i64 (us : Nat))
                    have e134 : A.eval (.tmp 134) = (.int .i64 (o.bn : Nat)) := by have h := depL hdeps 8 (by kernel_rfl) 134 (by kernel_rfl); exact h
                    refine ifw_want 3 true 129 rfl rfl e129 ?_
                    with_reducible refine shown_q (Value.int .i64 ((us + o.bn : Nat) : Int)) ?qq_1b_9 (fun _ _ => ?qr_1b_9)
                    case qr_1b_9 => exact (rfl : (Value.int .i64 ((us + o.bn : Nat) : Int)) = (Value.int .i64 ((us + o.bn : Nat) : Int)))
                    with_reducible refine quietAt_bin .add 3 (.tmp 131) (.tmp 134) 3 (Value.int .i64 (us : Nat)) (Value.int .i64 (o.bn : Nat)) (Value.int .i64 ((us + o.bn : Nat) : Int)) ?h0_1b_9 ?h1_1b_9 ?h2_1b_9 ?h3_1b_9
                    case h0_1b_9 => rfl
                    case h1_1b_9 => exact e131
                    case h2_1b_9 => exact e134
                    case h3_1b_9 => exact HZ4.out _ _ u
                  · intro A u hu hpu hsz hout hdeps
                    have e129 : A.eval (.tmp 129) = (.bool true) := by have h := depL hdeps 3 (by kernel_rfl) 129 (by kernel_rfl); exact h
                    have e3 : A.eval (.tmp 3) = (.int .i64 (1 + (rr : Int))) := (hout 3 (by kernel_rfl)).trans rfl
                    refine ifw_want 3 true 129 rfl rfl e129 ?_
                    with_reducible refine shown_q (Value.int .i64 (1 + (rr : Int))) ?qq_1b_10 (fun _ _ => ?qr_1b_10)
                    case qr_1b_10 => exact (rfl : (Value.int .i64 (1 + (rr : Int))) = (Value.int .i64 (1 + (rr : Int))))
                    with_reducible refine quietAt_mv (.tmp 3) (Value.int .i64 (1 + (rr : Int))) ?h0_1b_10 ?h1_1b_10
                    case h0_1b_10 => rfl
                    case h1_1b_10 => exact e3
                  · intro A u hu hpu hsz hout hdeps
                    have e129 : A.eval (.tmp 129) = (.bool true) := by have h := depL hdeps 3 (by kernel_rfl) 129 (by kernel_rfl); exact h
                    have e135 : A.eval (.tmp 135) = (.int .i64 ((us + o.bn : Nat) : Int)) := by have h := depL hdeps 9 (by kernel_rfl) 135 (by kernel_rfl); exact h
                    have e136 : A.eval (.tmp 136) = (.int .i64 (1 + (rr : Int))) := by have h := depL hdeps 10 (by kernel_rfl) 136 (by kernel_rfl); exact h
                    refine ifw_want 3 true 129 rfl rfl e129 ?_
                    with_reducible refine shown_q (Value.bool true) ?qq_1b_11 (fun _ _ => ?qr_1b_11)
                    case qr_1b_11 => exact (rfl : (Value.bool true) = (Value.bool true))
                    with_reducible refine quietAt_bin .leq 3 (.tmp 135) (.tmp 136) 3 (Value.int .i64 ((us + o.bn : Nat) : Int)) (Value.int .i64 (1 + (rr : Int))) (Value.bool true) ?h0_1b_11 ?h1_1b_11 ?h2_1b_11 ?h3_1b_11
                    case h0_1b_11 => rfl
                    case h1_1b_11 => exact e135
                    case h2_1b_11 => exact e136
                    case h3_1b_11 => exact HZ5.out _ _ u
                  · intro A u hu hpu hsz hout hdeps
                    have e129 : A.eval (.tmp 129) = (.bool true) := by have h := depL hdeps 3 (by kernel_rfl) 129 (by kernel_rfl); exact h
                    have e137 : A.eval (.tmp 137) = (.bool true) := by have h := depL hdeps 11 (by kernel_rfl) 137 (by kernel_rfl); exact h
                    refine ifw_none rfl ?_
                    with_reducible refine shown_q (Value.bool true) ?qq_1b_12 (fun _ _ => ?qr_1b_12)
                    case qr_1b_12 => exact (rfl : (Value.bool true) = (Value.bool true))
                    with_reducible refine quietAt_pick (.tmp 129) (.tmp 137) (.const (.bool false)) true (Value.bool true) ?h0_1b_12 ?h1_1b_12 ?h2_1b_12
                    case h0_1b_12 => rfl
                    case h1_1b_12 => exact e129
                    case h2_1b_12 => rw [if_pos rfl]; exact e137
                  · intro A u hu hpu hsz hout hdeps
                    have e138 : A.eval (.tmp 138) = (.bool true) := by have h := depL hdeps 12 (by kernel_rfl) 138 (by kernel_rfl); exact h
                    refine ifw_none rfl ?_
                    with_reducible refine shown_q (Value.bool true) ?qq_1b_13 (fun _ _ => ?qr_1b_13)
                    case qr_1b_13 => exact (rfl : (Value.bool true) = (Value.bool true))
                    with_reducible refine quietAt_mv (.tmp 138) (Value.bool true) ?h0_1b_13 ?h1_1b_13
                    case h0_1b_13 => rfl
                    case h1_1b_13 => exact e138
                  · intro A u hu hpu hsz hout hdeps
                    have e139 : A.eval (.tmp 139) = (.bool true) := by have h := depL hdeps 13 (by kernel_rfl) 139 (by kernel_rfl); exact h
                    have e14 : A.eval (.tmp 14) = (.bool false) := (hout 14 (by kernel_rfl)).trans rfl
                    refine ifw_want 13 true 139 rfl rfl e139 ?_
                    with_reducible refine shown_q (Value.bool false) ?qq_1b_14 (fun _ _ => ?qr_1b_14)
                    case qr_1b_14 => exact (rfl : (Value.bool false) = (Value.bool false))
                    with_reducible refine quietAt_mv (.tmp 14) (Value.bool false) ?h0_1b_14 ?h1_1b_14
                    case h0_1b_14 => rfl
                    case h1_1b_14 => exact e14
                  · intro A u hu hpu hsz hout hdeps
                    have e139 : A.eval (.tmp 139) = (.bool true) := by have h := depL hdeps 13 (by kernel_rfl) 139 (by kernel_rfl); exact h
                    have e140 : A.eval (.tmp 140) = (.bool false) := by have h := depL hdeps 14 (by kernel_rfl) 140 (by kernel_rfl); exact h
                    refine ifw_want 13 true 139 rfl rfl e139 ?_
                    with_reducible refine shown_q (Value.bool false) ?qq_1b_15 (fun _ _ => ?qr_1b_15)
                    case qr_1b_15 => exact (rfl : (Value.bool false) = (Value.bool false))
                    with_reducible refine quietAt_mv (.tmp 140) (Value.bool false) ?h0_1b_15 ?h1_1b_15
                    case h0_1b_15 => rfl
                    case h1_1b_15 => exact e140
                  · intro A u hu hpu hsz hout hdeps
                    have e141 : A.eval (.tmp 141) = (.bool false) := by have h := depL hdeps 15 (by kernel_rfl) 141 (by kernel_rfl); exact h
                    have e9 : A.eval (.tmp 9) = (.slice sa sn sc) := (hout 9 (by kernel_rfl)).trans rfl
                    refine ifw_want 15 false 141 rfl rfl e141 ?_
                    with_reducible refine shown_q (Value.slice sa sn sc) ?qq_1b_16 (fun _ _ => ?qr_1b_16)
                    case qr_1b_16 => exact (rfl : (Value.slice sa sn sc) = (Value.slice sa sn sc))
                    with_reducible refine quietAt_mv (.tmp 9) (Value.slice sa sn sc) ?h0_1b_16 ?h1_1b_16
                    case h0_1b_16 => rfl
                    case h1_1b_16 => exact e9
                  · intro A u hu hpu hsz hout hdeps
                    have e141 : A.eval (.tmp 141) = (.bool false) := by have h := depL hdeps 15 (by kernel_rfl) 141 (by kernel_rfl); exact h
                    have e142 : A.eval (.tmp 142) = (.slice sa sn sc) := by have h := depL hdeps 16 (by kernel_rfl) 142 (by kernel_rfl); exact h
                    refine ifw_want 15 false 141 rfl rfl e141 ?_
                    with_reducible refine shown_q (Value.int .i64 (sn : Nat)) ?qq_1b_17 (fun _ _ => ?qr_1b_17)
                    case qr_1b_17 => exact (rfl : (Value.int .i64 (sn : Nat)) = (Value.int .i64 (sn : Nat)))
                    with_reducible refine quietAt_len (.tmp 142) 34 ?h0_1b_17 sa sn sc ?h1_1b_17 ?h2_1b_17
                    case h0_1b_17 => rfl
                    case h1_1b_17 => exact e142
                    case h2_1b_17 => kernel_rfl
                  · intro A u hu hpu hsz hout hdeps
                    have e141 : A.eval (.tmp 141) = (.bool false) := by have h := depL hdeps 15 (by kernel_rfl) 141 (by kernel_rfl); exact h
                    have e143 : A.eval (.tmp 143) = (.int .i64 (sn : Nat)) := by have h := depL hdeps 17 (by kernel_rfl) 143 (by kernel_rfl); exact h
                    refine ifw_want 15 false 141 rfl rfl e141 ?_
                    with_reducible refine shown_q (Value.bool false) ?qq_1b_18 (fun _ _ => ?qr_1b_18)
                    case qr_1b_18 => exact (rfl : (Value.bool false) = (Value.bool false))
                    with_reducible refine quietAt_bin .lss 3 (.tmp 143) (.const (.int .i64 64)) 3 (Value.int .i64 (sn : Nat)) (Value.int .i64 64) (Value.bool false) ?h0_1b_18 ?h1_1b_18 ?h2_1b_18 ?h3_1b_18
                    case h0_1b_18 => rfl
                    case h1_1b_18 => exact e143
                    case h2_1b_18 => exact rfl
                    case h3_1b_18 => exact HZ6.out _ _ u
                  · intro A u hu hpu hsz hout hdeps
                    have e139 : A.eval (.tmp 139) = (.bool true) := by have h := depL hdeps 13 (by kernel_rfl) 139 (by kernel_rfl); exact h
                    have e141 : A.eval (.tmp 141) = (.bool false) := by have h := depL hdeps 15 (by kernel_rfl) 141 (by kernel_rfl); exact h
                    have e144 : A.eval (.tmp 144) = (.bool false) := by have h := depL hdeps 18 (by kernel_rfl) 144 (by kernel_rfl); exact h
                    refine ifw_want 13 true 139 rfl rfl e139 ?_
                    with_reducible refine shown_q (Value.bool false) ?qq_1b_19 (fun _ _ => ?qr_1b_19)
                    case qr_1b_19 => exact (rfl : (Value.bool false) = (Value.bool false))
                    with_reducible refine quietAt_pick (.tmp 141) (.const (.bool true)) (.tmp 144) false (Value.bool false) ?h0_1b_19 ?h1_1b_19 ?h2_1b_19
                    case h0_1b_19 => rfl
                    case h1_1b_19 => exact e141
                    case h2_1b_19 => rw [if_neg (by decide)]; exact e144
                  · intro A u hu hpu hsz hout hdeps
                    have e139 : A.eval (.tmp 139) = (.bool true) := by have h := depL hdeps 13 (by kernel_rfl) 139 (by kernel_rfl); exact h
                    have e145 : A.eval (.tmp 145) = (.bool false) := by have h := depL hdeps 19 (by kernel_rfl) 145 (by kernel_rfl); exact h
                    refine ifw_none rfl ?_
                    with_reducible refine shown_q (Value.bool false) ?qq_1b_20 (fun _ _ => ?qr_1b_20)
                    case qr_1b_20 => exact (rfl : (Value.bool false) = (Value.bool false))
                    with_reducible refine quietAt_pick (.tmp 139) (.tmp 145) (.const (.bool false)) true (Value.bool false) ?h0_1b_20 ?h1_1b_20 ?h2_1b_20
                    case h0_1b_20 => rfl
                    case h1_1b_20 => exact e139
                    case h2_1b_20 => rw [if_pos rfl]; exact e145
                  · intro A u8 listed hh hall
                    have hA := hh.frame
                    have HU := hid hh.grown
                    obtain ⟨x126, hx126⟩ : ∃ x, A.eval (.tmp 126) = x := ⟨_, rfl⟩
                    have f126 : (fun v _ => v = (Value.int .i64 93)) x126 u8 := by rw [← hx126]; exact hh.got 0 _ 126 rfl rfl (hall 0 (by decide))
                    obtain ⟨x127, hx127⟩ : ∃ x, A.eval (.tmp 127) = x := ⟨_, rfl⟩
                    have f127 : (fun v _ => v = Value.int .i64 93) x127 u8 := by rw [← hx127]; exact hh.got 1 _ 127 rfl rfl (hall 1 (by decide))
                    obtain ⟨x128, hx128⟩ : ∃ x, A.eval (.tmp 128) = x := ⟨_, rfl⟩
                    have f128 : (fun v _ => v = (Value.bool true)) x128 u8 := by rw [← hx128]; exact hh.got 2 _ 128 rfl rfl (hall 2 (by decide))
                    obtain ⟨x129, hx129⟩ : ∃ x, A.eval (.tmp 129) = x := ⟨_, rfl⟩
                    have f129 : (fun v _ => v = (Value.bool true)) x129 u8 := by rw [← hx129]; exact hh.got 3 _ 129 rfl rfl (hall 3 (by decide))
                    obtain ⟨x130, hx130⟩ : ∃ x, A.eval (.tmp 130) = x := ⟨_, rfl⟩
                    have f130 : (fun v _ => v = (Value.slice sa sn sc)) x130 u8 := by rw [← hx130]; exact hh.got 4 _ 130 rfl rfl (hall 4 (by decide))
                    obtain ⟨x131, hx131⟩ : ∃ x, A.eval (.tmp 131) = x := ⟨_, rfl⟩
                    have f131 : (fun v _ => v = Value.int .i64 (us : Nat)) x131 u8 := by rw [← hx131]; exact hh.got 5 _ 131 rfl rfl (hall 5 (by decide))
                    obtain ⟨x132, hx132⟩ : ∃ x, A.eval (.tmp 132) = x := ⟨_, rfl⟩
                    have f132 : (fun v _ => v = (Value.pointer (some ⟨p7, 4, none⟩))) x132 u8 := by rw [← hx132]; exact hh.got 6 _ 132 rfl rfl (hall 6 (by decide))
                    obtain ⟨x133, hx133⟩ : ∃ x, A.eval (.tmp 133) = x := ⟨_, rfl⟩
                    have f133 : (fun v _ => v = (Value.slice o.ba o.bn o.bc)) x133 u8 := by rw [← hx133]; exact hh.got 7 _ 133 rfl rfl (hall 7 (by decide))
                    obtain ⟨x134, hx134⟩ : ∃ x, A.eval (.tmp 134) = x := ⟨_, rfl⟩
                    have f134 : (fun v _ => v = (Value.int .i64 (o.bn : Nat))) x134 u8 := by rw [← hx134]; exact hh.got 8 _ 134 rfl rfl (hall 8 (by decide))
                    obtain ⟨x135, hx135⟩ : ∃ x, A.eval (.tmp 135) = x := ⟨_, rfl⟩
                    have f135 : (fun v _ => v = (Value.int .i64 ((us + o.bn : Nat) : Int))) x135 u8 := by rw [← hx135]; exact hh.got 9 _ 135 rfl rfl (hall 9 (by decide))
                    obtain ⟨x136, hx136⟩ : ∃ x, A.eval (.tmp 136) = x := ⟨_, rfl⟩
                    have f136 : (fun v _ => v = (Value.int .i64 (1 + (rr : Int)))) x136 u8 := by rw [← hx136]; exact hh.got 10 _ 136 rfl rfl (hall 10 (by decide))
                    obtain ⟨x137, hx137⟩ : ∃ x, A.eval (.tmp 137) = x := ⟨_, rfl⟩
                    have f137 : (fun v _ => v = (Value.bool true)) x137 u8 := by rw [← hx137]; exact hh.got 11 _ 137 rfl rfl (hall 11 (by decide))
                    obtain ⟨x138, hx138⟩ : ∃ x, A.eval (.tmp 138) = x := ⟨_, rfl⟩
                    have f138 : (fun v _ => v = (Value.bool true)) x138 u8 := by rw [← hx138]; exact hh.got 12 _ 138 rfl rfl (hall 12 (by decide))
                    obtain ⟨x139, hx139⟩ : ∃ x, A.eval (.tmp 139) = x := ⟨_, rfl⟩
                    have f139 : (fun v _ => v = (Value.bool true)) x139 u8 := by rw [← hx139]; exact hh.got 13 _ 139 rfl rfl (hall 13 (by decide))
                    obtain ⟨x140, hx140⟩ : ∃ x, A.eval (.tmp 140) = x := ⟨_, rfl⟩
                    have f140 : (fun v _ => v = (Value.bool false)) x140 u8 := by rw [← hx140]; exact hh.got 14 _ 140 rfl rfl (hall 14 (by decide))
                    obtain ⟨x141, hx141⟩ : ∃ x, A.eval (.tmp 141) = x := ⟨_, rfl⟩
                    have f141 : (fun v _ => v = (Value.bool false)) x141 u8 := by rw [← hx141]; exact hh.got 15 _ 141 rfl rfl (hall 15 (by decide))
                    obtain ⟨x142, hx142⟩ : ∃ x, A.eval (.tmp 142) = x := ⟨_, rfl⟩
                    have f142 : (fun v _ => v = (Value.slice sa sn sc)) x142 u8 := by rw [← hx142]; exact hh.got 16 _ 142 rfl rfl (hall 16 (by decide))
                    obtain ⟨x143, hx143⟩ : ∃ x, A.eval (.tmp 143) = x := ⟨_, rfl⟩
                    have f143 : (fun v _ => v = (Value.int .i64 (sn : Nat))) x143 u8 := by rw [← hx143]; exact hh.got 17 _ 143 rfl rfl (hall 17 (by decide))
                    obtain ⟨x144, hx144⟩ : ∃ x, A.eval (.tmp 144) = x := ⟨_, rfl⟩
                    have f144 : (fun v _ => v = (Value.bool false)) x144 u8 := by rw [← hx144]; exact hh.got 18 _ 144 rfl rfl (hall 18 (by decide))
                    obtain ⟨x145, hx145⟩ : ∃ x, A.eval (.tmp 145) = x := ⟨_, rfl⟩
                    have f145 : (fun v _ => v = (Value.bool false)) x145 u8 := by rw [← hx145]; exact hh.got 19 _ 145 rfl rfl (hall 19 (by decide))
                    obtain ⟨x146, hx146⟩ : ∃ x, A.eval (.tmp 146) = x := ⟨_, rfl⟩
                    have f146 : (fun v _ => v = (Value.bool false)) x146 u8 := by rw [← hx146]; exact hh.got 20 _ 146 rfl rfl (hall 20 (by decide))
                    dsimp only [wrote, List.foldl] at hA
                    rw [hx126, hx127, hx128, hx129, hx130, hx131, hx132, hx133, hx134, hx135, hx136, hx137, hx138, hx139, hx140, hx141, hx142, hx143, hx144, hx145, hx146] at hA
                    clear hh hall hx126 hx127 hx128 hx129 hx130 hx131 hx132 hx133 hx134 hx135 hx136 hx137 hx138 hx139 hx140 hx141 hx142 hx143 hx144 hx145 hx146
                    replace f126 := (f126 : x126 = (.int .i64 93))
                    subst f126
                    have e127 := (f127 : _ = Value.int .i64 93)
                    subst e127
                    replace f128 := (f128 : x128 = (.bool true))
                    subst f128
                    replace f129 := (f129 : x129 = (.bool true))
                    subst f129
                    replace f130 := (f130 : x130 = (.slice sa sn sc))
                    subst f130
                    have e131 := (f131 : _ = Value.int .i64 (us : Nat))
                    subst e131
                    replace f132 := (f132 : x132 = (.pointer (some ⟨p7, 4, none⟩)))
                    subst f132
                    replace f133 := (f133 : x133 = (.slice o.ba o.bn o.bc))
                    subst f133
                    replace f134 := (f134 : x134 = (.int .i64 (o.bn : Nat)))
                    subst f134
                    replace f135 := (f135 : x135 = (.int .i64 ((us + o.bn : Nat) : Int)))
                    subst f135
                    replace f136 := (f136 : x136 = (.int .i64 (1 + (rr : Int))))
                    subst f136
                    replace f137 := (f137 : x137 = (.bool true))
                    subst f137
                    replace f138 := (f138 : x138 = (.bool true))
                    subst f138
                    replace f139 := (f139 : x139 = (.bool true))
                    subst f139
                    replace f140 := (f140 : x140 = (.bool false))
                    subst f140
                    replace f141 := (f141 : x141 = (.bool false))
                    subst f141
                    replace f142 := (f142 : x142 = (.slice sa sn sc))
                    subst f142
                    replace f143 := (f143 : x143 = (.int .i64 (sn : Nat)))
                    subst f143
                    replace f144 := (f144 : x144 = (.bool false))
                    subst f144
                    replace f145 := (f145 : x145 = (.bool false))
                    subst f145
                    replace f146 := (f146 : x146 = (.bool false))
                    subst f146
                    subst hA
                    show wpList _ _ _ [] _ _
                    unfold wpList
                    simp only [Act.put, List.setIfInBounds_toArray, List.set_cons_succ, List.set_cons_zero]
                    go_wp2_with (first
                      | (go_at_call 23; (with_reducible refine (HTl.out _ (gtrans HX.out (gtrans HU.out HG22.out))).mono ?_); rintro e u10 ⟨rfl, hg⟩; have HG23 := hid (gtrans HG22.out hg); clear hg)
                      | (go_at_call 22; (with_reducible refine (HSM.out _ (gtrans HX.out HU.out)).mono ?_); rintro e u9 ⟨rfl, hg⟩; have HG22 := hid hg; clear hg))
                    go_roundw
                    case rel => exact ⟨i + 1, y, A', by go_num, rfl, by omega, by omega, by omega, HRel.out _ (gtrans HG5.out (gtrans HX.out (gtrans HU.out HG23.out)))⟩
                    case measure => simp [intOf]; omega
                · as_aux_lemma =>
                  have HZ5 : Hid (∀ (x y : Operand) (u : World), (do eqGuard .leq 3 x y (.int .i64 ((us + o.bn : Nat) : Int)) (.int .i64 (1 + (rr : Int))); binOp .leq 3 (.int .i64 ((us + o.bn : Nat) : Int)) (.int .i64 (1 + (rr : Int))) : Sem Value).run Try.prog u = .ok (.bool false) u) := hid (fun x y u => by have e : ¬ ((us + o.bn : Nat) : Int) ≤ 1 + (rr : Int) := (by omega); go_simp; omega)
                  clear hfu HFu hr
                  refine wp_region_listX (by kernel_rfl) [fun v _ => v = (Value.int .i64 93), fun v _ => v = Value.int .i64 93, fun v _ => v = (Value.bool true), fun v _ => v = (Value.bool true), fun v _ => v = (Value.slice sa sn sc), fun v _ => v = Value.int .i64 (us : Nat), fun v _ => v = (Value.pointer (some ⟨p7, 4, none⟩)), fun v _ => v = (Value.slice o.ba o.bn o.bc), fun v _ => v = (Value.int .i64 (o.bn : Nat)), fun v _ => v = (Value.int .i64 ((us + o.bn : Nat) : Int)), fun v _ => v = (Value.int .i64 (1 + (rr : Int))), fun v _ => v = (Value.bool false), fun v _ => v = (Value.bool false), fun v _ => v = (Value.bool false), fun v _ => v = undef, fun v _ => v = undef, fun v _ => v = undef, fun v _ => v = undef, fun v _ => v = undef, fun v _ => v = undef, fun v _ => v = (Value.bool false)] (none) (fun _ => none) 21 (by kernel_rfl) (by kernel_rfl) (by kernel_rfl) (by kernel_rfl) (by decide) noRow_one (fun _ => .inl rfl) ⟨fun i v u u' hki h hg => h, fun i v u u' hki h hg => h, fun i v u u' hki h hg => h, fun i v u u' hki h hg => h, fun i v u u' hki h hg => h, fun i v u u' hki h hg => h, fun i v u u' hki h hg => h, fun i v u u' hki h hg => h, fun i v u u' hki h hg => h, fun i v u u' hki h hg => h, fun i v u u' hki h hg => h, fun i v u u' hki h hg => h, fun i v u u' hki h hg => h, fun i v u u' hki h hg => h, fun i v u u' hki h hg => h, fun i v u u' hki h hg => h, fun i v u u' hki h hg => h, fun i v u u' hki h hg => h, fun i v u u' hki h hg => h, fun i v u u' hki h hg => h, fun i v u u' hki h hg => h, trivial⟩ ⟨?_, ?_, ?_, ?_, ?_, ?_, ?_, ?_, ?_, ?_, ?_, ?_, ?_, ?_, ?_, ?_, ?_, ?_, ?_, ?_, ?_, trivial⟩ ?_
                  · intro A u hu hpu hsz hout hdeps
                    have e10 : A.eval (.tmp 10) = (.int .i64 93) := (hout 10 (by kernel_rfl)).trans rfl
                    refine ifw_none rfl ?_
                    with_reducible refine shown_q (Value.int .i64 93) ?qq_2b_0 (fun _ _ => ?qr_2b_0)
                    case qr_2b_0 => exact (rfl : (Value.int .i64 93) = (Value.int .i64 93))
                    with_reducible refine quietAt_mv (.tmp 10) (Value.int .i64 93) ?h0_2b_0 ?h1_2b_0
                    case h0_2b_0 => rfl
                    case h1_2b_0 => exact e10
                  · intro A u hu hpu hsz hout hdeps
                    have e126 : A.eval (.tmp 126) = (.int .i64 93) := by have h := depL hdeps 0 (by kernel_rfl) 126 (by kernel_rfl); exact h
                    refine ifw_none rfl ?_
                    with_reducible refine shown_call 9 Try.f9 ?h0_2b_1 ?h1_2b_1 ?h2_2b_1 #[.tmp 126] #[27] ?h3_2b_1 #[(Value.int .i64 93)] ?h4_2b_1 ?h5_2b_1
                    case h0_2b_1 => exact Try.func9
                    case h1_2b_1 => kernel_rfl
                    case h2_2b_1 => kernel_rfl
                    case h3_2b_1 => rfl
                    case h4_2b_1 => exact map1 _ _ _ e126
                    case h5_2b_1 => exact HNu'.out u
                  · intro A u hu hpu hsz hout hdeps
                    have f127 : (fun v _ => v = Value.int .i64 93) (A.eval (.tmp 127)) u := by have h := depL hdeps 1 (by kernel_rfl) 127 (by kernel_rfl); exact h
                    have e127 := (f127 : _ = Value.int .i64 93)
                    refine ifw_none rfl ?_
                    with_reducible refine shown_q (Value.bool true) ?qq_2b_2 (fun _ _ => ?qr_2b_2)
                    case qr_2b_2 => exact (rfl : (Value.bool true) = (Value.bool true))
                    with_reducible refine quietAt_bin .eql 3 (.tmp 127) (.const (.int .i64 93)) 3 (Value.int .i64 93) (Value.int .i64 93) (Value.bool true) ?h0_2b_2 ?h1_2b_2 ?h2_2b_2 ?h3_2b_2
                    case h0_2b_2 => rfl
                    case h1_2b_2 => exact e127
                    case h2_2b_2 => exact rfl
                    case h3_2b_2 => exact HZ3.out _ _ u
                  · intro A u hu hpu hsz hout hdeps
                    have e128 : A.eval (.tmp 128) = (.bool true) := by have h := depL hdeps 2 (by kernel_rfl) 128 (by kernel_rfl); exact h
                    refine ifw_none rfl ?_
                    with_reducible refine shown_q (Value.bool true) ?qq_2b_3 (fun _ _ => ?qr_2b_3)
                    case qr_2b_3 => exact (rfl : (Value.bool true) = (Value.bool true))
                    with_reducible refine quietAt_mv (.tmp 128) (Value.bool true) ?h0_2b_3 ?h1_2b_3
                    case h0_2b_3 => rfl
                    case h1_2b_3 => exact e128
                  · intro A u hu hpu hsz hout hdeps
                    have e129 : A.eval (.tmp 129) = (.bool true) := by have h := depL hdeps 3 (by kernel_rfl) 129 (by kernel_rfl); exact h
                    have e9 : A.eval (.tmp 9) = (.slice sa sn sc) := (hout 9 (by kernel_rfl)).trans rfl
                    refine ifw_want 3 true 129 rfl rfl e129 ?_
                    with_reducible refine shown_q (Value.slice sa sn sc) ?qq_2b_4 (fun _ _ => ?qr_2b_4)
                    case qr_2b_4 => exact (rfl : (Value.slice sa sn sc) = (Value.slice sa sn sc))
                    with_reducible refine quietAt_mv (.tmp 9) (Value.slice sa sn sc) ?h0_2b_4 ?h1_2b_4
                    case h0_2b_4 => rfl
                    case h1_2b_4 => exact e9
                  · intro A u hu hpu hsz hout hdeps
                    have e129 : A.eval (.tmp 129) = (.bool true) := by have h := depL hdeps 3 (by kernel_rfl) 129 (by kernel_rfl); exact h
                    have e130 : A.eval (.tmp 130) = (.slice sa sn sc) := by have h := depL hdeps 4 (by kernel_rfl) 130 (by kernel_rfl); exact h
                    refine ifw_want 3 true 129 rfl rfl e129 ?_
                    with_reducible refine shown_call 22 Try.f22 ?h0_2b_5 ?h1_2b_5 ?h2_2b_5 #[.tmp 130] #[34] ?h3_2b_5 #[(Value.slice sa sn sc)] ?h4_2b_5 ?h5_2b_5
                    case h0_2b_5 => exact Try.func22
                    case h1_2b_5 => kernel_rfl
                    case h2_2b_5 => kernel_rfl
                    case h3_2b_5 => rfl
                    case h4_2b_5 => exact map1 _ _ _ e130
                    case h5_2b_5 => exact HSm.out u (gtrans HX.out hu)
                  · intro A u hu hpu hsz hout hdeps
                    have e129 : A.eval (.tmp 129) = (.bool true) := by have h := depL hdeps 3 (by kernel_rfl) 129 (by kernel_rfl); exact h
                    have e8 : A.eval (.tmp 8) = (.pointer (some ⟨p7, 0, none⟩)) := (hout 8 (by kernel_rfl)).trans rfl
                    refine ifw_want 3 true 129 rfl rfl e129 ?_
                    with_reducible refine shown_q (Value.pointer (some ⟨p7, 4, none⟩)) ?qq_2b_6 (fun _ _ => ?qr_2b_6)
                    case qr_2b_6 => exact (rfl : (Value.pointer (some ⟨p7, 4, none⟩)) = (Value.pointer (some ⟨p7, 4, none⟩)))
                    with_reducible refine quietAt_field 36 (.tmp 8) 4 ?h0_2b_6 ⟨p7, 0, none⟩ ⟨p7, 4, none⟩ ?h1_2b_6 ?h2_2b_6
                    case h0_2b_6 => rfl
                    case h1_2b_6 => exact e8
                    case h2_2b_6 => kernel_rfl
                  · intro A u hu hpu hsz hout hdeps
                    have e129 : A.eval (.tmp 129) = (.bool true) := by have h := depL hdeps 3 (by kernel_rfl) 129 (by kernel_rfl); exact h
                    have e132 : A.eval (.tmp 132) = (.pointer (some ⟨p7, 4, none⟩)) := by have h := depL hdeps 6 (by kernel_rfl) 132 (by kernel_rfl); exact h
                    refine ifw_want 3 true 129 rfl rfl e129 ?_
                    with_reducible refine shown_q (Value.slice o.ba o.bn o.bc) ?qq_2b_7 (fun _ _ => ?qr_2b_7)
                    case qr_2b_7 => exact (rfl : (Value.slice o.ba o.bn o.bc) = (Value.slice o.ba o.bn o.bc))
                    with_reducible refine quietAt_ld 33 (.tmp 132) (Value.pointer (some ⟨p7, 4, none⟩)) (Value.slice o.ba o.bn o.bc) ?h0_2b_7 ?h1_2b_7 ?h2_2b_7
                    case h0_2b_7 => rfl
                    case h1_2b_7 => exact e132
                    case h2_2b_7 => exact ld33 p7 4 o.bn o.bc o.ba u (HK4.out u (gtrans HX.out hu))
                  · intro A u hu hpu hsz hout hdeps
                    have e129 : A.eval (.tmp 129) = (.bool true) := by have h := depL hdeps 3 (by kernel_rfl) 129 (by kernel_rfl); exact h
                    have e133 : A.eval (.tmp 133) = (.slice o.ba o.bn o.bc) := by have h := depL hdeps 7 (by kernel_rfl) 133 (by kernel_rfl); exact h
                    refine ifw_want 3 true 129 rfl rfl e129 ?_
                    with_reducible refine shown_q (Value.int .i64 (o.bn : Nat)) ?qq_2b_8 (fun _ _ => ?qr_2b_8)
                    case qr_2b_8 => exact (rfl : (Value.int .i64 (o.bn : Nat)) = (Value.int .i64 (o.bn : Nat)))
                    with_reducible refine quietAt_len (.tmp 133) 33 ?h0_2b_8 o.ba o.bn o.bc ?h1_2b_8 ?h2_2b_8
                    case h0_2b_8 => rfl
                    case h1_2b_8 => exact e133
                    case h2_2b_8 => kernel_rfl
                  · intro A u hu hpu hsz hout hdeps
                    have e129 : A.eval (.tmp 129) = (.bool true) := by have h := depL hdeps 3 (by kernel_rfl) 129 (by kernel_rfl); exact h
                    have f131 : (fun v _ => v = Value.int .i64 (us : Nat)) (A.eval (.tmp 131)) u := by have h := depL hdeps 5 (by kernel_rfl) 131 (by kernel_rfl); exact h
                    have e131 := (f131 : _ = Value.int .i64 (us : Nat))
                    have e134 : A.eval (.tmp 134) = (.int .i64 (o.bn : Nat)) := by have h := depL hdeps 8 (by kernel_rfl) 134 (by kernel_rfl); exact h
                    refine ifw_want 3 true 129 rfl rfl e129 ?_
                    with_reducible refine shown_q (Value.int .i64 ((us + o.bn : Nat) : Int)) ?qq_2b_9 (fun _ _ => ?qr_2b_9)
                    case qr_2b_9 => exact (rfl : (Value.int .i64 ((us + o.bn : Nat) : Int)) = (Value.int .i64 ((us + o.bn : Nat) : Int)))
                    with_reducible refine quietAt_bin .add 3 (.tmp 131) (.tmp 134) 3 (Value.int .i64 (us : Nat)) (Value.int .i64 (o.bn : Nat)) (Value.int .i64 ((us + o.bn : Nat) : Int)) ?h0_2b_9 ?h1_2b_9 ?h2_2b_9 ?h3_2b_9
                    case h0_2b_9 => rfl
                    case h1_2b_9 => exact e131
                    case h2_2b_9 => exact e134
                    case h3_2b_9 => exact HZ4.out _ _ u
                  · intro A u hu hpu hsz hout hdeps
                    have e129 : A.eval (.tmp 129) = (.bool true) := by have h := depL hdeps 3 (by kernel_rfl) 129 (by kernel_rfl); exact h
                    have e3 : A.eval (.tmp 3) = (.int .i64 (1 + (rr : Int))) := (hout 3 (by kernel_rfl)).trans rfl
                    refine ifw_want 3 true 129 rfl rfl e129 ?_
                    with_reducible refine shown_q (Value.int .i64 (1 + (rr : Int))) ?qq_2b_10 (fun _ _ => ?qr_2b_10)
                    case qr_2b_10 => exact (rfl : (Value.int .i64 (1 + (rr : Int))) = (Value.int .i64 (1 + (rr : Int))))
                    with_reducible refine quietAt_mv (.tmp 3) (Value.int .i64 (1 + (rr : Int))) ?h0_2b_10 ?h1_2b_10
                    case h0_2b_10 => rfl
                    case h1_2b_10 => exact e3
                  · intro A u hu hpu hsz hout hdeps
                    have e129 : A.eval (.tmp 129) = (.bool true) := by have h := depL hdeps 3 (by kernel_rfl) 129 (by kernel_rfl); exact h
                    have e135 : A.eval (.tmp 135) = (.int .i64 ((us + o.bn : Nat) : Int)) := by have h := depL hdeps 9 (by kernel_rfl) 135 (by kernel_rfl); exact h
                    have e136 : A.eval (.tmp 136) = (.int .i64 (1 + (rr : Int))) := by have h := depL hdeps 10 (by kernel_rfl) 136 (by kernel_rfl); exact h
                    refine ifw_want 3 true 129 rfl rfl e129 ?_
                    with_reducible refine shown_q (Value.bool false) ?qq_2b_11 (fun _ _ => ?qr_2b_11)
                    case qr_2b_11 => exact (rfl : (Value.bool false) = (Value.bool false))
                    with_reducible refine quietAt_bin .leq 3 (.tmp 135) (.tmp 136) 3 (Value.int .i64 ((us + o.bn : Nat) : Int)) (Value.int .i64 (1 + (rr : Int))) (Value.bool false) ?h0_2b_11 ?h1_2b_11 ?h2_2b_11 ?h3_2b_11
                    case h0_2b_11 => rfl
                    case h1_2b_11 => exact e135
                    case h2_2b_11 => exact e136
                    case h3_2b_11 => exact HZ5.out _ _ u
                  · intro A u hu hpu hsz hout hdeps
                    have e129 : A.eval (.tmp 129) = (.bool true) := by have h := depL hdeps 3 (by kernel_rfl) 129 (by kernel_rfl); exact h
                    have e137 : A.eval (.tmp 137) = (.bool false) := by have h := depL hdeps 11 (by kernel_rfl) 137 (by kernel_rfl); exact h
                    refine ifw_none rfl ?_
                    with_reducible refine shown_q (Value.bool false) ?qq_2b_12 (fun _ _ => ?qr_2b_12)
                    case qr_2b_12 => exact (rfl : (Value.bool false) = (Value.bool false))
                    with_reducible refine quietAt_pick (.tmp 129) (.tmp 137) (.const (.bool false)) true (Value.bool false) ?h0_2b_12 ?h1_2b_12 ?h2_2b_12
                    case h0_2b_12 => rfl
                    case h1_2b_12 => exact e129
                    case h2_2b_12 => rw [if_pos rfl]; exact e137
                  · intro A u hu hpu hsz hout hdeps
                    have e138 : A.eval (.tmp 138) = (.bool false) := by have h := depL hdeps 12 (by kernel_rfl) 138 (by kernel_rfl); exact h
                    refine ifw_none rfl ?_
                    with_reducible refine shown_q (Value.bool false) ?qq_2b_13 (fun _ _ => ?qr_2b_13)
                    case qr_2b_13 => exact (rfl : (Value.bool false) = (Value.bool false))
                    with_reducible refine quietAt_mv (.tmp 138) (Value.bool false) ?h0_2b_13 ?h1_2b_13
                    case h0_2b_13 => rfl
                    case h1_2b_13 => exact e138
                  · intro A u hu hpu hsz hout hdeps
                    have e139 : A.eval (.tmp 139) = (.bool false) := by have h := depL hdeps 13 (by kernel_rfl) 139 (by kernel_rfl); exact h
                    refine ifw_pass 13 true false 139 rfl rfl e139 (by decide) ?_
                    exact rfl
                  · intro A u hu hpu hsz hout hdeps
                    have e139 : A.eval (.tmp 139) = (.bool false) := by have h := depL hdeps 13 (by kernel_rfl) 139 (by kernel_rfl); exact h
                    refine ifw_pass 13 true false 139 rfl rfl e139 (by decide) ?_
                    exact rfl
                  · intro A u hu hpu hsz hout hdeps
                    have e141 : A.eval (.tmp 141) = undef := by have h := depL hdeps 15 (by kernel_rfl) 141 (by kernel_rfl); exact h
                    refine ifw_undef 15 false 141 rfl rfl e141 ?_
                    exact rfl
                  · intro A u hu hpu hsz hout hdeps
                    have e141 : A.eval (.tmp 141) = undef := by have h := depL hdeps 15 (by kernel_rfl) 141 (by kernel_rfl); exact h
                    refine ifw_undef 15 false 141 rfl rfl e141 ?_
                    exact rfl
                  · intro A u hu hpu hsz hout hdeps
                    have e141 : A.eval (.tmp 141) = undef := by have h := depL hdeps 15 (by kernel_rfl) 141 (by kernel_rfl); exact h
                    refine ifw_undef 15 false 141 rfl rfl e141 ?_
                    exact rfl
                  · intro A u hu hpu hsz hout hdeps
                    have e139 : A.eval (.tmp 139) = (.bool false) := by have h := depL hdeps 13 (by kernel_rfl) 139 (by kernel_rfl); exact h
                    refine ifw_pass 13 true false 139 rfl rfl e139 (by decide) ?_
                    exact rfl
                  · intro A u hu hpu hsz hout hdeps
                    have e139 : A.eval (.tmp 139) = (.bool false) := by have h := depL hdeps 13 (by kernel_rfl) 139 (by kernel_rfl); exact h
                    refine ifw_none rfl ?_
                    with_reducible refine shown_q (Value.bool false) ?qq_2b_20 (fun _ _ => ?qr_2b_20)
                    case qr_2b_20 => exact (rfl : (Value.bool false) = (Value.bool false))
                    with_reducible refine quietAt_pick (.tmp 139) (.tmp 145) (.const (.bool false)) false (Value.bool false) ?h0_2b_20 ?h1_2b_20 ?h2_2b_20
                    case h0_2b_20 => rfl
                    case h1_2b_20 => exact e139
                    case h2_2b_20 => rw [if_neg (by decide)]; exact rfl
                  · intro A u8 listed hh hall
                    have hA := hh.frame
                    have HU := hid hh.grown
                    obtain ⟨x126, hx126⟩ : ∃ x, A.eval (.tmp 126) = x := ⟨_, rfl⟩
                    have f126 : (fun v _ => v = (Value.int .i64 93)) x126 u8 := by rw [← hx126]; exact hh.got 0 _ 126 rfl rfl (hall 0 (by decide))
                    obtain ⟨x127, hx127⟩ : ∃ x, A.eval (.tmp 127) = x := ⟨_, rfl⟩
                    have f127 : (fun v _ => v = Value.int .i64 93) x127 u8 := by rw [← hx127]; exact hh.got 1 _ 127 rfl rfl (hall 1 (by decide))
                    obtain ⟨x128, hx128⟩ : ∃ x, A.eval (.tmp 128) = x := ⟨_, rfl⟩
                    have f128 : (fun v _ => v = (Value.bool true)) x128 u8 := by rw [← hx128]; exact hh.got 2 _ 128 rfl rfl (hall 2 (by decide))
                    obtain ⟨x129, hx129⟩ : ∃ x, A.eval (.tmp 129) = x := ⟨_, rfl⟩
                    have f129 : (fun v _ => v = (Value.bool true)) x129 u8 := by rw [← hx129]; exact hh.got 3 _ 129 rfl rfl (hall 3 (by decide))
                    obtain ⟨x130, hx130⟩ : ∃ x, A.eval (.tmp 130) = x := ⟨_, rfl⟩
                    have f130 : (fun v _ => v = (Value.slice sa sn sc)) x130 u8 := by rw [← hx130]; exact hh.got 4 _ 130 rfl rfl (hall 4 (by decide))
                    obtain ⟨x131, hx131⟩ : ∃ x, A.eval (.tmp 131) = x := ⟨_, rfl⟩
                    have f131 : (fun v _ => v = Value.int .i64 (us : Nat)) x131 u8 := by rw [← hx131]; exact hh.got 5 _ 131 rfl rfl (hall 5 (by decide))
                    obtain ⟨x132, hx132⟩ : ∃ x, A.eval (.tmp 132) = x := ⟨_, rfl⟩
                    have f132 : (fun v _ => v = (Value.pointer (some ⟨p7, 4, none⟩))) x132 u8 := by rw [← hx132]; exact hh.got 6 _ 132 rfl rfl (hall 6 (by decide))
                    obtain ⟨x133, hx133⟩ : ∃ x, A.eval (.tmp 133) = x := ⟨_, rfl⟩
                    have f133 : (fun v _ => v = (Value.slice o.ba o.bn o.bc)) x133 u8 := by rw [← hx133]; exact hh.got 7 _ 133 rfl rfl (hall 7 (by decide))
                    obtain ⟨x134, hx134⟩ : ∃ x, A.eval (.tmp 134) = x := ⟨_, rfl⟩
                    have f134 : (fun v _ => v = (Value.int .i64 (o.bn : Nat))) x134 u8 := by rw [← hx134]; exact hh.got 8 _ 134 rfl rfl (hall 8 (by decide))
                    obtain ⟨x135, hx135⟩ : ∃ x, A.eval (.tmp 135) = x := ⟨_, rfl⟩
                    have f135 : (fun v _ => v = (Value.int .i64 ((us + o.bn : Nat) : Int))) x135 u8 := by rw [← hx135]; exact hh.got 9 _ 135 rfl rfl (hall 9 (by decide))
                    obtain ⟨x136, hx136⟩ : ∃ x, A.eval (.tmp 136) = x := ⟨_, rfl⟩
                    have f136 : (fun v _ => v = (Value.int .i64 (1 + (rr : Int)))) x136 u8 := by rw [← hx136]; exact hh.got 10 _ 136 rfl rfl (hall 10 (by decide))
                    obtain ⟨x137, hx137⟩ : ∃ x, A.eval (.tmp 137) = x := ⟨_, rfl⟩
                    have f137 : (fun v _ => v = (Value.bool false)) x137 u8 := by rw [← hx137]; exact hh.got 11 _ 137 rfl rfl (hall 11 (by decide))
                    obtain ⟨x138, hx138⟩ : ∃ x, A.eval (.tmp 138) = x := ⟨_, rfl⟩
                    have f138 : (fun v _ => v = (Value.bool false)) x138 u8 := by rw [← hx138]; exact hh.got 12 _ 138 rfl rfl (hall 12 (by decide))
                    obtain ⟨x139, hx139⟩ : ∃ x, A.eval (.tmp 139) = x := ⟨_, rfl⟩
                    have f139 : (fun v _ => v = (Value.bool false)) x139 u8 := by rw [← hx139]; exact hh.got 13 _ 139 rfl rfl (hall 13 (by decide))
                    obtain ⟨x140, hx140⟩ : ∃ x, A.eval (.tmp 140) = x := ⟨_, rfl⟩
                    have f140 : (fun v _ => v = undef) x140 u8 := by rw [← hx140]; exact hh.got 14 _ 140 rfl rfl (hall 14 (by decide))
                    obtain ⟨x141, hx141⟩ : ∃ x, A.eval (.tmp 141) = x := ⟨_, rfl⟩
                    have f141 : (fun v _ => v = undef) x141 u8 := by rw [← hx141]; exact hh.got 15 _ 141 rfl rfl (hall 15 (by decide))
                    obtain ⟨x142, hx142⟩ : ∃ x, A.eval (.tmp 142) = x := ⟨_, rfl⟩
                    have f142 : (fun v _ => v = undef) x142 u8 := by rw [← hx142]; exact hh.got 16 _ 142 rfl rfl (hall 16 (by decide))
                    obtain ⟨x143, hx143⟩ : ∃ x, A.eval (.tmp 143) = x := ⟨_, rfl⟩
                    have f143 : (fun v _ => v = undef) x143 u8 := by rw [← hx143]; exact hh.got 17 _ 143 rfl rfl (hall 17 (by decide))
                    obtain ⟨x144, hx144⟩ : ∃ x, A.eval (.tmp 144) = x := ⟨_, rfl⟩
                    have f144 : (fun v _ => v = undef) x144 u8 := by rw [← hx144]; exact hh.got 18 _ 144 rfl rfl (hall 18 (by decide))
                    obtain ⟨x145, hx145⟩ : ∃ x, A.eval (.tmp 145) = x := ⟨_, rfl⟩
                    have f145 : (fun v _ => v = undef) x145 u8 := by rw [← hx145]; exact hh.got 19 _ 145 rfl rfl (hall 19 (by decide))
                    obtain ⟨x146, hx146⟩ : ∃ x, A.eval (.tmp 146) = x := ⟨_, rfl⟩
                    have f146 : (fun v _ => v = (Value.bool false)) x146 u8 := by rw [← hx146]; exact hh.got 20 _ 146 rfl rfl (hall 20 (by decide))
                    dsimp only [wrote, List.foldl] at hA
                    rw [hx126, hx127, hx128, hx129, hx130, hx131, hx132, hx133, hx134, hx135, hx136, hx137, hx138, hx139, hx140, hx141, hx142, hx143, hx144, hx145, hx146] at hA
                    clear hh hall hx126 hx127 hx128 hx129 hx130 hx131 hx132 hx133 hx134 hx135 hx136 hx137 hx138 hx139 hx140 hx141 hx142 hx143 hx144 hx145 hx146
                    replace f126 := (f126 : x126 = (.int .i64 93))
                    subst f126
                    have e127 := (f127 : _ = Value.int .i64 93)
                    subst e127
                    replace f128 := (f128 : x128 = (.bool true))
                    subst f128
                    replace f129 := (f129 : x129 = (.bool true))
                    subst f129
                    replace f130 := (f130 : x130 = (.slice sa sn sc))
                    subst f130
                    have e131 := (f131 : _ = Value.int .i64 (us : Nat))
                    subst e131
                    replace f132 := (f132 : x132 = (.pointer (some ⟨p7, 4, none⟩)))
                    subst f132
                    replace f133 := (f133 : x133 = (.slice o.ba o.bn o.bc))
                    subst f133
                    replace f134 := (f134 : x134 = (.int .i64 (o.bn : Nat)))
                    subst f134
                    replace f135 := (f135 : x135 = (.int .i64 ((us + o.bn : Nat) : Int)))
                    subst f135
                    replace f136 := (f136 : x136 = (.int .i64 (1 + (rr : Int))))
                    subst f136
                    replace f137 := (f137 : x137 = (.bool false))
                    subst f137
                    replace f138 := (f138 : x138 = (.bool false))
                    subst f138
                    replace f139 := (f139 : x139 = (.bool false))
                    subst f139
                    replace f140 := (f140 : x140 = undef)
                    subst f140
                    replace f141 := (f141 : x141 = undef)
                    subst f141
                    replace f142 := (f142 : x142 = undef)
                    subst f142
                    replace f143 := (f143 : x143 = undef)
                    subst f143
                    replace f144 := (f144 : x144 = undef)
                    subst f144
                    replace f145 := (f145 : x145 = undef)
                    subst f145
                    replace f146 := (f146 : x146 = (.bool false))
                    subst f146
                    subst hA
                    show wpList _ _ _ [] _ _
                    unfold wpList
                    simp only [Act.put, List.setIfInBounds_toArray, List.set_cons_succ, List.set_cons_zero]
                    go_wp2_with (first
                      | (go_at_call 23; (with_reducible refine (HTl.out _ (gtrans HX.out (gtrans HU.out HG22.out))).mono ?_); rintro e u10 ⟨rfl, hg⟩; have HG23 := hid (gtrans HG22.out hg); clear hg)
                      | (go_at_call 22; (with_reducible refine (HSM.out _ (gtrans HX.out HU.out)).mono ?_); rintro e u9 ⟨rfl, hg⟩; have HG22 := hid hg; clear hg))
                    go_roundw
                    case rel => exact ⟨i + 1, y, A', by go_num, rfl, by omega, by omega, by omega, HRel.out _ (gtrans HG5.out (gtrans HX.out (gtrans HU.out HG23.out)))⟩
                    case measure => simp [intOf]; omega
              · as_aux_lemma =>
                have HZ3 : Hid (∀ (x y : Operand) (u : World), (do eqGuard .eql 3 x y (.int .i64 E) (.int .i64 93); binOp .eql 3 (.int .i64 E) (.int .i64 93) : Sem Value).run Try.prog u = .ok (.bool false) u) := hid (fun x y u => by go_simp)
                clear HFu hE9 hE0
                refine wp_region_listX (by kernel_rfl) [fun v _ => v = (Value.int .i64 E), fun v _ => v = Value.int .i64 E, fun v _ => v = (Value.bool false), fun v _ => v = (Value.bool false), fun v _ => v = undef, fun v _ => v = undef, fun v _ => v = undef, fun v _ => v = undef, fun v _ => v = undef, fun v _ => v = undef, fun v _ => v = undef, fun v _ => v = undef, fun v _ => v = (Value.bool false), fun v _ => v = (Value.bool false), fun v _ => v = undef, fun v _ => v = undef, fun v _ => v = undef, fun v _ => v = undef, fun v _ => v = undef, fun v _ => v = undef, fun v _ => v = (Value.bool false)] (none) (fun _ => none) 21 (by kernel_rfl) (by kernel_rfl) (by kernel_rfl) (by kernel_rfl) (by decide) noRow_one (fun _ => .inl rfl) ⟨fun i v u u' hki h hg => h, fun i v u u' hki h hg => h, fun i v u u' hki h hg => h, fun i v u u' hki h hg => h, fun i v u u' hki h hg => h, fun i v u u' hki h hg => h, fun i v u u' hki h hg => h, fun i v u u' hki h hg => h, fun i v u u' hki h hg => h, fun i v u u' hki h hg => h, fun i v u u' hki h hg => h, fun i v u u' hki h hg => h, fun i v u u' hki h hg => h, fun i v u u' hki h hg => h, fun i v u u' hki h hg => h, fun i v u u' hki h hg => h, fun i v u u' hki h hg => h, fun i v u u' hki h hg => h, fun i v u u' hki h hg => h, fun i v u u' hki h hg => h, fun i v u u' hki h hg => h, trivial⟩ ⟨?_, ?_, ?_, ?_, ?_, ?_, ?_, ?_, ?_, ?_, ?_, ?_, ?_, ?_, ?_, ?_, ?_, ?_, ?_, ?_, ?_, trivial⟩ ?_
                · intro A u hu hpu hsz hout hdeps
                  have e10 : A.eval (.tmp 10) = (.int .i64 E) := (hout 10 (by kernel_rfl)).trans rfl
                  refine ifw_none rfl ?_
                  with_reducible refine shown_q (Value.int .i64 E) ?qq_3b_0 (fun _ _ => ?qr_3b_0)
                  case qr_3b_0 => exact (rfl : (Value.int .i64 E) = (Value.int .i64 E))
                  with_reducible refine quietAt_mv (.tmp 10) (Value.int .i64 E) ?h0_3b_0 ?h1_3b_0
                  case h0_3b_0 => rfl
                  case h1_3b_0 => exact e10
                · intro A u hu hpu hsz hout hdeps
                  have e126 : A.eval (.tmp 126) = (.int .i64 E) := by have h := depL hdeps 0 (by kernel_rfl) 126 (by kernel_rfl); exact h
                  refine ifw_none rfl ?_
                  with_reducible refine shown_call 9 Try.f9 ?h0_3b_1 ?h1_3b_1 ?h2_3b_1 #[.tmp 126] #[27] ?h3_3b_1 #[(Value.int .i64 E)] ?h4_3b_1 ?h5_3b_1
                  case h0_3b_1 => exact Try.func9
                  case h1_3b_1 => kernel_rfl
                  case h2_3b_1 => kernel_rfl
                  case h3_3b_1 => rfl
                  case h4_3b_1 => exact map1 _ _ _ e126
                  case h5_3b_1 => exact HNu'.out u
                · intro A u hu hpu hsz hout hdeps
                  have f127 : (fun v _ => v = Value.int .i64 E) (A.eval (.tmp 127)) u := by have h := depL hdeps 1 (by kernel_rfl) 127 (by kernel_rfl); exact h
                  have e127 := (f127 : _ = Value.int .i64 E)
                  refine ifw_none rfl ?_
                  with_reducible refine shown_q (Value.bool false) ?qq_3b_2 (fun _ _ => ?qr_3b_2)
                  case qr_3b_2 => exact (rfl : (Value.bool false) = (Value.bool false))
                  with_reducible refine quietAt_bin .eql 3 (.tmp 127) (.const (.int .i64 93)) 3 (Value.int .i64 E) (Value.int .i64 93) (Value.bool false) ?h0_3b_2 ?h1_3b_2 ?h2_3b_2 ?h3_3b_2
                  case h0_3b_2 => rfl
                  case h1_3b_2 => exact e127
                  case h2_3b_2 => exact rfl
                  case h3_3b_2 => exact HZ3.out _ _ u
                · intro A u hu hpu hsz hout hdeps
                  have e128 : A.eval (.tmp 128) = (.bool false) := by have h := depL hdeps 2 (by kernel_rfl) 128 (by kernel_rfl); exact h
                  refine ifw_none rfl ?_
                  with_reducible refine shown_q (Value.bool false) ?qq_3b_3 (fun _ _ => ?qr_3b_3)
                  case qr_3b_3 => exact (rfl : (Value.bool false) = (Value.bool false))
                  with_reducible refine quietAt_mv (.tmp 128) (Value.bool false) ?h0_3b_3 ?h1_3b_3
                  case h0_3b_3 => rfl
                  case h1_3b_3 => exact e128
                · intro A u hu hpu hsz hout hdeps
                  have e129 : A.eval (.tmp 129) = (.bool false) := by have h := depL hdeps 3 (by kernel_rfl) 129 (by kernel_rfl); exact h
                  refine ifw_pass 3 true false 129 rfl rfl e129 (by decide) ?_
                  exact rfl
                · intro A u hu hpu hsz hout hdeps
                  have e129 : A.eval (.tmp 129) = (.bool false) := by have h := depL hdeps 3 (by kernel_rfl) 129 (by kernel_rfl); exact h
                  refine ifw_pass 3 true false 129 rfl rfl e129 (by decide) ?_
                  exact rfl
                · intro A u hu hpu hsz hout hdeps
                  have e129 : A.eval (.tmp 129) = (.bool false) := by have h := depL hdeps 3 (by kernel_rfl) 129 (by kernel_rfl); exact h
                  refine ifw_pass 3 true false 129 rfl rfl e129 (by decide) ?_
                  exact rfl
                · intro A u hu hpu hsz hout hdeps
                  have e129 : A.eval (.tmp 129) = (.bool false) := by have h := depL hdeps 3 (by kernel_rfl) 129 (by kernel_rfl); exact h
                  refine ifw_pass 3 true false 129 rfl rfl e129 (by decide) ?_
                  exact rfl
                · intro A u hu hpu hsz hout hdeps
                  have e129 : A.eval (.tmp 129) = (.bool false) := by have h := depL hdeps 3 (by kernel_rfl) 129 (by kernel_rfl); exact h
                  refine ifw_pass 3 true false 129 rfl rfl e129 (by decide) ?_
                  exact rfl
                · intro A u hu hpu hsz hout hdeps
                  have e129 : A.eval (.tmp 129) = (.bool false) := by have h := depL hdeps 3 (by kernel_rfl) 129 (by kernel_rfl); exact h
                  refine ifw_pass 3 true false 129 rfl rfl e129 (by decide) ?_
                  exact rfl
                · intro A u hu hpu hsz hout hdeps
                  have e129 : A.eval (.tmp 129) = (.bool false) := by have h := depL hdeps 3 (by kernel_rfl) 129 (by kernel_rfl); exact h
                  refine ifw_pass 3 true false 129 rfl rfl e129 (by decide) ?_
                  exact rfl
                · intro A u hu hpu hsz hout hdeps
                  have e129 : A.eval (.tmp 129) = (.bool false) := by have h := depL hdeps 3 (by kernel_rfl) 129 (by kernel_rfl); exact h
                  refine ifw_pass 3 true false 129 rfl rfl e129 (by decide) ?_
                  exact rfl
                · intro A u hu hpu hsz hout hdeps
                  have e129 : A.eval (.tmp 129) = (.bool false) := by have h := depL hdeps 3 (by kernel_rfl) 129 (by kernel_rfl); exact h
                  refine ifw_none rfl ?_
                  with_reducible refine shown_q (Value.bool false) ?qq_3b_12 (fun _ _ => ?qr_3b_12)
                  case qr_3b_12 => exact (rfl : (Value.bool false) = (Value.bool false))
                  with_reducible refine quietAt_pick (.tmp 129) (.tmp 137) (.const (.bool false)) false (Value.bool false) ?h0_3b_12 ?h1_3b_12 ?h2_3b_12
                  case h0_3b_12 => rfl
                  case h1_3b_12 => exact e129
                  case h2_3b_12 => rw [if_neg (by decide)]; exact rfl
                · intro A u hu hpu hsz hout hdeps
                  have e138 : A.eval (.tmp 138) = (.bool false) := by have h := depL hdeps 12 (by kernel_rfl) 138 (by kernel_rfl); exact h
                  refine ifw_none rfl ?_
                  with_reducible refine shown_q (Value.bool false) ?qq_3b_13 (fun _ _ => ?qr_3b_13)
                  case qr_3b_13 => exact (rfl : (Value.bool false) = (Value.bool false))
                  with_reducible refine quietAt_mv (.tmp 138) (Value.bool false) ?h0_3b_13 ?h1_3b_13
                  case h0_3b_13 => rfl
                  case h1_3b_13 => exact e138
                · intro A u hu hpu hsz hout hdeps
                  have e139 : A.eval (.tmp 139) = (.bool false) := by have h := depL hdeps 13 (by kernel_rfl) 139 (by kernel_rfl); exact h
                  refine ifw_pass 13 true false 139 rfl rfl e139 (by decide) ?_
                  exact rfl
                · intro A u hu hpu hsz hout hdeps
                  have e139 : A.eval (.tmp 139) = (.bool false) := by have h := depL hdeps 13 (by kernel_rfl) 139 (by kernel_rfl); exact h
                  refine ifw_pass 13 true false 139 rfl rfl e139 (by decide) ?_
                  exact rfl
                · intro A u hu hpu hsz hout hdeps
                  have e141 : A.eval (.tmp 141) = undef := by have h := depL hdeps 15 (by kernel_rfl) 141 (by kernel_rfl); exact h
                  refine ifw_undef 15 false 141 rfl rfl e141 ?_
                  exact rfl
                · intro A u hu hpu hsz hout hdeps
                  have e141 : A.eval (.tmp 141) = undef := by have h := depL hdeps 15 (by kernel_rfl) 141 (by kernel_rfl); exact h
                  refine ifw_undef 15 false 141 rfl rfl e141 ?_
                  exact rfl
                · intro A u hu hpu hsz hout hdeps
                  have e141 : A.eval (.tmp 141) = undef := by have h := depL hdeps 15 (by kernel_rfl) 141 (by kernel_rfl); exact h
                  refine ifw_undef 15 false 141 rfl rfl e141 ?_
                  exact rfl
                · intro A u hu hpu hsz hout hdeps
                  have e139 : A.eval (.tmp 139) = (.bool false) := by have h := depL hdeps 13 (by kernel_rfl) 139 (by kernel_rfl); exact h
                  refine ifw_pass 13 true false 139 rfl rfl e139 (by decide) ?_
                  exact rfl
                · intro A u hu hpu hsz hout hdeps
                  have e139 : A.eval (.tmp 139) = (.bool false) := by have h := depL hdeps 13 (by kernel_rfl) 139 (by kernel_rfl); exact h
                  refine ifw_none rfl ?_
                  with_reducible refine shown_q (Value.bool false) ?qq_3b_20 (fun _ _ => ?qr_3b_20)
                  case qr_3b_20 => exact (rfl : (Value.bool false) = (Value.bool false))
                  with_reducible refine quietAt_pick (.tmp 139) (.tmp 145) (.const (.bool false)) false (Value.bool false) ?h0_3b_20 ?h1_3b_20 ?h2_3b_20
                  case h0_3b_20 => rfl
                  case h1_3b_20 => exact e139
                  case h2_3b_20 => rw [if_neg (by decide)]; exact rfl
                · intro A u8 listed hh hall
                  have hA := hh.frame
                  have HU := hid hh.grown
                  obtain ⟨x126, hx126⟩ : ∃ x, A.eval (.tmp 126) = x := ⟨_, rfl⟩
                  have f126 : (fun v _ => v = (Value.int .i64 E)) x126 u8 := by rw [← hx126]; exact hh.got 0 _ 126 rfl rfl (hall 0 (by decide))
                  obtain ⟨x127, hx127⟩ : ∃ x, A.eval (.tmp 127) = x := ⟨_, rfl⟩
                  have f127 : (fun v _ => v = Value.int .i64 E) x127 u8 := by rw [← hx127]; exact hh.got 1 _ 127 rfl rfl (hall 1 (by decide))
                  obtain ⟨x128, hx128⟩ : ∃ x, A.eval (.tmp 128) = x := ⟨_, rfl⟩
                  have f128 : (fun v _ => v = (Value.bool false)) x128 u8 := by rw [← hx128]; exact hh.got 2 _ 128 rfl rfl (hall 2 (by decide))
                  obtain ⟨x129, hx129⟩ : ∃ x, A.eval (.tmp 129) = x := ⟨_, rfl⟩
                  have f129 : (fun v _ => v = (Value.bool false)) x129 u8 := by rw [← hx129]; exact hh.got 3 _ 129 rfl rfl (hall 3 (by decide))
                  obtain ⟨x130, hx130⟩ : ∃ x, A.eval (.tmp 130) = x := ⟨_, rfl⟩
                  have f130 : (fun v _ => v = undef) x130 u8 := by rw [← hx130]; exact hh.got 4 _ 130 rfl rfl (hall 4 (by decide))
                  obtain ⟨x131, hx131⟩ : ∃ x, A.eval (.tmp 131) = x := ⟨_, rfl⟩
                  have f131 : (fun v _ => v = undef) x131 u8 := by rw [← hx131]; exact hh.got 5 _ 131 rfl rfl (hall 5 (by decide))
                  obtain ⟨x132, hx132⟩ : ∃ x, A.eval (.tmp 132) = x := ⟨_, rfl⟩
                  have f132 : (fun v _ => v = undef) x132 u8 := by rw [← hx132]; exact hh.got 6 _ 132 rfl rfl (hall 6 (by decide))
                  obtain ⟨x133, hx133⟩ : ∃ x, A.eval (.tmp 133) = x := ⟨_, rfl⟩
                  have f133 : (fun v _ => v = undef) x133 u8 := by rw [← hx133]; exact hh.got 7 _ 133 rfl rfl (hall 7 (by decide))
                  obtain ⟨x134, hx134⟩ : ∃ x, A.eval (.tmp 134) = x := ⟨_, rfl⟩
                  have f134 : (fun v _ => v = undef) x134 u8 := by rw [← hx134]; exact hh.got 8 _ 134 rfl rfl (hall 8 (by decide))
                  obtain ⟨x135, hx135⟩ : ∃ x, A.eval (.tmp 135) = x := ⟨_, rfl⟩
                  have f135 : (fun v _ => v = undef) x135 u8 := by rw [← hx135]; exact hh.got 9 _ 135 rfl rfl (hall 9 (by decide))
                  obtain ⟨x136, hx136⟩ : ∃ x, A.eval (.tmp 136) = x := ⟨_, rfl⟩
                  have f136 : (fun v _ => v = undef) x136 u8 := by rw [← hx136]; exact hh.got 10 _ 136 rfl rfl (hall 10 (by decide))
                  obtain ⟨x137, hx137⟩ : ∃ x, A.eval (.tmp 137) = x := ⟨_, rfl⟩
                  have f137 : (fun v _ => v = undef) x137 u8 := by rw [← hx137]; exact hh.got 11 _ 137 rfl rfl (hall 11 (by decide))
                  obtain ⟨x138, hx138⟩ : ∃ x, A.eval (.tmp 138) = x := ⟨_, rfl⟩
                  have f138 : (fun v _ => v = (Value.bool false)) x138 u8 := by rw [← hx138]; exact hh.got 12 _ 138 rfl rfl (hall 12 (by decide))
                  obtain ⟨x139, hx139⟩ : ∃ x, A.eval (.tmp 139) = x := ⟨_, rfl⟩
                  have f139 : (fun v _ => v = (Value.bool false)) x139 u8 := by rw [← hx139]; exact hh.got 13 _ 139 rfl rfl (hall 13 (by decide))
                  obtain ⟨x140, hx140⟩ : ∃ x, A.eval (.tmp 140) = x := ⟨_, rfl⟩
                  have f140 : (fun v _ => v = undef) x140 u8 := by rw [← hx140]; exact hh.got 14 _ 140 rfl rfl (hall 14 (by decide))
                  obtain ⟨x141, hx141⟩ : ∃ x, A.eval (.tmp 141) = x := ⟨_, rfl⟩
                  have f141 : (fun v _ => v = undef) x141 u8 := by rw [← hx141]; exact hh.got 15 _ 141 rfl rfl (hall 15 (by decide))
                  obtain ⟨x142, hx142⟩ : ∃ x, A.eval (.tmp 142) = x := ⟨_, rfl⟩
                  have f142 : (fun v _ => v = undef) x142 u8 := by rw [← hx142]; exact hh.got 16 _ 142 rfl rfl (hall 16 (by decide))
                  obtain ⟨x143, hx143⟩ : ∃ x, A.eval (.tmp 143) = x := ⟨_, rfl⟩
                  have f143 : (fun v _ => v = undef) x143 u8 := by rw [← hx143]; exact hh.got 17 _ 143 rfl rfl (hall 17 (by decide))
                  obtain ⟨x144, hx144⟩ : ∃ x, A.eval (.tmp 144) = x := ⟨_, rfl⟩
                  have f144 : (fun v _ => v = undef) x144 u8 := by rw [← hx144]; exact hh.got 18 _ 144 rfl rfl (hall 18 (by decide))
                  obtain ⟨x145, hx145⟩ : ∃ x, A.eval (.tmp 145) = x := ⟨_, rfl⟩
                  have f145 : (fun v _ => v = undef) x145 u8 := by rw [← hx145]; exact hh.got 19 _ 145 rfl rfl (hall 19 (by decide))
                  obtain ⟨x146, hx146⟩ : ∃ x, A.eval (.tmp 146) = x := ⟨_, rfl⟩
                  have f146 : (fun v _ => v = (Value.bool false)) x146 u8 := by rw [← hx146]; exact hh.got 20 _ 146 rfl rfl (hall 20 (by decide))
                  dsimp only [wrote, List.foldl] at hA
                  rw [hx126, hx127, hx128, hx129, hx130, hx131, hx132, hx133, hx134, hx135, hx136, hx137, hx138, hx139, hx140, hx141, hx142, hx143, hx144, hx145, hx146] at hA
                  clear hh hall hx126 hx127 hx128 hx129 hx130 hx131 hx132 hx133 hx134 hx135 hx136 hx137 hx138 hx139 hx140 hx141 hx142 hx143 hx144 hx145 hx146
                  replace f126 := (f126 : x126 = (.int .i64 E))
                  subst f126
                  have e127 := (f127 : _ = Value.int .i64 E)
                  subst e127
                  replace f128 := (f128 : x128 = (.bool false))
                  subst f128
                  replace f129 := (f129 : x129 = (.bool false))
                  subst f129
                  replace f130 := (f130 : x130 = undef)
                  subst f130
                  replace f131 := (f131 : x131 = undef)
                  subst f131
                  replace f132 := (f132 : x132 = undef)
                  subst f132
                  replace f133 := (f133 : x133 = undef)
                  subst f133
                  replace f134 := (f134 : x134 = undef)
                  subst f134
                  replace f135 := (f135 : x135 = undef)
                  subst f135
                  replace f136 := (f136 : x136 = undef)
                  subst f136
                  replace f137 := (f137 : x137 = undef)
                  subst f137
                  replace f138 := (f138 : x138 = (.bool false))
                  subst f138
                  replace f139 := (f139 : x139 = (.bool false))
                  subst f139
                  replace f140 := (f140 : x140 = undef)
                  subst f140
                  replace f141 := (f141 : x141 = undef)
                  subst f141
                  replace f142 := (f142 : x142 = undef)
                  subst f142
                  replace f143 := (f143 : x143 = undef)
                  subst f143
                  replace f144 := (f144 : x144 = undef)
                  subst f144
                  replace f145 := (f145 : x145 = undef)
                  subst f145
                  replace f146 := (f146 : x146 = (.bool false))
                  subst f146
                  subst hA
                  show wpList _ _ _ [] _ _
                  unfold wpList
                  simp only [Act.put, List.setIfInBounds_toArray, List.set_cons_succ, List.set_cons_zero]
                  go_wp2_with (first
                    | (go_at_call 23; (with_reducible refine (HTl.out _ (gtrans HX.out (gtrans HU.out HG22.out))).mono ?_); rintro e u10 ⟨rfl, hg⟩; have HG23 := hid (gtrans HG22.out hg); clear hg)
                    | (go_at_call 22; (with_reducible refine (HSM.out _ (gtrans HX.out HU.out)).mono ?_); rintro e u9 ⟨rfl, hg⟩; have HG22 := hid hg; clear hg))
                  go_roundw
                  case rel => exact ⟨i + 1, y, A', by go_num, rfl, by omega, by omega, by omega, HRel.out _ (gtrans HG5.out (gtrans HX.out (gtrans HU.out HG23.out)))⟩
                  case measure => simp [intOf]; omega
      · have h4' : ¬ (i : Int) < 400 := by omega
        as_aux_lemma =>
        have HDz := hid (HS.out.1).1
        have HOk := hid HDz.out.1
        have HNd := hid HDz.out.nd
        have HRm : Hid (A.room = 1 + (rr : Int)) := hid (HS.out).2.2.2
        have HFz := hid (files_p HDz.out)
        have HLb0 : Hid (∀ (u : World) (Fr : Nat → Prop) (a : Option Addr) (fb fo fc : Nat), ArF u Fr a fb fo (srtC A.C) → Calls Try.prog 24 #[.slice a (srtC A.C).length fc, .int .i64 (1 + (rr : Int))] u fun e w' => ∃ bz, e = .returned (.tuple #[.pointer (some ⟨bz, 0, none⟩), .int .i64 0]) ∧ DkP w' u.heap.size bz ⟨1 + (rr : Int), false, 0, 0, 0, srtC A.C⟩ (fun k => u.heap.size ≤ k ∧ k < w'.heap.size) ∧ u.grownBy w' none) := hid (fun u Fr a fb fo fc h => by have q := load_back A HOk.out HNd.out u Fr a fb fo fc h; rw [HRm.out] at q; exact q)
        have HSS : Hid (srtC (srtC A.C) = srtC A.C) := hid (srt_ext (srt_names A.C) (fun s => get_srt HNd.out s))
        obtain ⟨Lz, HLz⟩ : ∃ x, Hid (srtC A.C = x) := ⟨_, hid rfl⟩
        have HLb1 : Hid (Lz.length ≤ 1000000 ∧ ∀ p ∈ Lz, p.2.length ≤ 140737488355328) := hid (by
          rw [← HLz.out]
          refine ⟨by rw [srtC_len]; have := HOk.out.len; omega, srt_le HNd.out ?_⟩
          have h1 := HOk.out.used
          have h2 := HOk.out.room.2
          omega)
        have HFw : Hid (∀ u, w0.grownBy u none → Calls Try.prog 13 #[.pointer (some ⟨b, 0, none⟩)] u fun e w' => (∃ a g c, e = .returned (.slice a Lz.length c) ∧ ArF w' (fun k => w0.heap.size ≤ k) a g 0 Lz) ∧ u.grownBy w' none) := hid (fun u hu => (files_p (HDz.out.keep hu)).mono fun e w' ⟨⟨ta, tg, tc, q1, q2⟩, q3⟩ => by
          rw [HLz.out] at q1 q2
          exact ⟨⟨ta, tg, tc, q1, q2.mono (fun k hk => Nat.le_trans hu.size hk.1)⟩, q3⟩)
        rw [HLz.out] at HFz HLb0 HSS
        obtain ⟨zn, HZn⟩ : ∃ x, Hid (Lz.length = x) := ⟨_, hid rfl⟩
        rw [HZn.out] at HFz HLb0 HFw
        go_upto_region 28 with (first
          | (go_at_call 24; (with_reducible refine (HLb0.out _ _ _ _ _ _ HZa.out).mono ?_); rintro e u14 ⟨bz, rfl, hd, hg⟩; have HBz := hid hd; have HU14 := hid hg; clear hd hg)
          | (go_at_call 13; refine HFz.out.mono ?_; rintro e u13 ⟨⟨za, zg, zc, rfl, hzA⟩, hg⟩; have HZa := hid hzA; have HU13 := hid hg; clear hzA hg))
        have HFy : Hid (∀ u, u14.grownBy u none → Calls Try.prog 13 #[.pointer (some ⟨bz, 0, none⟩)] u fun e w' => (∃ a g c, e = .returned (.slice a zn c) ∧ ArF w' (fun k => w0.heap.size ≤ k) a g 0 Lz) ∧ u.grownBy w' none) := hid (fun u hu => (files_p (HBz.out.keep hu)).mono fun e w' ⟨⟨ta, tg, tc, q1, q2⟩, q3⟩ => by
          simp only [HSS.out, HZn.out] at q1 q2
          exact ⟨⟨ta, tg, tc, q1, q2.mono (fun k hk => Nat.le_trans (gtrans (gtrans HU13.out HU14.out) hu).size hk.1)⟩, q3⟩)
        have HWy : Hid (∀ u, u14.grownBy u none → Calls Try.prog 14 #[.pointer (some ⟨bz, 0, none⟩)] u fun e w' => e = .returned (.int .i64 0) ∧ u.grownBy w' none) := hid (fun u hu => writes_p (HBz.out.keep hu))
        have HOy : Hid (∀ u, u14.grownBy u none → Calls Try.prog 16 #[.pointer (some ⟨bz, 0, none⟩)] u fun e w' => e = .returned (.bool false) ∧ u.grownBy w' none) := hid (fun u hu => off_p (HBz.out.keep hu))
        have HQy : Hid (∀ u a g c a' g' c', ArF u (fun k => w0.heap.size ≤ k) a g 0 Lz → ArF u (fun k => w0.heap.size ≤ k) a' g' 0 Lz → Calls Try.prog 17 #[.slice a zn c, .slice a' zn c'] u fun e w' => e = .returned (.bool true) ∧ u.grownBy w' none) := hid (fun u a g c a' g' c' h1 h2 => by
          have q := eqFiles_same u _ _ a a' g 0 c g' 0 c' Lz h1 h2 HLb1.out.1 HLb1.out.2
          rw [HZn.out] at q
          exact q)
        have HGz : Hid (w.grownBy u14 none) := hid (gtrans (gtrans HG1.out HG0.out) (gtrans HU13.out HU14.out))
        have HG13 : Hid (w0.grownBy u14 none) := hid (gtrans HU13.out HU14.out)
        clear HLb0 HFz HZa HBz HU13 HU14 HDz HOk HNd HLz HRm
        go_wp2_with (first
          | (go_at_call 16; (with_reducible refine (HOy.out _ HG18.out).mono ?_); rintro e u19 ⟨rfl, hg⟩; have HG19 := hid (gtrans HG18.out hg); clear hg)
          | (go_at_call 14; (with_reducible refine (HWy.out _ HG17.out).mono ?_); rintro e u18 ⟨rfl, hg⟩; have HG18 := hid (gtrans HG17.out hg); clear hg)
          | (go_at_call 17; (with_reducible refine (HQy.out _ _ _ _ _ _ _ HY1'.out HY2.out).mono ?_); rintro e u17 ⟨rfl, hg⟩; have HG17 := hid (gtrans HG16.out hg); clear hg)
          | (go_at_call 13; (with_reducible refine (HFw.out _ (gtrans HG13.out HG15.out)).mono ?_); rintro e u16 ⟨⟨y2, y2g, y2c, rfl, hy⟩, hg⟩; have HY2 := hid hy; have HY1' := hid (HY1.out.keep hg); have HG16 := hid (gtrans HG15.out hg); clear hy hg)
          | (go_at_call 13; (with_reducible refine (HFy.out _ (grefl _ _)).mono ?_); rintro e u15 ⟨⟨y1, y1g, y1c, rfl, hy⟩, hg⟩; have HY1 := hid hy; have HG15 := hid hg; clear hy hg)
          | (go_at_call 9; (with_reducible refine (HNu.out _ _).mono ?_); rintro e w3' ⟨rfl, hw3⟩; have hw3' := hw3.symm; clear hw3; subst hw3'))
        go_ret
        exact ⟨rfl, gtrans HGz.out HG19.out⟩
    · have hlt' : ¬ (i : Int) < (n : Int) := by omega
      as_aux_lemma =>
      have HDz := hid (HS.out.1).1
      have HOk := hid HDz.out.1
      have HNd := hid HDz.out.nd
      have HRm : Hid (A.room = 1 + (rr : Int)) := hid (HS.out).2.2.2
      have HFz := hid (files_p HDz.out)
      have HLb0 : Hid (∀ (u : World) (Fr : Nat → Prop) (a : Option Addr) (fb fo fc : Nat), ArF u Fr a fb fo (srtC A.C) → Calls Try.prog 24 #[.slice a (srtC A.C).length fc, .int .i64 (1 + (rr : Int))] u fun e w' => ∃ bz, e = .returned (.tuple #[.pointer (some ⟨bz, 0, none⟩), .int .i64 0]) ∧ DkP w' u.heap.size bz ⟨1 + (rr : Int), false, 0, 0, 0, srtC A.C⟩ (fun k => u.heap.size ≤ k ∧ k < w'.heap.size) ∧ u.grownBy w' none) := hid (fun u Fr a fb fo fc h => by have q := load_back A HOk.out HNd.out u Fr a fb fo fc h; rw [HRm.out] at q; exact q)
      have HSS : Hid (srtC (srtC A.C) = srtC A.C) := hid (srt_ext (srt_names A.C) (fun s => get_srt HNd.out s))
      obtain ⟨Lz, HLz⟩ : ∃ x, Hid (srtC A.C = x) := ⟨_, hid rfl⟩
      have HLb1 : Hid (Lz.length ≤ 1000000 ∧ ∀ p ∈ Lz, p.2.length ≤ 140737488355328) := hid (by
        rw [← HLz.out]
        refine ⟨by rw [srtC_len]; have := HOk.out.len; omega, srt_le HNd.out ?_⟩
        have h1 := HOk.out.used
        have h2 := HOk.out.room.2
        omega)
      have HFw : Hid (∀ u, w0.grownBy u none → Calls Try.prog 13 #[.pointer (some ⟨b, 0, none⟩)] u fun e w' => (∃ a g c, e = .returned (.slice a Lz.length c) ∧ ArF w' (fun k => w0.heap.size ≤ k) a g 0 Lz) ∧ u.grownBy w' none) := hid (fun u hu => (files_p (HDz.out.keep hu)).mono fun e w' ⟨⟨ta, tg, tc, q1, q2⟩, q3⟩ => by
        rw [HLz.out] at q1 q2
        exact ⟨⟨ta, tg, tc, q1, q2.mono (fun k hk => Nat.le_trans hu.size hk.1)⟩, q3⟩)
      rw [HLz.out] at HFz HLb0 HSS
      obtain ⟨zn, HZn⟩ : ∃ x, Hid (Lz.length = x) := ⟨_, hid rfl⟩
      rw [HZn.out] at HFz HLb0 HFw
      go_upto_region 28 with (first
        | (go_at_call 24; (with_reducible refine (HLb0.out _ _ _ _ _ _ HZa.out).mono ?_); rintro e u14 ⟨bz, rfl, hd, hg⟩; have HBz := hid hd; have HU14 := hid hg; clear hd hg)
        | (go_at_call 13; refine HFz.out.mono ?_; rintro e u13 ⟨⟨za, zg, zc, rfl, hzA⟩, hg⟩; have HZa := hid hzA; have HU13 := hid hg; clear hzA hg))
      have HFy : Hid (∀ u, u14.grownBy u none → Calls Try.prog 13 #[.pointer (some ⟨bz, 0, none⟩)] u fun e w' => (∃ a g c, e = .returned (.slice a zn c) ∧ ArF w' (fun k => w0.heap.size ≤ k) a g 0 Lz) ∧ u.grownBy w' none) := hid (fun u hu => (files_p (HBz.out.keep hu)).mono fun e w' ⟨⟨ta, tg, tc, q1, q2⟩, q3⟩ => by
        simp only [HSS.out, HZn.out] at q1 q2
        exact ⟨⟨ta, tg, tc, q1, q2.mono (fun k hk => Nat.le_trans (gtrans (gtrans HU13.out HU14.out) hu).size hk.1)⟩, q3⟩)
      have HWy : Hid (∀ u, u14.grownBy u none → Calls Try.prog 14 #[.pointer (some ⟨bz, 0, none⟩)] u fun e w' => e = .returned (.int .i64 0) ∧ u.grownBy w' none) := hid (fun u hu => writes_p (HBz.out.keep hu))
      have HOy : Hid (∀ u, u14.grownBy u none → Calls Try.prog 16 #[.pointer (some ⟨bz, 0, none⟩)] u fun e w' => e = .returned (.bool false) ∧ u.grownBy w' none) := hid (fun u hu => off_p (HBz.out.keep hu))
      have HQy : Hid (∀ u a g c a' g' c', ArF u (fun k => w0.heap.size ≤ k) a g 0 Lz → ArF u (fun k => w0.heap.size ≤ k) a' g' 0 Lz → Calls Try.prog 17 #[.slice a zn c, .slice a' zn c'] u fun e w' => e = .returned (.bool true) ∧ u.grownBy w' none) := hid (fun u a g c a' g' c' h1 h2 => by
        have q := eqFiles_same u _ _ a a' g 0 c g' 0 c' Lz h1 h2 HLb1.out.1 HLb1.out.2
        rw [HZn.out] at q
        exact q)
      have HGz : Hid (w.grownBy u14 none) := hid (gtrans (gtrans HG1.out HG0.out) (gtrans HU13.out HU14.out))
      have HG13 : Hid (w0.grownBy u14 none) := hid (gtrans HU13.out HU14.out)
      clear HLb0 HFz HZa HBz HU13 HU14 HDz HOk HNd HLz HRm
      go_wp2_with (first
        | (go_at_call 16; (with_reducible refine (HOy.out _ HG18.out).mono ?_); rintro e u19 ⟨rfl, hg⟩; have HG19 := hid (gtrans HG18.out hg); clear hg)
        | (go_at_call 14; (with_reducible refine (HWy.out _ HG17.out).mono ?_); rintro e u18 ⟨rfl, hg⟩; have HG18 := hid (gtrans HG17.out hg); clear hg)
        | (go_at_call 17; (with_reducible refine (HQy.out _ _ _ _ _ _ _ HY1'.out HY2.out).mono ?_); rintro e u17 ⟨rfl, hg⟩; have HG17 := hid (gtrans HG16.out hg); clear hg)
        | (go_at_call 13; (with_reducible refine (HFw.out _ (gtrans HG13.out HG15.out)).mono ?_); rintro e u16 ⟨⟨y2, y2g, y2c, rfl, hy⟩, hg⟩; have HY2 := hid hy; have HY1' := hid (HY1.out.keep hg); have HG16 := hid (gtrans HG15.out hg); clear hy hg)
        | (go_at_call 13; (with_reducible refine (HFy.out _ (grefl _ _)).mono ?_); rintro e u15 ⟨⟨y1, y1g, y1c, rfl, hy⟩, hg⟩; have HY1 := hid hy; have HG15 := hid hg; clear hy hg)
        | (go_at_call 9; (with_reducible refine (HNu.out _ _).mono ?_); rintro e w3' ⟨rfl, hw3⟩; have hw3' := hw3.symm; clear hw3; subst hw3'))
      go_ret
      exact ⟨rfl, gtrans HGz.out HG19.out⟩
end Go.Proofs.Ytlgjmdianmijeaa
