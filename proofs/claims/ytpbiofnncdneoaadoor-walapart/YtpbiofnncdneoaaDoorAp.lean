/- WalApart's walk. -/
import Derived.Test.YtpbiofnncdneoaaDoorWn
namespace Go.Proofs.YtpbiofnncdneoaaDoor
open Go Go.RowKit Go.MapKept Go.MuLone
open Go.RowKit (wrap32 wrap64)

set_option maxRecDepth 100000 in
set_option maxHeartbeats 16000000 in
theorem apart_walk (w : World) (F : Nat → Prop) (a1 a2 a3 : Option Addr) (g1 o1 n1 c1 g2 o2 n2 c2 g3 o3 n3 c3 : Nat) (la lc : List (List UInt8)) (T : Nat → Bool) (hA : RowS w F a1 g1 o1 la) (hB : RowS w F a2 g2 o2 lc) (hF : ∀ k, F k → k < w.heap.size) (hn1 : la.length = n1) (hn2 : lc.length = n2)
    (hr1 : ∀ r ∈ la, r.length ≤ 140737488355328) (hr2 : ∀ r ∈ lc, r.length ≤ 140737488355328) (hT3 : (0 < n3 → a3 = some ⟨g3, o3, none⟩ ∧ g3 < w.heap.size) ∧ ∀ i, i < n3 → w.cell? ⟨g3, o3 + i, none⟩ = some (.bool (T i))) (hT : Tab w) :
    Calls Tryd.prog 7 #[.agg [.slice a1 n1 c1, .slice a2 n2 c2, Value.slice a3 n3 c3].toArray] w fun e w' => e = .returned (.bool true) ∧ w.grownBy w' none := by
  have HA := hid hA
  have HB := hid hB
  have HF := hid hF
  have HN1 := hid hn1
  have HN2 := hid hn2
  have HR1 := hid hr1
  have HR2 := hid hr2
  have HT3 := hid hT3
  have HTw := hid hT
  clear hA hB hF hn1 hn2 hr1 hr2 hT3 hT
  go_enter Tryd.func7, Tryd.ntmps7
  go_upto_region 1 with ((with_reducible refine wpList_box_row (by with_unfolding_all rfl) 59 _ (by with_unfolding_all rfl) [.slice a1 n1 c1, .slice a2 n2 c2, Value.slice a3 n3 c3] (by with_unfolding_all rfl) ?_); intro w1 B1 s1 g1'; have HB1 := hid B1; have HG1 := hid g1'; clear B1 s1 g1')
  obtain ⟨p1, hp1⟩ : ∃ x, w.heap.size = x := ⟨_, rfl⟩
  rw [hp1] at HB1 ⊢
  have HT1 : Hid (Tab w1) := hid (HTw.out.keep HG1.out)
  have HNw : Hid (Calls Tryd.prog 8 #[.int .i64 4194304] w1 fun e w' => ∃ b P, e = .returned (.tuple #[.pointer (some ⟨b, 0, none⟩), .int .i64 0]) ∧ Sd w1 w' b (Ab.new (4194304 : Nat)) P) := hid (sd_new w1 4194304 (by omega) (by omega))
  have HWk : Hid (∀ u, w1.grownBy u none → Calls Tryd.prog 10 #[] u fun e w' => e = .returned (.bool true) ∧ u.grownBy w' none) := hid (fun u hu => works_any u (HT1.out.keep hu))
  have HOp : Hid (∀ s, goodN s = true → s.size ≤ 64 → ∀ u b P, Sd w1 u b (Ab.new (4194304 : Nat)) P → Calls Tryd.prog 11 #[.pointer (some ⟨b, 0, none⟩), .string s] u fun e u' => ∃ lb a c, e = .returned (.tuple #[.pointer (some ⟨lb, 0, none⟩), .slice a 0 c, .int .i64 0]) ∧ Sd w1 u' b (Ab.new (4194304 : Nat)) P ∧ LgP w1 u' lb b s 0 false P ∧ u.grownBy u' none) := hid (fun s hg hs u b P h => by
    refine (sd_whole (rs := []) h HT1.out hs (fil_on rfl hg rfl (fun r hr => by cases hr) (by decide) tl_nil)).mono fun e u' ⟨lb, v, q1, q2, q3, q4, q5⟩ => ?_
    obtain ⟨a, c, rfl⟩ := q2.len
    exact ⟨lb, a, c, q1, q3, q4, q5⟩)
  have HOa := hid (HOp.out ⟨#[97]⟩ good_a (by decide))
  have HOb := hid (HOp.out ⟨#[98]⟩ good_b (by decide))
  have HCell : Hid (∀ u, w1.grownBy u none → Blk u p1 [.slice a1 n1 c1, .slice a2 n2 c2, Value.slice a3 n3 c3] 59) := hid (fun u hu => HB1.out.keep hu)
  clear hp1 HB1 HOp
  go_upto_region 5 with (first
    | (go_at_call 11; (with_reducible refine (HOa.out _ _ _ HD1'.out).mono ?_); rintro e w3 ⟨l1, x1, x2, rfl, hd, hl, hg⟩; have HD3 := hid hd; have HL3 := hid hl; clear hd hl hg)
    | (go_at_call 10; (with_reducible refine (HWk.out _ HD1.out.gr).mono ?_); rintro e w2' ⟨rfl, hg⟩; have HD1' := hid (HD1.out.keep hg); clear hg)
    | (go_at_call 9; (with_reducible refine (num_any _ _).mono ?_); rintro e wn ⟨rfl, hwn⟩; have hwn' := hwn.symm; clear hwn; subst hwn')
    | (go_at_call 8; (with_reducible refine HNw.out.mono ?_); rintro e w2 ⟨b, P1, rfl, hd⟩; have HD1 := hid hd; clear hd))
  go_upto_region 8 with (first
    | (go_at_call 11; (with_reducible refine (HOb.out _ _ _ HD3.out).mono ?_); rintro e w4 ⟨l2, y1, y2, rfl, hd, hl, hg⟩; have HD4 := hid hd; have HL4 := hid hl; have HL3' := hid (HL3.out.keep hg); clear hd hl hg)
    | (go_at_call 9; (with_reducible refine (num_any _ _).mono ?_); rintro e wn ⟨rfl, hwn⟩; have hwn' := hwn.symm; clear hwn; subst hwn'))
  have HAS : Hid (AS w1 w4 b l1 l2 (.slice none 0 0) (.slice none 0 0) [] [] [] [] (Ab.new (4194304 : Nat)) P1 0) := hid ⟨⟨HD4.out, ⟨Live.new 4194304 ne_ab, .inl rfl, good_a, rfl, .inl rfl, (fun r hr => by cases hr), by decide⟩, ⟨Live.new 4194304 ne_ab, .inr rfl, good_b, rfl, .inl rfl, (fun r hr => by cases hr), by decide⟩, HL4.out, OutW.nil _ _, OutW.nil _ _, (fun k hk => by cases hk), (fun k hk => by cases hk), (fun k hk => by cases hk)⟩, rfl, rfl, HL3'.out, lg_apart HL3'.out.lg HL4.out.lg⟩
  clear HNw HWk HOa HOb HD1 HD1' HD3 HL3 HD4 HL4 HL3'
  go_upto_block 0 with fail
  go_cut [5, 11, 12, 13, 14, 15, 16, 17, 18, 19] from 69 to 195 (fun s5 s11 s12 s13 s14 s15 s16 s17 s18 s19 wc => Hid (∃ l1 p q A P U, AS w1 wc b l1 l2 s11 s12 p q p q A P U ∧ p.length ≤ 101 ∧ q.length ≤ 101 ∧ U ≤ 600000))
  case first =>
    as_aux_lemma =>
    go_wp2_with fail
    go_loopw [14, 13, 11, 12, 5, 15, 16, 17, 18, 19] (fun iv sv xv yv lv _ _ _ _ _ wr => ∃ (i z l1 : Nat), iv = .int .i64 i ∧ sv = .int .i64 z ∧ lv = .pointer (some ⟨l1, 0, none⟩) ∧ i ≤ n3 ∧ i ≤ 100 ∧ z ≤ 524288 ∧ Hid (∃ p q A P U, AS w1 wr b l1 l2 xv yv p q p q A P U ∧ p.length ≤ i ∧ q.length ≤ i ∧ U ≤ z + 30 * i ∧ A.wr ≤ 3 * (i : Int))) (fun iv _ _ _ _ _ _ _ _ _ _ => n3 - (intOf iv).toNat)
    case atStart => exact ⟨0, 0, l1, rfl, rfl, rfl, by omega, by omega, by omega, hid ⟨[], [], _, _, _, HAS.out, Nat.le_refl _, Nat.le_refl _, Nat.zero_le _, (by show (0 : Int) ≤ _; omega)⟩⟩
    case round =>
      obtain ⟨xv, hxv⟩ : ∃ x : Value, x = u11 := ⟨_, rfl⟩
      obtain ⟨yv, hyv⟩ : ∃ x : Value, x = u12 := ⟨_, rfl⟩
      rw [← hxv, ← hyv] at hrel ⊢
      clear hxv hyv
      obtain ⟨i, z, m1, rfl, rfl, rfl, hi, hi2, hz, HR⟩ := hrel
      obtain ⟨w0, hw0⟩ : ∃ x : World, x = wr := ⟨_, rfl⟩
      rw [← hw0] at HR ⊢
      clear hw0 HAS
      obtain ⟨p, q, A, P, U, hs, hpl, hql, hU, hwr⟩ := HR.out
      obtain ⟨xa, xc, rfl⟩ := hs.aw.ox.len
      obtain ⟨ya, yc, rfl⟩ := hs.aw.oy.len
      obtain ⟨pn, hpn⟩ : ∃ x, p.length = x := ⟨_, rfl⟩
      obtain ⟨qn, hqn⟩ : ∃ x, q.length = x := ⟨_, rfl⟩
      rw [hpn] at hs hpl ⊢
      rw [hqn] at hs hql ⊢
      have HPn := hid hpn
      have HQn := hid hqn
      have HS := hid hs
      have HB0 := hid (And.intro hU hwr)
      have HPl := hid (And.intro hpl hql)
      clear hpn hqn hs hU hwr HR
      have HMeet : Hid (Hid (∃ l1 p q A P U, AS w1 w0 b l1 l2 (.slice xa pn xc) (.slice ya qn yc) p q p q A P U ∧ p.length ≤ 101 ∧ q.length ≤ 101 ∧ U ≤ 600000)) := hid (hid ⟨m1, p, q, A, P, U, HS.out, by rw [HPn.out]; omega, by rw [HQn.out]; omega, by have := HB0.out.1; omega⟩)
      by_cases hlt : i < n3
      · have hlt' : (i : Int) < (n3 : Int) := by omega
        by_cases h2 : i < 100
        · as_aux_lemma =>
          have h2' : (i : Int) < 100 := by omega
          obtain ⟨rfl, hg3⟩ := HT3.out.1 (by omega)
          obtain ⟨tv, htv⟩ : ∃ x, T i = x := ⟨_, rfl⟩
          have HC : Hid (∀ u, w1.grownBy u none → u.cell? ⟨p1, 0, none⟩ = some (.slice a1 n1 c1) ∧ u.cell? ⟨p1, 1, none⟩ = some (.slice a2 n2 c2) ∧ u.cell? ⟨p1, 2, none⟩ = some (Value.slice (some ⟨g3, o3, none⟩) n3 c3) ∧ u.cell? ⟨g3, o3 + i, none⟩ = some (.bool tv)) := hid (fun u hu => ⟨(HCell.out u hu).cell 0, (HCell.out u hu).cell 1, (HCell.out u hu).cell 2, by rw [← htv]; exact (cell_at (gtrans HG1.out hu) hg3 (by simp)).trans (HT3.out.2 i hlt)⟩)
          clear htv hg3
          obtain ⟨kA, kB, kT, ki⟩ := HC.out w0 HS.out.aw.sd.gr
          cases tv
          · by_cases hpn1 : qn < n2
            · as_aux_lemma =>
              have hpn1' : (qn : Int) < (n2 : Int) := by omega
              obtain ⟨rfl, hga, -⟩ := HB.out.at_ (by rw [HN2.out]; omega)
              have hib : qn < lc.length := by rw [HN2.out]; exact hpn1
              obtain ⟨l, HL⟩ : ∃ l, Hid (∀ h : qn < lc.length, lc[qn]'h = l) := ⟨lc[qn], hid (fun _ => rfl)⟩
              have HLm : Hid (l.length ≤ 140737488355328) := hid (by rw [← HL.out hib]; exact HR2.out _ (List.getElem_mem _))
              obtain ⟨x0, hx1, hx2⟩ := HB.out.each qn hib
              rw [HL.out hib] at hx2
              have HX2 := hid hx2
              obtain ⟨ra, rb, ro, rc, rfl, -⟩ := hx2
              obtain ⟨rn, hrn⟩ : ∃ x, l.length = x := ⟨_, rfl⟩
              rw [hrn] at hx1 HX2 HLm
              have HRn := hid hrn
              have HCr : Hid (∀ u, w1.grownBy u none → u.cell? ⟨g2, o2 + qn, none⟩ = some (.slice ra rn rc)) := hid (fun u hu => (cell_at (gtrans HG1.out hu) hga (by simp)).trans hx1)
              have kr := HCr.out w0 HS.out.aw.sd.gr
              have hrl := HLm.out
              clear hx1 hrn hga hib
              go_upto_region 23 with fail
              obtain ⟨y, hy⟩ : ∃ y : Nat, z + rn = y := ⟨_, rfl⟩
              have hwr : (z : Int) + (rn : Int) = (y : Int) := by omega
              rw [hwr]
              have HY := hid hy
              clear hwr hy hrl
              by_cases hbr : 524288 < y
              · as_aux_lemma =>
                have hbr' : (524288 : Int) < (y : Int) := by omega
                go_wp2_with fail
                go_meet
                case rel => exact HMeet.out
              have hbr' : ¬ (524288 : Int) < (y : Int) := by omega
              have HCp : Hid (Calls Tryd.prog 16 #[.slice ra rn rc] w0 fun e w' => ∃ v', e = .returned v' ∧ Out w0.heap.size w' v' l ∧ w0.grownBy w' none) := hid (copyR_any w0 _ _ l (HX2.out.keep (gtrans HG1.out HS.out.aw.sd.gr)) (by have := HRn.out; have := HY.out; omega))
              have HAp : Hid (∀ u x B', w0.grownBy u none → Out B' u x l → Calls Tryd.prog 15 #[.pointer (some ⟨l2, 0, none⟩), x] u fun e u' => ∃ A' P', e = .returned (.int .i64 0) ∧ AS w1 u' b m1 l2 (.slice xa pn xc) (.slice ya qn yc) p (q ++ [l]) p q A' P' (U + (l.length + 13)) ∧ A'.wr ≤ A.wr + 1) := hid (fun u x B' hu ho => as_app2 (HS.out.keep hu) HT1.out (by have := HB0.out.2; omega) (by have := HB0.out.1; omega) (by rw [HQn.out]; have := HPl.out; omega) _ x l ho.rd (by have := HRn.out; have := HY.out; omega))
              go_upto_region 26 with (first
                | (go_at_call 15; (with_reducible refine (HAp.out _ _ _ HG6.out HO6.out).mono ?_); rintro e w7 ⟨A7, P7, rfl, hs, hw⟩; have HS7 := hid hs; have HW7 := hid hw; clear hs hw)
                | (go_at_call 16; (with_reducible refine HCp.out.mono ?_); rintro e w6 ⟨v6, rfl, ho, hg⟩; have HO6 := hid ho; have HG6 := hid hg; clear ho hg)
                | (go_at_call 9; (with_reducible refine (num_any _ _).mono ?_); rintro e wn ⟨rfl, hwn⟩; have hwn' := hwn.symm; clear hwn; subst hwn'))
              have HBk := hid (Blk.new w7 [Value.slice ra rn rc] 36)
              have HOw : Hid (OutW w1.heap.size (w7.alloc (.cells #[Value.slice ra rn rc] 36)) (.slice ya qn yc) q) := hid (HS7.out.aw.oy.keep (galloc _ _ _))
              have HRw : Hid (Rd (w7.alloc (.cells #[Value.slice ra rn rc] 36)) (fun k => k < w1.heap.size) (.slice ra rn rc) l) := hid ((HX2.out.keep (gtrans HG1.out (gtrans HS7.out.aw.sd.gr (galloc _ _ _)))).wide (fun k hk => Nat.lt_of_lt_of_le (HF.out k hk) HG1.out.size))
              have HCs : Hid (w1.heap.size ≤ (w7.alloc (.cells #[Value.slice ra rn rc] 36)).heap.size) := hid (gtrans HS7.out.aw.sd.gr (galloc _ _ none)).size
              have HWm : Hid (q.length ≤ 1000000) := hid (by rw [HQn.out]; have := HPl.out; omega)
              go_upto_region 27 with (at_builtin; refine wpList_append_want rfl _ _ rfl w1.heap.size _ q _ l HOw.out rfl HBk.out HRw.out HWm.out HCs.out ?_; intro v9 w9 hO9 hg9 hb9; have HS9 := hid (as_row2 HS7.out hO9 hg9 hb9); obtain ⟨kA9, kB9, kT9, ki9⟩ := HC.out _ HS9.out.aw.sd.gr; clear hO9 hg9 hb9)
              have HZ : Hid (∃ p' q' A' P' U', AS w1 w9 b m1 l2 (.slice xa pn xc) v9 p' q' p' q' A' P' U' ∧ p'.length ≤ i + 1 ∧ q'.length ≤ i + 1 ∧ U' ≤ y + 30 * i + 13 ∧ A'.wr ≤ 3 * (i : Int) + 1) := hid ⟨p, q ++ [l], A7, P7, _, HS9.out, by rw [HPn.out]; omega, by rw [List.length_append, HQn.out]; simp; omega, by have := HB0.out.1; have := HRn.out; have := HY.out; omega, by have := HB0.out.2; have := HW7.out; omega⟩
              clear HS9 HBk HOw HRw HCs HWm HAp HCp HMeet
              obtain ⟨p', q', A', P', U', hs', hp', hq', hU', hw'⟩ := HZ.out
              have HS' := hid hs'
              have HP' := hid hp'
              have HQ' := hid hq'
              have HU' := hid hU'
              have HW' := hid hw'
              clear hs' hp' hq' hU' hw' HZ
              have hte : (i : Int).tmod 7 = (i : Int) % 7 := Int.tmod_eq_emod_of_nonneg (by omega)
              by_cases hr7 : (i : Int).tmod 7 = 3
              · as_aux_lemma =>
                clear hte
                obtain ⟨r5, hr5, HR5⟩ : ∃ r : Int, (i : Int).tmod 5 = r ∧ Hid (0 ≤ r ∧ r < 5) := ⟨_, rfl, hid ⟨Int.tmod_nonneg 5 (by omega), Int.tmod_lt_of_pos _ (by omega)⟩⟩
                have hr5a := HR5.out.1
                have hr5b := HR5.out.2
                have HAr := hid (as_arm HS'.out r5)
                go_upto_region 29 with (go_at_call 13; (with_reducible refine HAr.out.mono ?_); rintro e wa ⟨rfl, hd, hl⟩; have HDa := hid hd; have HLa := hid hl; clear hd hl)
                have hc36 := conv33
                have HTn : Hid (Calls Tryd.prog 15 #[.pointer (some ⟨m1, 0, none⟩), .slice (some ⟨wa.heap.size, 0, none⟩) 4 4] (wa.alloc (.cells #[.int .u8 116, .int .u8 111, .int .u8 114, .int .u8 110] 5 (4, 5))) fun e u' => ∃ t A2 P2, e = .returned (.int .i64 94) ∧ AW w1 u' b l2 (.slice xa pn xc) v9 p' t q' p' q' A2 P2 (U' + 17) ∧ A2.ar = 0 ∧ A2.wr ≤ A'.wr + 1) := hid (aw_torn (HDa.out.keep (galloc _ _ _)) (HLa.out.keep (galloc _ _ _)) HS'.out.nl HS'.out.off rfl HT1.out (by have := HW'.out; show A'.wr ≤ _; omega) (by have := HU'.out; omega) (by have := HP'.out; omega) _ _ [116, 111, 114, 110] (lit_rd wa [116, 111, 114, 110] (4, 5) #[.int .u8 116, .int .u8 111, .int .u8 114, .int .u8 110] rfl 4 rfl) rfl (by show r5 < 17; omega))
                go_upto_region 30 with (go_at_call 15; (with_reducible refine HTn.out.mono ?_); rintro e wb ⟨t, A2, P2, rfl, hd, har, hw⟩; have HDb := hid hd; have HWb := hid (And.intro har hw); clear hd har hw)
                have HOn := hid (aw_on HDb.out)
                go_upto_region 31 with (go_at_call 17; (with_reducible refine HOn.out.mono ?_); rintro e wd ⟨rfl, hd⟩; have HDd := hid hd; clear hd)
                have HOp := hid (aw_open HDd.out rfl HWb.out.1 HT1.out (by show A2.wr ≤ _; have := HWb.out.2; have := HW'.out; omega))
                obtain ⟨pm, hpm⟩ : ∃ x, p'.length = x := ⟨_, rfl⟩
                rw [hpm] at HOp
                have HPm := hid hpm
                clear hpm hc36
                go_upto_region 32 with (go_at_call 11; (with_reducible refine HOp.out.mono ?_); rintro e wf ⟨k1, va, vg, vc, A3, P3, rfl, hr, hs, hw⟩; have HRf := hid hr; have HSf := hid hs; have HWf := hid hw; clear hr hs hw)
                have HRw : Hid (Calls Tryd.prog 18 #[.slice va pm vc, (.slice xa pn xc)] wf fun e u' => e = .returned (.bool true) ∧ wf.grownBy u' none) := hid (by have h := as_rows HSf.out.aw.ox (by have := HP'.out; omega) HRf.out (vc := vc); rw [HPm.out] at h; exact h)
                go_upto_region 35 with (first
                  | (go_at_call 18; (with_reducible refine HRw.out.mono ?_); rintro e wg ⟨rfl, hg⟩; have HSg := hid (HSf.out.keep hg); clear hg)
                  | (go_at_call 9; (with_reducible refine (num_any _ _).mono ?_); rintro e wn ⟨rfl, hwn⟩; have hwn' := hwn.symm; clear hwn; subst hwn'))
                obtain ⟨fp, HFp⟩ : ∃ x, Hid (flen p' = x) := ⟨_, hid rfl⟩
                obtain ⟨fq, HFq⟩ : ∃ x, Hid (flen q' = x) := ⟨_, hid rfl⟩
                have HX1 : Hid (Calls Tryd.prog 19 #[.pointer (some ⟨k1, 0, none⟩)] wg fun e w' => e = .returned (.int .i64 fp) ∧ w' = wg) := hid (by rw [← HFp.out]; exact lsize_any HSg.out.g1.lg)
                have HX2 : Hid (Calls Tryd.prog 20 #[(.slice xa pn xc)] wg fun e w' => e = .returned (.int .i64 fp) ∧ w' = wg) := hid (by rw [← HFp.out]; exact as_size HSg.out.aw.ox (by have := HP'.out; omega) (by have := flen_used HSg.out.aw.la (by have := HU'.out; omega); omega))
                have HX3 : Hid (Calls Tryd.prog 19 #[.pointer (some ⟨l2, 0, none⟩)] wg fun e w' => e = .returned (.int .i64 fq) ∧ w' = wg) := hid (by rw [← HFq.out]; exact lsize_any HSg.out.aw.g2.lg)
                have HX4 : Hid (Calls Tryd.prog 20 #[v9] wg fun e w' => e = .returned (.int .i64 fq) ∧ w' = wg) := hid (by rw [← HFq.out]; exact as_size HSg.out.aw.oy (by have := HQ'.out; omega) (by have := flen_used HSg.out.aw.lb (by have := HU'.out; omega); omega))
                have HE1 : Hid True := hid trivial
                have HE2 : Hid True := hid trivial
                go_wp2_with (first
                  | (have := HE1; clear this HE1; go_at_call 19; (with_reducible refine HX1.out.mono ?_); rintro e wx ⟨rfl, hwx⟩; have hwx' := hwx.symm; clear hwx; subst hwx')
                  | (have := HE2; clear this HE2; go_at_call 20; (with_reducible refine HX2.out.mono ?_); rintro e wx ⟨rfl, hwx⟩; have hwx' := hwx.symm; clear hwx; subst hwx')
                  | (go_at_call 19; (with_reducible refine HX3.out.mono ?_); rintro e wx ⟨rfl, hwx⟩; have hwx' := hwx.symm; clear hwx; subst hwx')
                  | (go_at_call 20; (with_reducible refine HX4.out.mono ?_); rintro e wx ⟨rfl, hwx⟩; have hwx' := hwx.symm; clear hwx; subst hwx'))
                go_roundw
                case rel => exact ⟨i + 1, y, k1, by go_num, rfl, rfl, by omega, by omega, by omega, hid ⟨p', q', A3, P3, (U' + 17), HSg.out, HP'.out, HQ'.out, by have := HU'.out; omega, by have := HW'.out; have h7 := HWf.out; have h8 : A2.on.wr = A2.wr := rfl; have := HWb.out.2; omega⟩⟩
                case measure => simp [intOf]; omega
              · as_aux_lemma =>
                have hr7a : ¬ (i : Int) % 7 = 3 := by rw [← hte]; exact hr7
                have hr7b : ¬ i % 7 = 3 := by omega
                clear hte
                go_upto_region 35 with fail
                obtain ⟨fp, HFp⟩ : ∃ x, Hid (flen p' = x) := ⟨_, hid rfl⟩
                obtain ⟨fq, HFq⟩ : ∃ x, Hid (flen q' = x) := ⟨_, hid rfl⟩
                have HX1 : Hid (Calls Tryd.prog 19 #[.pointer (some ⟨m1, 0, none⟩)] w9 fun e w' => e = .returned (.int .i64 fp) ∧ w' = w9) := hid (by rw [← HFp.out]; exact lsize_any HS'.out.g1.lg)
                have HX2 : Hid (Calls Tryd.prog 20 #[(.slice xa pn xc)] w9 fun e w' => e = .returned (.int .i64 fp) ∧ w' = w9) := hid (by rw [← HFp.out]; exact as_size HS'.out.aw.ox (by have := HP'.out; omega) (by have := flen_used HS'.out.aw.la (by have := HU'.out; omega); omega))
                have HX3 : Hid (Calls Tryd.prog 19 #[.pointer (some ⟨l2, 0, none⟩)] w9 fun e w' => e = .returned (.int .i64 fq) ∧ w' = w9) := hid (by rw [← HFq.out]; exact lsize_any HS'.out.aw.g2.lg)
                have HX4 : Hid (Calls Tryd.prog 20 #[v9] w9 fun e w' => e = .returned (.int .i64 fq) ∧ w' = w9) := hid (by rw [← HFq.out]; exact as_size HS'.out.aw.oy (by have := HQ'.out; omega) (by have := flen_used HS'.out.aw.lb (by have := HU'.out; omega); omega))
                have HE1 : Hid True := hid trivial
                have HE2 : Hid True := hid trivial
                go_wp2_with (first
                  | (have := HE1; clear this HE1; go_at_call 19; (with_reducible refine HX1.out.mono ?_); rintro e wx ⟨rfl, hwx⟩; have hwx' := hwx.symm; clear hwx; subst hwx')
                  | (have := HE2; clear this HE2; go_at_call 20; (with_reducible refine HX2.out.mono ?_); rintro e wx ⟨rfl, hwx⟩; have hwx' := hwx.symm; clear hwx; subst hwx')
                  | (go_at_call 19; (with_reducible refine HX3.out.mono ?_); rintro e wx ⟨rfl, hwx⟩; have hwx' := hwx.symm; clear hwx; subst hwx')
                  | (go_at_call 20; (with_reducible refine HX4.out.mono ?_); rintro e wx ⟨rfl, hwx⟩; have hwx' := hwx.symm; clear hwx; subst hwx'))
                go_roundw
                case rel => exact ⟨i + 1, y, m1, by go_num, rfl, rfl, by omega, by omega, by omega, hid ⟨p', q', A', P', U', HS'.out, HP'.out, HQ'.out, by have := HU'.out; omega, by have := HW'.out;  omega⟩⟩
                case measure => simp [intOf]; omega
            · as_aux_lemma =>
              have hpn1' : ¬ (qn : Int) < (n2 : Int) := by omega
              go_upto_region 27 with fail
              have HZ : Hid (∃ p' q' A' P' U', AS w1 w0 b m1 l2 (.slice xa pn xc) (.slice ya qn yc) p' q' p' q' A' P' U' ∧ p'.length ≤ i + 1 ∧ q'.length ≤ i + 1 ∧ U' ≤ z + 30 * i + 13 ∧ A'.wr ≤ 3 * (i : Int) + 1) := hid ⟨p, q, A, P, U, HS.out, by rw [HPn.out]; omega, by rw [HQn.out]; omega, by have := HB0.out.1; omega, by have := HB0.out.2; omega⟩
              clear HMeet
              obtain ⟨p', q', A', P', U', hs', hp', hq', hU', hw'⟩ := HZ.out
              have HS' := hid hs'
              have HP' := hid hp'
              have HQ' := hid hq'
              have HU' := hid hU'
              have HW' := hid hw'
              clear hs' hp' hq' hU' hw' HZ
              have hte : (i : Int).tmod 7 = (i : Int) % 7 := Int.tmod_eq_emod_of_nonneg (by omega)
              by_cases hr7 : (i : Int).tmod 7 = 3
              · as_aux_lemma =>
                clear hte
                obtain ⟨r5, hr5, HR5⟩ : ∃ r : Int, (i : Int).tmod 5 = r ∧ Hid (0 ≤ r ∧ r < 5) := ⟨_, rfl, hid ⟨Int.tmod_nonneg 5 (by omega), Int.tmod_lt_of_pos _ (by omega)⟩⟩
                have hr5a := HR5.out.1
                have hr5b := HR5.out.2
                have HAr := hid (as_arm HS'.out r5)
                go_upto_region 29 with (go_at_call 13; (with_reducible refine HAr.out.mono ?_); rintro e wa ⟨rfl, hd, hl⟩; have HDa := hid hd; have HLa := hid hl; clear hd hl)
                have hc36 := conv33
                have HTn : Hid (Calls Tryd.prog 15 #[.pointer (some ⟨m1, 0, none⟩), .slice (some ⟨wa.heap.size, 0, none⟩) 4 4] (wa.alloc (.cells #[.int .u8 116, .int .u8 111, .int .u8 114, .int .u8 110] 5 (4, 5))) fun e u' => ∃ t A2 P2, e = .returned (.int .i64 94) ∧ AW w1 u' b l2 (.slice xa pn xc) (.slice ya qn yc) p' t q' p' q' A2 P2 (U' + 17) ∧ A2.ar = 0 ∧ A2.wr ≤ A'.wr + 1) := hid (aw_torn (HDa.out.keep (galloc _ _ _)) (HLa.out.keep (galloc _ _ _)) HS'.out.nl HS'.out.off rfl HT1.out (by have := HW'.out; show A'.wr ≤ _; omega) (by have := HU'.out; omega) (by have := HP'.out; omega) _ _ [116, 111, 114, 110] (lit_rd wa [116, 111, 114, 110] (4, 5) #[.int .u8 116, .int .u8 111, .int .u8 114, .int .u8 110] rfl 4 rfl) rfl (by show r5 < 17; omega))
                go_upto_region 30 with (go_at_call 15; (with_reducible refine HTn.out.mono ?_); rintro e wb ⟨t, A2, P2, rfl, hd, har, hw⟩; have HDb := hid hd; have HWb := hid (And.intro har hw); clear hd har hw)
                have HOn := hid (aw_on HDb.out)
                go_upto_region 31 with (go_at_call 17; (with_reducible refine HOn.out.mono ?_); rintro e wd ⟨rfl, hd⟩; have HDd := hid hd; clear hd)
                have HOp := hid (aw_open HDd.out rfl HWb.out.1 HT1.out (by show A2.wr ≤ _; have := HWb.out.2; have := HW'.out; omega))
                obtain ⟨pm, hpm⟩ : ∃ x, p'.length = x := ⟨_, rfl⟩
                rw [hpm] at HOp
                have HPm := hid hpm
                clear hpm hc36
                go_upto_region 32 with (go_at_call 11; (with_reducible refine HOp.out.mono ?_); rintro e wf ⟨k1, va, vg, vc, A3, P3, rfl, hr, hs, hw⟩; have HRf := hid hr; have HSf := hid hs; have HWf := hid hw; clear hr hs hw)
                have HRw : Hid (Calls Tryd.prog 18 #[.slice va pm vc, (.slice xa pn xc)] wf fun e u' => e = .returned (.bool true) ∧ wf.grownBy u' none) := hid (by have h := as_rows HSf.out.aw.ox (by have := HP'.out; omega) HRf.out (vc := vc); rw [HPm.out] at h; exact h)
                go_upto_region 35 with (first
                  | (go_at_call 18; (with_reducible refine HRw.out.mono ?_); rintro e wg ⟨rfl, hg⟩; have HSg := hid (HSf.out.keep hg); clear hg)
                  | (go_at_call 9; (with_reducible refine (num_any _ _).mono ?_); rintro e wn ⟨rfl, hwn⟩; have hwn' := hwn.symm; clear hwn; subst hwn'))
                obtain ⟨fp, HFp⟩ : ∃ x, Hid (flen p' = x) := ⟨_, hid rfl⟩
                obtain ⟨fq, HFq⟩ : ∃ x, Hid (flen q' = x) := ⟨_, hid rfl⟩
                have HX1 : Hid (Calls Tryd.prog 19 #[.pointer (some ⟨k1, 0, none⟩)] wg fun e w' => e = .returned (.int .i64 fp) ∧ w' = wg) := hid (by rw [← HFp.out]; exact lsize_any HSg.out.g1.lg)
                have HX2 : Hid (Calls Tryd.prog 20 #[(.slice xa pn xc)] wg fun e w' => e = .returned (.int .i64 fp) ∧ w' = wg) := hid (by rw [← HFp.out]; exact as_size HSg.out.aw.ox (by have := HP'.out; omega) (by have := flen_used HSg.out.aw.la (by have := HU'.out; omega); omega))
                have HX3 : Hid (Calls Tryd.prog 19 #[.pointer (some ⟨l2, 0, none⟩)] wg fun e w' => e = .returned (.int .i64 fq) ∧ w' = wg) := hid (by rw [← HFq.out]; exact lsize_any HSg.out.aw.g2.lg)
                have HX4 : Hid (Calls Tryd.prog 20 #[(.slice ya qn yc)] wg fun e w' => e = .returned (.int .i64 fq) ∧ w' = wg) := hid (by rw [← HFq.out]; exact as_size HSg.out.aw.oy (by have := HQ'.out; omega) (by have := flen_used HSg.out.aw.lb (by have := HU'.out; omega); omega))
                have HE1 : Hid True := hid trivial
                have HE2 : Hid True := hid trivial
                go_wp2_with (first
                  | (have := HE1; clear this HE1; go_at_call 19; (with_reducible refine HX1.out.mono ?_); rintro e wx ⟨rfl, hwx⟩; have hwx' := hwx.symm; clear hwx; subst hwx')
                  | (have := HE2; clear this HE2; go_at_call 20; (with_reducible refine HX2.out.mono ?_); rintro e wx ⟨rfl, hwx⟩; have hwx' := hwx.symm; clear hwx; subst hwx')
                  | (go_at_call 19; (with_reducible refine HX3.out.mono ?_); rintro e wx ⟨rfl, hwx⟩; have hwx' := hwx.symm; clear hwx; subst hwx')
                  | (go_at_call 20; (with_reducible refine HX4.out.mono ?_); rintro e wx ⟨rfl, hwx⟩; have hwx' := hwx.symm; clear hwx; subst hwx'))
                go_roundw
                case rel => exact ⟨i + 1, z, k1, by go_num, rfl, rfl, by omega, by omega, by omega, hid ⟨p', q', A3, P3, (U' + 17), HSg.out, HP'.out, HQ'.out, by have := HU'.out; omega, by have := HW'.out; have h7 := HWf.out; have h8 : A2.on.wr = A2.wr := rfl; have := HWb.out.2; omega⟩⟩
                case measure => simp [intOf]; omega
              · as_aux_lemma =>
                have hr7a : ¬ (i : Int) % 7 = 3 := by rw [← hte]; exact hr7
                have hr7b : ¬ i % 7 = 3 := by omega
                clear hte
                go_upto_region 35 with fail
                obtain ⟨fp, HFp⟩ : ∃ x, Hid (flen p' = x) := ⟨_, hid rfl⟩
                obtain ⟨fq, HFq⟩ : ∃ x, Hid (flen q' = x) := ⟨_, hid rfl⟩
                have HX1 : Hid (Calls Tryd.prog 19 #[.pointer (some ⟨m1, 0, none⟩)] w0 fun e w' => e = .returned (.int .i64 fp) ∧ w' = w0) := hid (by rw [← HFp.out]; exact lsize_any HS'.out.g1.lg)
                have HX2 : Hid (Calls Tryd.prog 20 #[(.slice xa pn xc)] w0 fun e w' => e = .returned (.int .i64 fp) ∧ w' = w0) := hid (by rw [← HFp.out]; exact as_size HS'.out.aw.ox (by have := HP'.out; omega) (by have := flen_used HS'.out.aw.la (by have := HU'.out; omega); omega))
                have HX3 : Hid (Calls Tryd.prog 19 #[.pointer (some ⟨l2, 0, none⟩)] w0 fun e w' => e = .returned (.int .i64 fq) ∧ w' = w0) := hid (by rw [← HFq.out]; exact lsize_any HS'.out.aw.g2.lg)
                have HX4 : Hid (Calls Tryd.prog 20 #[(.slice ya qn yc)] w0 fun e w' => e = .returned (.int .i64 fq) ∧ w' = w0) := hid (by rw [← HFq.out]; exact as_size HS'.out.aw.oy (by have := HQ'.out; omega) (by have := flen_used HS'.out.aw.lb (by have := HU'.out; omega); omega))
                have HE1 : Hid True := hid trivial
                have HE2 : Hid True := hid trivial
                go_wp2_with (first
                  | (have := HE1; clear this HE1; go_at_call 19; (with_reducible refine HX1.out.mono ?_); rintro e wx ⟨rfl, hwx⟩; have hwx' := hwx.symm; clear hwx; subst hwx')
                  | (have := HE2; clear this HE2; go_at_call 20; (with_reducible refine HX2.out.mono ?_); rintro e wx ⟨rfl, hwx⟩; have hwx' := hwx.symm; clear hwx; subst hwx')
                  | (go_at_call 19; (with_reducible refine HX3.out.mono ?_); rintro e wx ⟨rfl, hwx⟩; have hwx' := hwx.symm; clear hwx; subst hwx')
                  | (go_at_call 20; (with_reducible refine HX4.out.mono ?_); rintro e wx ⟨rfl, hwx⟩; have hwx' := hwx.symm; clear hwx; subst hwx'))
                go_roundw
                case rel => exact ⟨i + 1, z, m1, by go_num, rfl, rfl, by omega, by omega, by omega, hid ⟨p', q', A', P', U', HS'.out, HP'.out, HQ'.out, by have := HU'.out; omega, by have := HW'.out;  omega⟩⟩
                case measure => simp [intOf]; omega
          · by_cases hpn1 : pn < n1
            · as_aux_lemma =>
              have hpn1' : (pn : Int) < (n1 : Int) := by omega
              obtain ⟨rfl, hga, -⟩ := HA.out.at_ (by rw [HN1.out]; omega)
              have hib : pn < la.length := by rw [HN1.out]; exact hpn1
              obtain ⟨l, HL⟩ : ∃ l, Hid (∀ h : pn < la.length, la[pn]'h = l) := ⟨la[pn], hid (fun _ => rfl)⟩
              have HLm : Hid (l.length ≤ 140737488355328) := hid (by rw [← HL.out hib]; exact HR1.out _ (List.getElem_mem _))
              obtain ⟨x0, hx1, hx2⟩ := HA.out.each pn hib
              rw [HL.out hib] at hx2
              have HX2 := hid hx2
              obtain ⟨ra, rb, ro, rc, rfl, -⟩ := hx2
              obtain ⟨rn, hrn⟩ : ∃ x, l.length = x := ⟨_, rfl⟩
              rw [hrn] at hx1 HX2 HLm
              have HRn := hid hrn
              have HCr : Hid (∀ u, w1.grownBy u none → u.cell? ⟨g1, o1 + pn, none⟩ = some (.slice ra rn rc)) := hid (fun u hu => (cell_at (gtrans HG1.out hu) hga (by simp)).trans hx1)
              have kr := HCr.out w0 HS.out.aw.sd.gr
              have hrl := HLm.out
              clear hx1 hrn hga hib
              go_upto_region 16 with fail
              obtain ⟨y, hy⟩ : ∃ y : Nat, z + rn = y := ⟨_, rfl⟩
              have hwr : (z : Int) + (rn : Int) = (y : Int) := by omega
              rw [hwr]
              have HY := hid hy
              clear hwr hy hrl
              by_cases hbr : 524288 < y
              · as_aux_lemma =>
                have hbr' : (524288 : Int) < (y : Int) := by omega
                go_wp2_with fail
                go_meet
                case rel => exact HMeet.out
              have hbr' : ¬ (524288 : Int) < (y : Int) := by omega
              have HCp : Hid (Calls Tryd.prog 16 #[.slice ra rn rc] w0 fun e w' => ∃ v', e = .returned v' ∧ Out w0.heap.size w' v' l ∧ w0.grownBy w' none) := hid (copyR_any w0 _ _ l (HX2.out.keep (gtrans HG1.out HS.out.aw.sd.gr)) (by have := HRn.out; have := HY.out; omega))
              have HAp : Hid (∀ u x B', w0.grownBy u none → Out B' u x l → Calls Tryd.prog 15 #[.pointer (some ⟨m1, 0, none⟩), x] u fun e u' => ∃ A' P', e = .returned (.int .i64 0) ∧ AS w1 u' b m1 l2 (.slice xa pn xc) (.slice ya qn yc) (p ++ [l]) q p q A' P' (U + (l.length + 13)) ∧ A'.wr ≤ A.wr + 1) := hid (fun u x B' hu ho => as_app1 (HS.out.keep hu) HT1.out (by have := HB0.out.2; omega) (by have := HB0.out.1; omega) (by rw [HPn.out]; have := HPl.out; omega) _ x l ho.rd (by have := HRn.out; have := HY.out; omega))
              go_upto_region 19 with (first
                | (go_at_call 15; (with_reducible refine (HAp.out _ _ _ HG6.out HO6.out).mono ?_); rintro e w7 ⟨A7, P7, rfl, hs, hw⟩; have HS7 := hid hs; have HW7 := hid hw; clear hs hw)
                | (go_at_call 16; (with_reducible refine HCp.out.mono ?_); rintro e w6 ⟨v6, rfl, ho, hg⟩; have HO6 := hid ho; have HG6 := hid hg; clear ho hg)
                | (go_at_call 9; (with_reducible refine (num_any _ _).mono ?_); rintro e wn ⟨rfl, hwn⟩; have hwn' := hwn.symm; clear hwn; subst hwn'))
              have HBk := hid (Blk.new w7 [Value.slice ra rn rc] 36)
              have HOw : Hid (OutW w1.heap.size (w7.alloc (.cells #[Value.slice ra rn rc] 36)) (.slice xa pn xc) p) := hid (HS7.out.aw.ox.keep (galloc _ _ _))
              have HRw : Hid (Rd (w7.alloc (.cells #[Value.slice ra rn rc] 36)) (fun k => k < w1.heap.size) (.slice ra rn rc) l) := hid ((HX2.out.keep (gtrans HG1.out (gtrans HS7.out.aw.sd.gr (galloc _ _ _)))).wide (fun k hk => Nat.lt_of_lt_of_le (HF.out k hk) HG1.out.size))
              have HCs : Hid (w1.heap.size ≤ (w7.alloc (.cells #[Value.slice ra rn rc] 36)).heap.size) := hid (gtrans HS7.out.aw.sd.gr (galloc _ _ none)).size
              have HWm : Hid (p.length ≤ 1000000) := hid (by rw [HPn.out]; have := HPl.out; omega)
              go_upto_region 27 with (at_builtin; refine wpList_append_want rfl _ _ rfl w1.heap.size _ p _ l HOw.out rfl HBk.out HRw.out HWm.out HCs.out ?_; intro v9 w9 hO9 hg9 hb9; have HS9 := hid (as_row1 HS7.out hO9 hg9 hb9); obtain ⟨kA9, kB9, kT9, ki9⟩ := HC.out _ HS9.out.aw.sd.gr; clear hO9 hg9 hb9)
              have HZ : Hid (∃ p' q' A' P' U', AS w1 w9 b m1 l2 v9 (.slice ya qn yc) p' q' p' q' A' P' U' ∧ p'.length ≤ i + 1 ∧ q'.length ≤ i + 1 ∧ U' ≤ y + 30 * i + 13 ∧ A'.wr ≤ 3 * (i : Int) + 1) := hid ⟨p ++ [l], q, A7, P7, _, HS9.out, by rw [List.length_append, HPn.out]; simp; omega, by rw [HQn.out]; omega, by have := HB0.out.1; have := HRn.out; have := HY.out; omega, by have := HB0.out.2; have := HW7.out; omega⟩
              clear HS9 HBk HOw HRw HCs HWm HAp HCp HMeet
              obtain ⟨p', q', A', P', U', hs', hp', hq', hU', hw'⟩ := HZ.out
              have HS' := hid hs'
              have HP' := hid hp'
              have HQ' := hid hq'
              have HU' := hid hU'
              have HW' := hid hw'
              clear hs' hp' hq' hU' hw' HZ
              have hte : (i : Int).tmod 7 = (i : Int) % 7 := Int.tmod_eq_emod_of_nonneg (by omega)
              by_cases hr7 : (i : Int).tmod 7 = 3
              · as_aux_lemma =>
                clear hte
                obtain ⟨r5, hr5, HR5⟩ : ∃ r : Int, (i : Int).tmod 5 = r ∧ Hid (0 ≤ r ∧ r < 5) := ⟨_, rfl, hid ⟨Int.tmod_nonneg 5 (by omega), Int.tmod_lt_of_pos _ (by omega)⟩⟩
                have hr5a := HR5.out.1
                have hr5b := HR5.out.2
                have HAr := hid (as_arm HS'.out r5)
                go_upto_region 29 with (go_at_call 13; (with_reducible refine HAr.out.mono ?_); rintro e wa ⟨rfl, hd, hl⟩; have HDa := hid hd; have HLa := hid hl; clear hd hl)
                have hc36 := conv33
                have HTn : Hid (Calls Tryd.prog 15 #[.pointer (some ⟨m1, 0, none⟩), .slice (some ⟨wa.heap.size, 0, none⟩) 4 4] (wa.alloc (.cells #[.int .u8 116, .int .u8 111, .int .u8 114, .int .u8 110] 5 (4, 5))) fun e u' => ∃ t A2 P2, e = .returned (.int .i64 94) ∧ AW w1 u' b l2 v9 (.slice ya qn yc) p' t q' p' q' A2 P2 (U' + 17) ∧ A2.ar = 0 ∧ A2.wr ≤ A'.wr + 1) := hid (aw_torn (HDa.out.keep (galloc _ _ _)) (HLa.out.keep (galloc _ _ _)) HS'.out.nl HS'.out.off rfl HT1.out (by have := HW'.out; show A'.wr ≤ _; omega) (by have := HU'.out; omega) (by have := HP'.out; omega) _ _ [116, 111, 114, 110] (lit_rd wa [116, 111, 114, 110] (4, 5) #[.int .u8 116, .int .u8 111, .int .u8 114, .int .u8 110] rfl 4 rfl) rfl (by show r5 < 17; omega))
                go_upto_region 30 with (go_at_call 15; (with_reducible refine HTn.out.mono ?_); rintro e wb ⟨t, A2, P2, rfl, hd, har, hw⟩; have HDb := hid hd; have HWb := hid (And.intro har hw); clear hd har hw)
                have HOn := hid (aw_on HDb.out)
                go_upto_region 31 with (go_at_call 17; (with_reducible refine HOn.out.mono ?_); rintro e wd ⟨rfl, hd⟩; have HDd := hid hd; clear hd)
                have HOp := hid (aw_open HDd.out rfl HWb.out.1 HT1.out (by show A2.wr ≤ _; have := HWb.out.2; have := HW'.out; omega))
                obtain ⟨pm, hpm⟩ : ∃ x, p'.length = x := ⟨_, rfl⟩
                rw [hpm] at HOp
                have HPm := hid hpm
                clear hpm hc36
                go_upto_region 32 with (go_at_call 11; (with_reducible refine HOp.out.mono ?_); rintro e wf ⟨k1, va, vg, vc, A3, P3, rfl, hr, hs, hw⟩; have HRf := hid hr; have HSf := hid hs; have HWf := hid hw; clear hr hs hw)
                have HRw : Hid (Calls Tryd.prog 18 #[.slice va pm vc, v9] wf fun e u' => e = .returned (.bool true) ∧ wf.grownBy u' none) := hid (by have h := as_rows HSf.out.aw.ox (by have := HP'.out; omega) HRf.out (vc := vc); rw [HPm.out] at h; exact h)
                go_upto_region 35 with (first
                  | (go_at_call 18; (with_reducible refine HRw.out.mono ?_); rintro e wg ⟨rfl, hg⟩; have HSg := hid (HSf.out.keep hg); clear hg)
                  | (go_at_call 9; (with_reducible refine (num_any _ _).mono ?_); rintro e wn ⟨rfl, hwn⟩; have hwn' := hwn.symm; clear hwn; subst hwn'))
                obtain ⟨fp, HFp⟩ : ∃ x, Hid (flen p' = x) := ⟨_, hid rfl⟩
                obtain ⟨fq, HFq⟩ : ∃ x, Hid (flen q' = x) := ⟨_, hid rfl⟩
                have HX1 : Hid (Calls Tryd.prog 19 #[.pointer (some ⟨k1, 0, none⟩)] wg fun e w' => e = .returned (.int .i64 fp) ∧ w' = wg) := hid (by rw [← HFp.out]; exact lsize_any HSg.out.g1.lg)
                have HX2 : Hid (Calls Tryd.prog 20 #[v9] wg fun e w' => e = .returned (.int .i64 fp) ∧ w' = wg) := hid (by rw [← HFp.out]; exact as_size HSg.out.aw.ox (by have := HP'.out; omega) (by have := flen_used HSg.out.aw.la (by have := HU'.out; omega); omega))
                have HX3 : Hid (Calls Tryd.prog 19 #[.pointer (some ⟨l2, 0, none⟩)] wg fun e w' => e = .returned (.int .i64 fq) ∧ w' = wg) := hid (by rw [← HFq.out]; exact lsize_any HSg.out.aw.g2.lg)
                have HX4 : Hid (Calls Tryd.prog 20 #[(.slice ya qn yc)] wg fun e w' => e = .returned (.int .i64 fq) ∧ w' = wg) := hid (by rw [← HFq.out]; exact as_size HSg.out.aw.oy (by have := HQ'.out; omega) (by have := flen_used HSg.out.aw.lb (by have := HU'.out; omega); omega))
                have HE1 : Hid True := hid trivial
                have HE2 : Hid True := hid trivial
                go_wp2_with (first
                  | (have := HE1; clear this HE1; go_at_call 19; (with_reducible refine HX1.out.mono ?_); rintro e wx ⟨rfl, hwx⟩; have hwx' := hwx.symm; clear hwx; subst hwx')
                  | (have := HE2; clear this HE2; go_at_call 20; (with_reducible refine HX2.out.mono ?_); rintro e wx ⟨rfl, hwx⟩; have hwx' := hwx.symm; clear hwx; subst hwx')
                  | (go_at_call 19; (with_reducible refine HX3.out.mono ?_); rintro e wx ⟨rfl, hwx⟩; have hwx' := hwx.symm; clear hwx; subst hwx')
                  | (go_at_call 20; (with_reducible refine HX4.out.mono ?_); rintro e wx ⟨rfl, hwx⟩; have hwx' := hwx.symm; clear hwx; subst hwx'))
                go_roundw
                case rel => exact ⟨i + 1, y, k1, by go_num, rfl, rfl, by omega, by omega, by omega, hid ⟨p', q', A3, P3, (U' + 17), HSg.out, HP'.out, HQ'.out, by have := HU'.out; omega, by have := HW'.out; have h7 := HWf.out; have h8 : A2.on.wr = A2.wr := rfl; have := HWb.out.2; omega⟩⟩
                case measure => simp [intOf]; omega
              · as_aux_lemma =>
                have hr7a : ¬ (i : Int) % 7 = 3 := by rw [← hte]; exact hr7
                have hr7b : ¬ i % 7 = 3 := by omega
                clear hte
                go_upto_region 35 with fail
                obtain ⟨fp, HFp⟩ : ∃ x, Hid (flen p' = x) := ⟨_, hid rfl⟩
                obtain ⟨fq, HFq⟩ : ∃ x, Hid (flen q' = x) := ⟨_, hid rfl⟩
                have HX1 : Hid (Calls Tryd.prog 19 #[.pointer (some ⟨m1, 0, none⟩)] w9 fun e w' => e = .returned (.int .i64 fp) ∧ w' = w9) := hid (by rw [← HFp.out]; exact lsize_any HS'.out.g1.lg)
                have HX2 : Hid (Calls Tryd.prog 20 #[v9] w9 fun e w' => e = .returned (.int .i64 fp) ∧ w' = w9) := hid (by rw [← HFp.out]; exact as_size HS'.out.aw.ox (by have := HP'.out; omega) (by have := flen_used HS'.out.aw.la (by have := HU'.out; omega); omega))
                have HX3 : Hid (Calls Tryd.prog 19 #[.pointer (some ⟨l2, 0, none⟩)] w9 fun e w' => e = .returned (.int .i64 fq) ∧ w' = w9) := hid (by rw [← HFq.out]; exact lsize_any HS'.out.aw.g2.lg)
                have HX4 : Hid (Calls Tryd.prog 20 #[(.slice ya qn yc)] w9 fun e w' => e = .returned (.int .i64 fq) ∧ w' = w9) := hid (by rw [← HFq.out]; exact as_size HS'.out.aw.oy (by have := HQ'.out; omega) (by have := flen_used HS'.out.aw.lb (by have := HU'.out; omega); omega))
                have HE1 : Hid True := hid trivial
                have HE2 : Hid True := hid trivial
                go_wp2_with (first
                  | (have := HE1; clear this HE1; go_at_call 19; (with_reducible refine HX1.out.mono ?_); rintro e wx ⟨rfl, hwx⟩; have hwx' := hwx.symm; clear hwx; subst hwx')
                  | (have := HE2; clear this HE2; go_at_call 20; (with_reducible refine HX2.out.mono ?_); rintro e wx ⟨rfl, hwx⟩; have hwx' := hwx.symm; clear hwx; subst hwx')
                  | (go_at_call 19; (with_reducible refine HX3.out.mono ?_); rintro e wx ⟨rfl, hwx⟩; have hwx' := hwx.symm; clear hwx; subst hwx')
                  | (go_at_call 20; (with_reducible refine HX4.out.mono ?_); rintro e wx ⟨rfl, hwx⟩; have hwx' := hwx.symm; clear hwx; subst hwx'))
                go_roundw
                case rel => exact ⟨i + 1, y, m1, by go_num, rfl, rfl, by omega, by omega, by omega, hid ⟨p', q', A', P', U', HS'.out, HP'.out, HQ'.out, by have := HU'.out; omega, by have := HW'.out;  omega⟩⟩
                case measure => simp [intOf]; omega
            · as_aux_lemma =>
              have hpn1' : ¬ (pn : Int) < (n1 : Int) := by omega
              go_upto_region 27 with fail
              have HZ : Hid (∃ p' q' A' P' U', AS w1 w0 b m1 l2 (.slice xa pn xc) (.slice ya qn yc) p' q' p' q' A' P' U' ∧ p'.length ≤ i + 1 ∧ q'.length ≤ i + 1 ∧ U' ≤ z + 30 * i + 13 ∧ A'.wr ≤ 3 * (i : Int) + 1) := hid ⟨p, q, A, P, U, HS.out, by rw [HPn.out]; omega, by rw [HQn.out]; omega, by have := HB0.out.1; omega, by have := HB0.out.2; omega⟩
              clear HMeet
              obtain ⟨p', q', A', P', U', hs', hp', hq', hU', hw'⟩ := HZ.out
              have HS' := hid hs'
              have HP' := hid hp'
              have HQ' := hid hq'
              have HU' := hid hU'
              have HW' := hid hw'
              clear hs' hp' hq' hU' hw' HZ
              have hte : (i : Int).tmod 7 = (i : Int) % 7 := Int.tmod_eq_emod_of_nonneg (by omega)
              by_cases hr7 : (i : Int).tmod 7 = 3
              · as_aux_lemma =>
                clear hte
                obtain ⟨r5, hr5, HR5⟩ : ∃ r : Int, (i : Int).tmod 5 = r ∧ Hid (0 ≤ r ∧ r < 5) := ⟨_, rfl, hid ⟨Int.tmod_nonneg 5 (by omega), Int.tmod_lt_of_pos _ (by omega)⟩⟩
                have hr5a := HR5.out.1
                have hr5b := HR5.out.2
                have HAr := hid (as_arm HS'.out r5)
                go_upto_region 29 with (go_at_call 13; (with_reducible refine HAr.out.mono ?_); rintro e wa ⟨rfl, hd, hl⟩; have HDa := hid hd; have HLa := hid hl; clear hd hl)
                have hc36 := conv33
                have HTn : Hid (Calls Tryd.prog 15 #[.pointer (some ⟨m1, 0, none⟩), .slice (some ⟨wa.heap.size, 0, none⟩) 4 4] (wa.alloc (.cells #[.int .u8 116, .int .u8 111, .int .u8 114, .int .u8 110] 5 (4, 5))) fun e u' => ∃ t A2 P2, e = .returned (.int .i64 94) ∧ AW w1 u' b l2 (.slice xa pn xc) (.slice ya qn yc) p' t q' p' q' A2 P2 (U' + 17) ∧ A2.ar = 0 ∧ A2.wr ≤ A'.wr + 1) := hid (aw_torn (HDa.out.keep (galloc _ _ _)) (HLa.out.keep (galloc _ _ _)) HS'.out.nl HS'.out.off rfl HT1.out (by have := HW'.out; show A'.wr ≤ _; omega) (by have := HU'.out; omega) (by have := HP'.out; omega) _ _ [116, 111, 114, 110] (lit_rd wa [116, 111, 114, 110] (4, 5) #[.int .u8 116, .int .u8 111, .int .u8 114, .int .u8 110] rfl 4 rfl) rfl (by show r5 < 17; omega))
                go_upto_region 30 with (go_at_call 15; (with_reducible refine HTn.out.mono ?_); rintro e wb ⟨t, A2, P2, rfl, hd, har, hw⟩; have HDb := hid hd; have HWb := hid (And.intro har hw); clear hd har hw)
                have HOn := hid (aw_on HDb.out)
                go_upto_region 31 with (go_at_call 17; (with_reducible refine HOn.out.mono ?_); rintro e wd ⟨rfl, hd⟩; have HDd := hid hd; clear hd)
                have HOp := hid (aw_open HDd.out rfl HWb.out.1 HT1.out (by show A2.wr ≤ _; have := HWb.out.2; have := HW'.out; omega))
                obtain ⟨pm, hpm⟩ : ∃ x, p'.length = x := ⟨_, rfl⟩
                rw [hpm] at HOp
                have HPm := hid hpm
                clear hpm hc36
                go_upto_region 32 with (go_at_call 11; (with_reducible refine HOp.out.mono ?_); rintro e wf ⟨k1, va, vg, vc, A3, P3, rfl, hr, hs, hw⟩; have HRf := hid hr; have HSf := hid hs; have HWf := hid hw; clear hr hs hw)
                have HRw : Hid (Calls Tryd.prog 18 #[.slice va pm vc, (.slice xa pn xc)] wf fun e u' => e = .returned (.bool true) ∧ wf.grownBy u' none) := hid (by have h := as_rows HSf.out.aw.ox (by have := HP'.out; omega) HRf.out (vc := vc); rw [HPm.out] at h; exact h)
                go_upto_region 35 with (first
                  | (go_at_call 18; (with_reducible refine HRw.out.mono ?_); rintro e wg ⟨rfl, hg⟩; have HSg := hid (HSf.out.keep hg); clear hg)
                  | (go_at_call 9; (with_reducible refine (num_any _ _).mono ?_); rintro e wn ⟨rfl, hwn⟩; have hwn' := hwn.symm; clear hwn; subst hwn'))
                obtain ⟨fp, HFp⟩ : ∃ x, Hid (flen p' = x) := ⟨_, hid rfl⟩
                obtain ⟨fq, HFq⟩ : ∃ x, Hid (flen q' = x) := ⟨_, hid rfl⟩
                have HX1 : Hid (Calls Tryd.prog 19 #[.pointer (some ⟨k1, 0, none⟩)] wg fun e w' => e = .returned (.int .i64 fp) ∧ w' = wg) := hid (by rw [← HFp.out]; exact lsize_any HSg.out.g1.lg)
                have HX2 : Hid (Calls Tryd.prog 20 #[(.slice xa pn xc)] wg fun e w' => e = .returned (.int .i64 fp) ∧ w' = wg) := hid (by rw [← HFp.out]; exact as_size HSg.out.aw.ox (by have := HP'.out; omega) (by have := flen_used HSg.out.aw.la (by have := HU'.out; omega); omega))
                have HX3 : Hid (Calls Tryd.prog 19 #[.pointer (some ⟨l2, 0, none⟩)] wg fun e w' => e = .returned (.int .i64 fq) ∧ w' = wg) := hid (by rw [← HFq.out]; exact lsize_any HSg.out.aw.g2.lg)
                have HX4 : Hid (Calls Tryd.prog 20 #[(.slice ya qn yc)] wg fun e w' => e = .returned (.int .i64 fq) ∧ w' = wg) := hid (by rw [← HFq.out]; exact as_size HSg.out.aw.oy (by have := HQ'.out; omega) (by have := flen_used HSg.out.aw.lb (by have := HU'.out; omega); omega))
                have HE1 : Hid True := hid trivial
                have HE2 : Hid True := hid trivial
                go_wp2_with (first
                  | (have := HE1; clear this HE1; go_at_call 19; (with_reducible refine HX1.out.mono ?_); rintro e wx ⟨rfl, hwx⟩; have hwx' := hwx.symm; clear hwx; subst hwx')
                  | (have := HE2; clear this HE2; go_at_call 20; (with_reducible refine HX2.out.mono ?_); rintro e wx ⟨rfl, hwx⟩; have hwx' := hwx.symm; clear hwx; subst hwx')
                  | (go_at_call 19; (with_reducible refine HX3.out.mono ?_); rintro e wx ⟨rfl, hwx⟩; have hwx' := hwx.symm; clear hwx; subst hwx')
                  | (go_at_call 20; (with_reducible refine HX4.out.mono ?_); rintro e wx ⟨rfl, hwx⟩; have hwx' := hwx.symm; clear hwx; subst hwx'))
                go_roundw
                case rel => exact ⟨i + 1, z, k1, by go_num, rfl, rfl, by omega, by omega, by omega, hid ⟨p', q', A3, P3, (U' + 17), HSg.out, HP'.out, HQ'.out, by have := HU'.out; omega, by have := HW'.out; have h7 := HWf.out; have h8 : A2.on.wr = A2.wr := rfl; have := HWb.out.2; omega⟩⟩
                case measure => simp [intOf]; omega
              · as_aux_lemma =>
                have hr7a : ¬ (i : Int) % 7 = 3 := by rw [← hte]; exact hr7
                have hr7b : ¬ i % 7 = 3 := by omega
                clear hte
                go_upto_region 35 with fail
                obtain ⟨fp, HFp⟩ : ∃ x, Hid (flen p' = x) := ⟨_, hid rfl⟩
                obtain ⟨fq, HFq⟩ : ∃ x, Hid (flen q' = x) := ⟨_, hid rfl⟩
                have HX1 : Hid (Calls Tryd.prog 19 #[.pointer (some ⟨m1, 0, none⟩)] w0 fun e w' => e = .returned (.int .i64 fp) ∧ w' = w0) := hid (by rw [← HFp.out]; exact lsize_any HS'.out.g1.lg)
                have HX2 : Hid (Calls Tryd.prog 20 #[(.slice xa pn xc)] w0 fun e w' => e = .returned (.int .i64 fp) ∧ w' = w0) := hid (by rw [← HFp.out]; exact as_size HS'.out.aw.ox (by have := HP'.out; omega) (by have := flen_used HS'.out.aw.la (by have := HU'.out; omega); omega))
                have HX3 : Hid (Calls Tryd.prog 19 #[.pointer (some ⟨l2, 0, none⟩)] w0 fun e w' => e = .returned (.int .i64 fq) ∧ w' = w0) := hid (by rw [← HFq.out]; exact lsize_any HS'.out.aw.g2.lg)
                have HX4 : Hid (Calls Tryd.prog 20 #[(.slice ya qn yc)] w0 fun e w' => e = .returned (.int .i64 fq) ∧ w' = w0) := hid (by rw [← HFq.out]; exact as_size HS'.out.aw.oy (by have := HQ'.out; omega) (by have := flen_used HS'.out.aw.lb (by have := HU'.out; omega); omega))
                have HE1 : Hid True := hid trivial
                have HE2 : Hid True := hid trivial
                go_wp2_with (first
                  | (have := HE1; clear this HE1; go_at_call 19; (with_reducible refine HX1.out.mono ?_); rintro e wx ⟨rfl, hwx⟩; have hwx' := hwx.symm; clear hwx; subst hwx')
                  | (have := HE2; clear this HE2; go_at_call 20; (with_reducible refine HX2.out.mono ?_); rintro e wx ⟨rfl, hwx⟩; have hwx' := hwx.symm; clear hwx; subst hwx')
                  | (go_at_call 19; (with_reducible refine HX3.out.mono ?_); rintro e wx ⟨rfl, hwx⟩; have hwx' := hwx.symm; clear hwx; subst hwx')
                  | (go_at_call 20; (with_reducible refine HX4.out.mono ?_); rintro e wx ⟨rfl, hwx⟩; have hwx' := hwx.symm; clear hwx; subst hwx'))
                go_roundw
                case rel => exact ⟨i + 1, z, m1, by go_num, rfl, rfl, by omega, by omega, by omega, hid ⟨p', q', A', P', U', HS'.out, HP'.out, HQ'.out, by have := HU'.out; omega, by have := HW'.out;  omega⟩⟩
                case measure => simp [intOf]; omega
        · as_aux_lemma =>
          have h2' : ¬ (i : Int) < 100 := by omega
          have kT : w0.cell? ⟨p1, 2, none⟩ = some (Value.slice a3 n3 c3) := (HCell.out w0 HS.out.aw.sd.gr).cell 2
          go_wp2_with fail
          go_meet
          case rel => exact HMeet.out
      · as_aux_lemma =>
        have hlt' : ¬ (i : Int) < (n3 : Int) := by omega
        have kT : w0.cell? ⟨p1, 2, none⟩ = some (Value.slice a3 n3 c3) := (HCell.out w0 HS.out.aw.sd.gr).cell 2
        go_wp2_with fail
        go_meet
        case rel => exact HMeet.out
  case rest =>
    as_aux_lemma =>
    obtain ⟨xv, hxv⟩ : ∃ x : Value, x = u11 := ⟨_, rfl⟩
    obtain ⟨yv, hyv⟩ : ∃ x : Value, x = u12 := ⟨_, rfl⟩
    rw [← hxv, ← hyv] at hcut ⊢
    clear hxv hyv
    obtain ⟨m1, p, q, A, P, U, hs, hpl, hql, hU⟩ := hcut.out
    have HS := hid hs
    have HPl := hid hpl
    have HQl := hid hql
    clear hs hpl hql hU hcut HAS
    have HOa := hid (as_open HS.out HT1.out)
    have HOb : Hid (∀ u, wc.grownBy u none → Calls Tryd.prog 11 #[.pointer (some ⟨b, 0, none⟩), .string ⟨#[98]⟩] u fun e u' => ∃ lb va vg vc, e = .returned (.tuple #[.pointer (some ⟨lb, 0, none⟩), .slice va q.length vc, .int .i64 0]) ∧ RowS u' (fun _ => True) va vg 0 q ∧ u.grownBy u' none) := hid (fun u hu => as_openB (HS.out.keep hu) HT1.out)
    have HRa : Hid (∀ u va vg vc, wc.grownBy u none → RowS u (fun _ => True) va vg 0 p → Calls Tryd.prog 18 #[.slice va p.length vc, xv] u fun e u' => e = .returned (.bool true) ∧ u.grownBy u' none) := hid (fun u va vg vc hu h => as_rows (HS.out.aw.ox.keep hu) (by have := HPl.out; omega) h)
    have HRb : Hid (∀ u va vg vc, wc.grownBy u none → RowS u (fun _ => True) va vg 0 q → Calls Tryd.prog 18 #[.slice va q.length vc, yv] u fun e u' => e = .returned (.bool true) ∧ u.grownBy u' none) := hid (fun u va vg vc hu h => as_rows (HS.out.aw.oy.keep hu) (by have := HQl.out; omega) h)
    obtain ⟨pl, hpl⟩ : ∃ z, p.length = z := ⟨_, rfl⟩
    obtain ⟨ql, hql⟩ : ∃ z, q.length = z := ⟨_, rfl⟩
    rw [hpl] at HOa HRa
    rw [hql] at HOb HRb
    clear hpl hql HPl HQl
    go_upto_region 38 with (go_at_call 11; (with_reducible refine HOa.out.mono ?_); rintro e w5 ⟨k1, va, vg, vc, rfl, hr, hg⟩; have HR5 := hid hr; have HG5 := hid hg; clear hr hg)
    go_upto_region 39 with (go_at_call 11; (with_reducible refine (HOb.out _ HG5.out).mono ?_); rintro e w6 ⟨k2, ya, yg, yc, rfl, hr, hg⟩; have HR6 := hid hr; have HR5' := hid (HR5.out.keep hg); have HG6 := hid (gtrans HG5.out hg); clear hr hg)
    go_upto_region 39 with fail
    go_wp2_with (first
      | (have := HG7; clear this; go_at_call 18; (with_reducible refine (HRb.out _ _ _ _ HG7.out HR7.out).mono ?_); rintro e w8 ⟨rfl, hg⟩; have HG8 := hid (gtrans HG7.out hg); clear hg)
      | (go_at_call 18; (with_reducible refine (HRa.out _ _ _ _ HG6.out HR5'.out).mono ?_); rintro e w7 ⟨rfl, hg⟩; have HR7 := hid (HR6.out.keep hg); have HG7 := hid (gtrans HG6.out hg); clear hg)
      | (go_at_call 9; (with_reducible refine (num_any _ _).mono ?_); rintro e wn ⟨rfl, hwn⟩; have hwn' := hwn.symm; clear hwn; subst hwn'))
    go_ret
    exact ⟨rfl, gtrans HG1.out (gtrans HS.out.aw.sd.gr HG8.out)⟩
end Go.Proofs.YtpbiofnncdneoaaDoor
