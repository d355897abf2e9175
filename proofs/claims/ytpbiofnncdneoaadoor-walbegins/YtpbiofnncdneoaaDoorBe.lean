/- WalBegins' walk. -/
import Derived.Test.YtpbiofnncdneoaaDoorWl
namespace Go.Proofs.YtpbiofnncdneoaaDoor
open Go Go.RowKit Go.MapKept Go.MuLone
open Go.RowKit (wrap32 wrap64)

set_option maxRecDepth 100000 in
set_option maxHeartbeats 16000000 in
theorem begins_walk (w : World) (F : Nat → Prop) (a : Option Addr) (g off nb c : Nat) (bs : List (List UInt8)) (hA : RowS w F a g off bs) (hF : ∀ k, F k → k < w.heap.size) (hnb : bs.length = nb) (hrl : ∀ r ∈ bs, r.length ≤ 140737488355328) (hT : Tab w) :
    Calls Tryd.prog 4 #[.slice a nb c] w fun e w' => e = .returned (.bool true) ∧ w.grownBy w' none := by
  have HA := hid hA
  have HF := hid hF
  have HNb := hid hnb
  have HRl := hid hrl
  have HT1 := hid hT
  have HNw : Hid (Calls Tryd.prog 8 #[.int .i64 4194304] w fun e w' => ∃ b P, e = .returned (.tuple #[.pointer (some ⟨b, 0, none⟩), .int .i64 0]) ∧ Sd w w' b (Ab.new (4194304 : Nat)) P) := hid (sd_new w 4194304 (by omega) (by omega))
  have HWk : Hid (∀ u, w.grownBy u none → Calls Tryd.prog 10 #[] u fun e w' => e = .returned (.bool true) ∧ u.grownBy w' none) := hid (fun u hu => works_any u (hT.keep hu))
  have HOp : Hid (∀ u b P, Sd w u b (Ab.new (4194304 : Nat)) P → Calls Tryd.prog 11 #[.pointer (some ⟨b, 0, none⟩), .string ⟨#[120]⟩] u fun e u' => ∃ lb a c, e = .returned (.tuple #[.pointer (some ⟨lb, 0, none⟩), .slice a 0 c, .int .i64 0]) ∧ Sd w u' b (Ab.new (4194304 : Nat)) P ∧ LgP w u' lb b ⟨#[120]⟩ 0 false P) := hid (fun u b P h => by
    refine (sd_whole (rs := []) h hT (by decide) (fil_on rfl good_x rfl (fun r hr => by cases hr) (by decide) tl_nil)).mono fun e u' ⟨lb, v, q1, q2, q3, q4, q5⟩ => ?_
    obtain ⟨a, c, rfl⟩ := q2.len
    exact ⟨lb, a, c, q1, q3, q4⟩)
  clear hA hF hnb hrl hT
  go_enter Tryd.func4, Tryd.ntmps4
  go_upto_region 7 with (first
    | (go_at_call 11; (with_reducible refine (HOp.out _ _ _ HD1'.out).mono ?_); rintro e w3 ⟨lb, a2, c2, rfl, hd, hl⟩; have HD3 := hid hd; have HL3 := hid hl; clear hd hl)
    | (go_at_call 10; (with_reducible refine (HWk.out _ HD1.out.gr).mono ?_); rintro e w2' ⟨rfl, hg⟩; have HD1' := hid (HD1.out.keep hg); clear hg)
    | (go_at_call 9; (with_reducible refine (num_any _ _).mono ?_); rintro e wn ⟨rfl, hwn⟩; have hwn' := hwn.symm; clear hwn; subst hwn')
    | (go_at_call 8; (with_reducible refine HNw.out.mono ?_); rintro e w2 ⟨b, P1, rfl, hd⟩; have HD1 := hid hd; clear hd))
  clear HNw HOp HWk HD1 HD1'
  go_upto_block 0 with fail
  go_cut [8, 9, 10] from 50 to 84 (fun s8 s9 s10 wc => Hid (∃ A P ks, Sd w wc b A P ∧ Lgd A ⟨#[120]⟩ ⟨#[120]⟩ ⟨#[121]⟩ 4194304 4000 ks [] ∧ A.off = false ∧ OutW w.heap.size wc s9 ks ∧ ks.length ≤ 12))
  case first =>
    as_aux_lemma =>
    go_wp2_with fail
    go_loopw [10, 8, 9] (fun iv sv wv wr => ∃ (i z : Nat), iv = .int .i64 i ∧ sv = .int .i64 z ∧ i ≤ nb ∧ i ≤ 12 ∧ z ≤ 3000 ∧ Hid (∃ A P, Sd w wr b A P ∧ Lgd A ⟨#[120]⟩ ⟨#[120]⟩ ⟨#[121]⟩ 4194304 (z + 13 * i) (bs.take i) [] ∧ A.off = false ∧ A.ar = 0 ∧ A.wr ≤ i ∧ LgP w wr lb b ⟨#[120]⟩ (flen (bs.take i)) false P ∧ OutW w.heap.size wr wv (bs.take i) ∧ (∀ k, wv.ownBlock = some k → ¬ P k))) (fun iv _ _ _ => nb - (intOf iv).toNat)
    case atStart => exact ⟨0, 0, rfl, rfl, by omega, by omega, by omega, hid ⟨_, _, HD3.out, Lgd.new 4194304 ne_xy good_x, rfl, rfl, (by show (0 : Int) ≤ _; omega), HL3.out, OutW.nil _ _, (fun k hk => by cases hk)⟩⟩
    case round =>
      obtain ⟨wv, hwv⟩ : ∃ x : Value, x = u9 := ⟨_, rfl⟩
      rw [← hwv] at hrel ⊢
      clear hwv
      obtain ⟨i, z, rfl, rfl, hi, hi2, hz, HR⟩ := hrel
      obtain ⟨w0, hw0⟩ : ∃ x : World, x = wr := ⟨_, rfl⟩
      rw [← hw0] at HR ⊢
      clear hw0 HD3 HL3
      obtain ⟨A, P, hsd, hlg, h0, har, hwr, hlp, how, hap⟩ := HR.out
      have HSD := hid hsd
      have HLG := hid hlg
      have HA0 := hid (And.intro h0 (And.intro har hwr))
      have HLP := hid hlp
      have HOW := hid how
      have HAP := hid hap
      clear hsd hlg h0 har hwr hlp HR how hap
      have HTl : Hid ((bs.take i).length = i) := hid (by rw [List.length_take, HNb.out]; omega)
      have HMeet : Hid (Hid (∃ A P ks, Sd w w0 b A P ∧ Lgd A ⟨#[120]⟩ ⟨#[120]⟩ ⟨#[121]⟩ 4194304 4000 ks [] ∧ A.off = false ∧ OutW w.heap.size w0 wv ks ∧ ks.length ≤ 12)) := hid (hid ⟨A, P, bs.take i, HSD.out, ⟨HLG.out.live.le (by omega), HLG.out.nm, HLG.out.good, HLG.out.old, HLG.out.tl, HLG.out.each, HLG.out.num⟩, HA0.out.1, HOW.out, by rw [HTl.out]; omega⟩)
      by_cases hlt : i < nb
      · have hlt' : (i : Int) < (nb : Int) := by omega
        by_cases h2 : i < 12
        · as_aux_lemma =>
          have h2' : (i : Int) < 12 := by omega
          obtain ⟨rfl, -, -⟩ := HA.out.at_ (by rw [HNb.out]; omega)
          have hib : i < bs.length := by rw [HNb.out]; exact hlt
          obtain ⟨l, HL⟩ : ∃ l, Hid (∀ h : i < bs.length, bs[i]'h = l) := ⟨bs[i], hid (fun _ => rfl)⟩
          have HLm : Hid (l.length ≤ 140737488355328) := hid (by rw [← HL.out hib]; exact HRl.out _ (List.getElem_mem _))
          have HLt : Hid (bs.take (i + 1) = bs.take i ++ [l]) := hid (by rw [List.take_succ_eq_append_getElem hib, HL.out hib])
          obtain ⟨x0, hx1, hx2⟩ := HA.out.each i hib
          rw [HL.out hib] at hx2
          have hgl := (HA.out.at_ (by rw [HNb.out]; omega)).2.1
          have HX2 := hid hx2
          obtain ⟨ra, rb, ro, rc, rfl, -⟩ := hx2
          obtain ⟨rn, hrn⟩ : ∃ x, l.length = x := ⟨_, rfl⟩
          rw [hrn] at hx1 HX2 HLm
          have HRn := hid hrn
          have HCr : Hid (∀ u, w.grownBy u none → u.cell? ⟨g, off + i, none⟩ = some (.slice ra rn rc)) := hid (fun u hu => (cell_at hu hgl (by simp)).trans hx1)
          have kr := HCr.out w0 HSD.out.gr
          have hrl := HLm.out
          clear hx1 hrn hgl hib
          go_upto_region 13 with fail
          obtain ⟨y, hy⟩ : ∃ y : Nat, z + rn = y := ⟨_, rfl⟩
          have hwr : (z : Int) + (rn : Int) = (y : Int) := by omega
          rw [hwr]
          have HY := hid hy
          clear hwr hy hrl
          by_cases hbr : 3000 < y
          · as_aux_lemma =>
            have hbr' : (3000 : Int) < (y : Int) := by omega
            go_wp2_with fail
            go_meet
            case rel => exact HMeet.out
          have hbr' : ¬ (3000 : Int) < (y : Int) := by omega
          have HCp : Hid (Calls Tryd.prog 16 #[.slice ra rn rc] w0 fun e w' => ∃ v', e = .returned v' ∧ Out w0.heap.size w' v' l ∧ w0.grownBy w' none) := hid (copyR_any w0 _ _ l (HX2.out.keep HSD.out.gr) (by have := HRn.out; have := HY.out; omega))
          obtain ⟨q1, q2, q3, q4, q5, q6, q7⟩ := HLG.out.app (l := l) HA0.out.1 (by rw [HA0.out.2.1]; decide) (by have := HRn.out; have := HY.out; omega) (by have := HRn.out; have := HY.out; omega) (by rw [HTl.out]; omega)
          obtain ⟨A', HA'⟩ : ∃ x, Hid (A.app ⟨#[120]⟩ (frameL l) = x) := ⟨_, hid rfl⟩
          rw [HA'.out, ← HLt.out] at q2
          rw [HA'.out] at q3 q4 q5
          have HQ : Hid (Lgd A' ⟨#[120]⟩ ⟨#[120]⟩ ⟨#[121]⟩ 4194304 (y + 13 * (i + 1)) (bs.take (i + 1)) [] ∧ A'.off = false ∧ A'.ar = 0 ∧ A'.wr ≤ ((i + 1 : Nat) : Int)) := hid ⟨by have e : z + 13 * i + (l.length + 13) = y + 13 * (i + 1) := (by have := HRn.out; have := HY.out; omega); rw [← e]; exact q2, q3, by rw [q4, HA0.out.2.1]; rfl, by rw [q5]; have := HA0.out.2.2; omega⟩
          have HAp : Hid (∀ u x B', w0.grownBy u none → Out B' u x l → Calls Tryd.prog 15 #[.pointer (some ⟨lb, 0, none⟩), x] u fun e u' => ∃ P', e = .returned (.int .i64 0) ∧ Sd w u' b A' P' ∧ LgP w u' lb b ⟨#[120]⟩ (flen (bs.take (i + 1))) false P' ∧ OutW w.heap.size u' wv (bs.take i) ∧ (∀ k, wv.ownBlock = some k → ¬ P' k)) := hid (fun u x B' hu ho => by
            have hfz : flen (bs.take i) ≤ 1099511627776 := by
              have h1 := HLG.out.old
              have h2 := get_used A.C ⟨#[120]⟩
              have h3 := HLG.out.live.used
              have h4 : (A.old ⟨#[120]⟩).length = flen (bs.take i) := by rw [h1, List.append_nil]; rfl
              unfold Ab.old at h4
              omega
            have h := ts_app (HSD.out.keep hu) (HLP.out.keep hu) (HOW.out.keep hu) HAP.out HT1.out (by have := HA0.out.2.2; omega) hfz _ x l ho.rd (by have := HRn.out; have := HY.out; omega)
            unfold lgZ at h
            rw [q1, HA'.out] at h
            have eF : flen (bs.take (i + 1)) = flen (bs.take i) + (l.length + 13) := by rw [HLt.out]; unfold flen; rw [flat_app, List.length_append, flat_one, frameL_length]
            exact h.mono fun e u' ⟨P', h1, h2, h3, h4, h5⟩ => ⟨P', h1, h2, by rw [eF]; exact h3, h4, h5⟩)
          clear q1 q2 q3 q4 q5 q6 q7
          go_upto_region 16 with (first
            | (go_at_call 15; (with_reducible refine (HAp.out _ _ _ HG6.out HO6.out).mono ?_); rintro e w7 ⟨P7, rfl, hd, hl, ho, hp⟩; have HD7 := hid hd; have HL7 := hid hl; have HO7 := hid ho; have HP7 := hid hp; clear hd hl ho hp)
            | (go_at_call 16; (with_reducible refine HCp.out.mono ?_); rintro e w6 ⟨v6, rfl, ho, hg⟩; have HO6 := hid ho; have HG6 := hid hg; clear ho hg)
            | (go_at_call 9; (with_reducible refine (num_any _ _).mono ?_); rintro e wn ⟨rfl, hwn⟩; have hwn' := hwn.symm; clear hwn; subst hwn'))
          have kr7 := HCr.out w7 HD7.out.gr
          have HBk := hid (Blk.new w7 [Value.slice ra rn rc] 36)
          have HOw : Hid (OutW w.heap.size (w7.alloc (.cells #[Value.slice ra rn rc] 36)) wv (bs.take i)) := hid (HO7.out.keep (galloc _ _ _))
          have HRw : Hid (Rd (w7.alloc (.cells #[Value.slice ra rn rc] 36)) (fun k => k < w.heap.size) (.slice ra rn rc) l) := hid ((HX2.out.keep (gtrans HD7.out.gr (galloc _ _ _))).wide (fun k hk => HF.out k hk))
          have HCs : Hid (w.heap.size ≤ (w7.alloc (.cells #[Value.slice ra rn rc] 36)).heap.size) := hid (gtrans HD7.out.gr (galloc _ _ none)).size
          have HWm : Hid ((bs.take i).length ≤ 1000000) := hid (by rw [HTl.out]; omega)
          go_wp2_with (at_builtin; refine wpList_append_want rfl _ _ rfl w.heap.size _ (bs.take i) _ l HOw.out rfl HBk.out HRw.out HWm.out HCs.out ?_; intro v9 w9 hO9 hg9 hb9; have HO9 := hid hO9; have HG9 := hid hg9; have HB9 := hid hb9; clear hO9 hg9 hb9)
          go_roundw
          case rel =>
            have q := ts_row HD7.out HO7.out HP7.out HG9.out HB9.out
            exact ⟨i + 1, y, by go_num, rfl, by omega, by omega, by omega, hid ⟨A', P7, q.1, HQ.out.1, HQ.out.2.1, HQ.out.2.2.1, HQ.out.2.2.2, q.2.2 HL7.out, by rw [HLt.out]; exact HO9.out, q.2.1⟩⟩
          case measure => simp [intOf]; omega
        · as_aux_lemma =>
          have h2' : ¬ (i : Int) < 12 := by omega
          go_wp2_with fail
          go_meet
          case rel => exact HMeet.out
      · as_aux_lemma =>
        have hlt' : ¬ (i : Int) < (nb : Int) := by omega
        go_wp2_with fail
        go_meet
        case rel => exact HMeet.out
  case rest =>
    obtain ⟨A, P, ks, hsd, hlg, h0, how, hkl⟩ := hcut.out
    obtain ⟨ka, kg, kc, hkv, hkr⟩ := how.row
    subst hkv
    obtain ⟨kl, hkl1⟩ : ∃ x, ks.length = x := ⟨_, rfl⟩
    rw [hkl1] at how ⊢
    have HCap : Hid (kl ≤ kc) := hid (by
      obtain ⟨vs, q, -⟩ := how.ex
      rcases q.2 with ⟨e1, e2⟩ | ⟨g', cap, cur, e1, hB', hg', hle, _⟩
      · injection e1 with _ e1 _
        omega
      · injection e1 with _ e1 e3
        omega)
    have HSD := hid hsd
    have HEach := hid hlg.each
    have HKl : Hid (ks.length = kl ∧ kl ≤ 12) := hid ⟨hkl1, by omega⟩
    have HKR := hid hkr
    have HOld : Hid (A.old ⟨#[120]⟩ = flat ks) := hid (by have := hlg.old; rw [List.append_nil] at this; exact this)
    have HFle : Hid (flen ks ≤ 4000) := hid (by
      have h2 := get_used A.C ⟨#[120]⟩
      have h3 := hlg.live.used
      have h4 : (A.old ⟨#[120]⟩).length = flen ks := by rw [HOld.out]; rfl
      unfold Ab.old at h4
      omega)
    have HFn := hid (fnd_on h0 hlg.good)
    have HRd := hid (read_p hsd.dk ⟨#[120]⟩)
    rw [HFn.out.1, HOld.out] at HRd
    obtain ⟨E, HE⟩ : ∃ x, Hid (A.fndE ⟨#[120]⟩ = x) := ⟨_, hid rfl⟩
    rw [HE.out] at HRd
    have HEE : Hid (E = 0 ∨ (E = 92 ∧ kl = 0)) := hid (by
      rcases HFn.out.2 with q | q
      · exact .inl (by rw [← HE.out]; exact q)
      · refine .inr ⟨by rw [← HE.out]; exact q, ?_⟩
        have e1 := HFn.out.1
        have e2 : A.fndB ⟨#[120]⟩ = [] := by unfold Ab.fndB; rw [if_neg (by rw [q]; decide)]
        rw [e2, HOld.out] at e1
        have e3 := congrArg List.length e1
        cases ks with
        | nil => rw [← hkl1]; rfl
        | cons r ks => change 0 = (frameL r ++ flat ks).length at e3; rw [List.length_append, frameL_length] at e3; omega)
    clear hsd hlg h0 how hkl hkr hcut HD3 HL3 hkl1 HE HFn HOld
    obtain ⟨fl, HFl⟩ : ∃ x, Hid (flen ks = x) := ⟨_, hid rfl⟩
    have HFL : Hid ((flat ks).length = fl) := hid HFl.out
    have HSz : Hid (∀ u r m, m ≤ kl → RowS u (fun _ => True) ka kg 0 (ks.take m) → Calls Tryd.prog 20 #[.slice ka m r] u fun e u' => e = .returned (.int .i64 (flen (ks.take m) : Nat)) ∧ u' = u) := hid (fun u r m hm h => by
      have hl : (ks.take m).length = m := by rw [List.length_take, HKl.out.1]; omega
      have q := rsize_any u _ ka kg 0 r (ks.take m) h (by rw [hl]; have := HKl.out.2; omega) (by have := flen_le ks m; have := HFle.out; omega)
      rw [hl] at q
      exact q)
    have HKm : Hid (∀ u m, w.grownBy u none → wc.grownBy u none → RowS u (fun _ => True) ka kg 0 (ks.take m)) := hid (fun u m _ hu => (HKR.out.keep hu).take m)
    have HS0 : Hid (∀ u, wc.grownBy u none → Calls Tryd.prog 20 #[.slice ka kl kc] u fun e u' => e = .returned (.int .i64 (fl : Nat)) ∧ u' = u) := hid (fun u hu => by
      have q := HSz.out u kc kl (Nat.le_refl _) ((HKR.out.keep hu).take kl)
      rw [List.take_of_length_le (by rw [HKl.out.1]; exact Nat.le_refl _), HFl.out] at q
      exact q)
    go_upto_region 18 with (go_at_call 21; (with_reducible refine HRd.out.mono ?_); rintro e w5 ⟨v5, rfl, ho, hg⟩; obtain ⟨va, vc, hv⟩ := ho.len; rw [HFL.out] at hv; subst hv; have HO5 := hid ho; have HG5 := hid hg; clear ho hg)
    have HVc : Hid (fl ≤ vc) := hid (by obtain ⟨_, _, _, _, e, hc, _⟩ := HO5.out.rd; injection e with _ e1 e2; rw [HFL.out] at hc; omega)
    have hE2 : (E = 0 ∨ (E = 92 ∧ kl = 0)) := HEE.out
    have hflb := HFle.out
    go_cut [104] from 22 to 103 (fun p wd => p = .bool false ∧ w5 = wd)
    case first =>
      as_aux_lemma =>
      rcases hE2 with rfl | ⟨rfl, rfl⟩
      · go_wp2_with (first
          | (go_at_call 20; (with_reducible refine (HS0.out _ HG5.out).mono ?_); rintro e w6 ⟨rfl, hw6⟩; have hw6' := hw6.symm; clear hw6; subst hw6')
          | (go_at_call 9; (with_reducible refine (num_any _ _).mono ?_); rintro e wn ⟨rfl, hwn⟩; have hwn' := hwn.symm; clear hwn; subst hwn'))
        go_meet
        case rel => exact ⟨rfl, rfl⟩
      · go_wp2_with (first
          | (go_at_call 20; (with_reducible refine (HS0.out _ HG5.out).mono ?_); rintro e w6 ⟨rfl, hw6⟩; have hw6' := hw6.symm; clear hw6; subst hw6')
          | (go_at_call 9; (with_reducible refine (num_any _ _).mono ?_); rintro e wn ⟨rfl, hwn⟩; have hwn' := hwn.symm; clear hwn; subst hwn'))
        go_meet
        case rel => exact ⟨rfl, rfl⟩
    case rest =>
      as_aux_lemma =>
      obtain ⟨hp, hw⟩ := hcut
      subst hp
      subst hw
      go_wp2_with fail
      go_loopw [13, 14, 15, 16, 17, 18, 19, 20, 21] (fun kv _ _ _ _ _ _ _ _ wr => ∃ k : Nat, kv = .int .i64 k ∧ k ≤ fl + 1 ∧ Hid (w5.grownBy wr none)) (fun kv _ _ _ _ _ _ _ _ _ => fl + 1 - (intOf kv).toNat)
      case atStart => exact ⟨0, rfl, by omega, hid (grefl _ _)⟩
      case round =>
        obtain ⟨k, rfl, hk, HGk⟩ := hrel
        obtain ⟨w0, hw0⟩ : ∃ x : World, x = wr := ⟨_, rfl⟩
        rw [← hw0] at HGk ⊢
        clear hw0
        by_cases hkf : k ≤ fl
        · have hkf' : (k : Int) ≤ (fl : Int) := by omega
          have HG0 : Hid (wc.grownBy w0 none) := hid (gtrans HG5.out HGk.out)
          go_upto_block 4 with fail
          go_cut [14] from 111 to 125 (fun s14 wd => ∃ m : Nat, s14 = .int .i64 m ∧ m ≤ kl ∧ w0 = wd ∧ Hid (flen (ks.take m) ≤ k ∧ (m = kl ∨ k < flen (ks.take (m + 1)))))
          case first =>
            as_aux_lemma =>
            go_wp2_with fail
            go_loopw [14] (fun nv wr => ∃ m : Nat, nv = .int .i64 m ∧ m ≤ kl ∧ w0 = wr ∧ Hid (flen (ks.take m) ≤ k)) (fun nv _ => kl - (intOf nv).toNat)
            case atStart => exact ⟨0, rfl, by omega, rfl, hid (by simp [flen, flat])⟩
            case round =>
              obtain ⟨m, rfl, hm, hwr, HM⟩ := hrel
              subst hwr
              have hm12 : m ≤ 12 := by have := HKl.out.2; omega
              by_cases hmk : m < kl
              · have hmk' : (m : Int) < (kl : Int) := by omega
                obtain ⟨fz, HFz⟩ : ∃ x, Hid (flen (ks.take (m + 1)) = x) := ⟨_, hid rfl⟩
                have HSm := hid (HSz.out w0 kc (m + 1) (by omega) (HKm.out w0 (m + 1) (gtrans HSD.out.gr HG0.out) HG0.out))
                rw [HFz.out] at HSm
                have hcap : m + 1 ≤ kc := by have := HCap.out; omega
                have hcap' : (m : Int) + 1 ≤ (kc : Int) := by omega
                by_cases hfk : fz ≤ k
                · as_aux_lemma =>
                  have hfk' : (fz : Int) ≤ (k : Int) := by omega
                  go_wp2_with (go_at_call 20; (with_reducible refine HSm.out.mono ?_); rintro e w6 ⟨rfl, hw6⟩; have hw6' := hw6.symm; clear hw6; subst hw6')
                  go_roundw
                  case rel => exact ⟨m + 1, by go_num, by omega, by first | rfl | trivial, hid (by rw [HFz.out]; exact hfk)⟩
                  case measure => simp [intOf]; omega
                · as_aux_lemma =>
                  have hfk' : ¬ (fz : Int) ≤ (k : Int) := by omega
                  go_wp2_with (go_at_call 20; (with_reducible refine HSm.out.mono ?_); rintro e w6 ⟨rfl, hw6⟩; have hw6' := hw6.symm; clear hw6; subst hw6')
                  go_meet
                  case rel => exact ⟨m, rfl, hm, rfl, hid ⟨HM.out, .inr (by rw [HFz.out]; omega)⟩⟩
              · as_aux_lemma =>
                have hmk' : ¬ (m : Int) < (kl : Int) := by omega
                go_wp2_with fail
                go_meet
                case rel => exact ⟨m, rfl, hm, rfl, hid ⟨HM.out, .inl (by omega)⟩⟩
          case rest =>
            as_aux_lemma =>
            obtain ⟨m, hm0, hm, hw, HM⟩ := hcut
            subst hm0
            subst hw
            obtain ⟨t, hpt, htl⟩ := begin_parts ks HEach.out m k (by rw [HKl.out.1]; exact hm) HM.out.1 (by rw [HKl.out.1]; exact HM.out.2) (by rw [HFl.out]; exact hkf)
            obtain ⟨f', HF'⟩ : ∃ x, Hid ((flat ks).take k = x) := ⟨_, hid rfl⟩
            rw [HF'.out] at hpt
            have HPt := hid hpt
            have HTl := hid htl
            have HF'l : Hid (f'.length = k) := hid (by rw [← HF'.out, List.length_take, HFL.out]; omega)
            have hm12 : m ≤ 12 := by have := HKl.out.2; omega
            have hk4 : k ≤ 4000 := by have := HFle.out; have := HFl.out; omega
            have hkv : k ≤ vc := by have := HVc.out; omega
            have hkv' : (k : Int) ≤ (vc : Int) := by omega
            clear hpt htl HM
            have HRk : Hid (Rd w0 (fun _ => True) (.slice va k k) f') := hid (by rw [← HF'.out]; exact ((HO5.out.rd.keep HGk.out).first k (by rw [HFL.out]; exact hkf)).wide (fun _ _ => trivial))
            have HBf := hid (Blk.new w0 [.string ⟨#[120]⟩, .slice va k k] 47)
            have HLd : Hid (Calls Tryd.prog 22 #[.slice (some ⟨w0.heap.size, 0, none⟩) 1 1, .int .i64 4194304] (w0.alloc (.cells #[.string ⟨#[120]⟩, .slice va k k] 47)) fun e u' => ∃ b P, e = .returned (.tuple #[.pointer (some ⟨b, 0, none⟩), .int .i64 0]) ∧ Sd (w0.alloc (.cells #[.string ⟨#[120]⟩, .slice va k k] 47)) u' b ⟨(4194304 : Nat), false, 0, 0, 0, [(⟨#[120]⟩, f')]⟩ P) := hid (sd_load HRk.out HBf.out (galloc _ _ _) good_x 4194304 (by rw [HF'l.out]; have := HFle.out; have := HFl.out; omega) (by omega) (by omega))
            obtain ⟨wL, HwL⟩ : ∃ x, Hid (w0.alloc (.cells #[.string ⟨#[120]⟩, .slice va k k] 47) = x) := ⟨_, hid rfl⟩
            have hwL := HwL.out
            rw [HwL.out] at HLd
            have HGL : Hid (w0.grownBy wL none) := hid (by rw [← HwL.out]; exact galloc _ _ _)
            have HTL : Hid (Tab wL) := hid (HT1.out.keep (gtrans HSD.out.gr (gtrans HG0.out HGL.out)))
            obtain ⟨AC, HAC⟩ : ∃ x : Ab, Hid ((⟨(4194304 : Nat), false, 0, 0, 0, [(⟨#[120]⟩, f')]⟩ : Ab) = x) := ⟨_, hid rfl⟩
            rw [HAC.out] at HLd
            have HLc : Hid (Lgd AC ⟨#[120]⟩ ⟨#[120]⟩ ⟨#[121]⟩ 4194304 4000 (ks.take m) t ∧ AC.off = false ∧ AC.ar = 0 ∧ AC.wr = 0 ∧ (getC AC.C ⟨#[120]⟩).isSome = true) := hid (by
              rw [← HAC.out]
              refine ⟨⟨⟨ne_xy, rfl, ?_, ?_⟩, .inl rfl, good_x, ?_, HTl.out, fun r hr => HEach.out r (List.mem_of_mem_take hr), ?_⟩, rfl, rfl, rfl, ?_⟩
              · show usedC [(⟨#[120]⟩, f')] ≤ 4000
                simp [usedC]
                rw [HF'l.out]
                have := HFle.out
                have := HFl.out
                omega
              · show 1 ≤ cntN [(⟨#[120]⟩, f')] ⟨#[120]⟩ ⟨#[121]⟩
                unfold cntN getC
                rw [if_pos rfl]
                simp
              · show (getC [(⟨#[120]⟩, f')] ⟨#[120]⟩).getD [] = _
                unfold getC
                rw [if_pos rfl]
                exact HPt.out
              · rw [List.length_take, HKl.out.1]
                omega
              · show (getC [(⟨#[120]⟩, f')] ⟨#[120]⟩).isSome = true
                unfold getC
                rw [if_pos rfl]
                rfl)
            obtain ⟨fz, HFz⟩ : ∃ x, Hid (flen (ks.take m) = x) := ⟨_, hid rfl⟩
            have HTm : Hid ((ks.take m).length = m) := hid (by rw [List.length_take, HKl.out.1]; omega)
            have HOc : Hid (∀ u b P, Sd wL u b AC P → Calls Tryd.prog 11 #[.pointer (some ⟨b, 0, none⟩), .string ⟨#[120]⟩] u fun e u' => ∃ lb xa xg xc P' A', e = .returned (.tuple #[.pointer (some ⟨lb, 0, none⟩), .slice xa m xc, .int .i64 0]) ∧ RowS u' (fun _ => True) xa xg 0 (ks.take m) ∧ Sd wL u' b A' P' ∧ LgP wL u' lb b ⟨#[120]⟩ fz false P' ∧ A'.fndE ⟨#[120]⟩ = 0 ∧ (A'.fndB ⟨#[120]⟩).length = fz) := hid (fun u b P h => (lgd_open2 h HTL.out HLc.out.1 HLc.out.2.1 (by rw [HLc.out.2.2.1]; decide) (by decide) (by rw [HLc.out.2.2.2.1]; decide) HLc.out.2.2.2.2).mono fun e u' ⟨lb, v, P', A', q1, q2, q3, q4, q5, q6⟩ => by
              obtain ⟨xa, xg, xc, hv, hr⟩ := q2.row
              rw [HTm.out] at hv
              rw [HFz.out] at q4 q6
              exact ⟨lb, xa, xg, xc, P', A', by rw [q1, hv], hr.mono (fun _ _ => trivial), q3, q4, q5, q6⟩)
            have HSc : Hid (∀ u b P A', Sd wL u b A' P → A'.fndE ⟨#[120]⟩ = 0 → (A'.fndB ⟨#[120]⟩).length = fz → Calls Tryd.prog 23 #[.pointer (some ⟨b, 0, none⟩), .string ⟨#[120]⟩] u fun e u' => e = .returned (.tuple #[.int .i64 (fz : Nat), .int .i64 0]) ∧ u.grownBy u' none) := hid (fun u b P A' h h1 h2 => by have q := size_p h.dk ⟨#[120]⟩; rw [h1, h2] at q; exact q)
            have HRs : Hid (∀ u xa xg xc, RowS u (fun _ => True) xa xg 0 (ks.take m) → wc.grownBy u none → Calls Tryd.prog 18 #[.slice xa m xc, .slice ka m kc] u fun e u' => e = .returned (.bool true) ∧ u.grownBy u' none) := hid (fun u xa xg xc h hu => by
              have q := rows_same u _ _ xa ka xg 0 xc kg 0 kc (ks.take m) h ((HKR.out.keep hu).take m) (by rw [HTm.out]; omega)
              rw [HTm.out] at q
              exact q)
            have HSm : Hid (∀ u, wc.grownBy u none → Calls Tryd.prog 20 #[.slice ka m kc] u fun e u' => e = .returned (.int .i64 (fz : Nat)) ∧ u' = u) := hid (fun u hu => by have q := HSz.out u kc m hm ((HKR.out.keep hu).take m); rw [HFz.out] at q; exact q)
            have hcap : m ≤ kc := by have := HCap.out; omega
            have hcap' : (m : Int) ≤ (kc : Int) := by omega
            have HGw : Hid (wc.grownBy wL none) := hid (gtrans HG0.out HGL.out)
            go_wp2_with (first
              | (with_reducible refine wpList_build_of (by with_unfolding_all rfl) 47 _ (by with_unfolding_all rfl) [(0, .string ⟨#[120]⟩), (1, .slice va k k)] (by with_unfolding_all rfl) [.string ⟨#[120]⟩, .slice va k k] (built47 _ _ _ _) ?_)
              | (go_at_call 19; (with_reducible refine (lsize_any HL13.out.lg).mono ?_); rintro e w14 ⟨rfl, hw14⟩; have hw14' := hw14.symm; clear hw14; subst hw14')
              | (go_at_call 20; (with_reducible refine (HSm.out _ HG13.out).mono ?_); rintro e w14 ⟨rfl, hw14⟩; have hw14' := hw14.symm; clear hw14; subst hw14')
              | (go_at_call 18; (with_reducible refine (HRs.out _ _ _ _ HR12.out HG12.out).mono ?_); rintro e w13 ⟨rfl, hg⟩; have HGz := hid (gtrans HD12.out hg); have HL13 := hid (HL12.out.keep hg); have HG13 := hid (gtrans HG12.out hg); clear hg)
              | (go_at_call 23; (with_reducible refine (HSc.out _ _ _ _ HD11.out HQ11.out.1 HQ11.out.2).mono ?_); rintro e w12 ⟨rfl, hg⟩; have HR12 := hid (HR11.out.keep hg); have HL12 := hid (HL11.out.keep hg); have HG12 := hid (gtrans HGw.out (gtrans HD11.out.gr hg)); have HD12 := hid (gtrans HD11.out.gr hg); clear hg)
              | (go_at_call 11; (with_reducible refine (HOc.out _ _ _ HD10.out).mono ?_); rintro e w11 ⟨lb2, xa, xg, xc, P2, A2, rfl, hr, hd, hl, h1, h2⟩; have HR11 := hid hr; have HD11 := hid hd; have HL11 := hid hl; have HQ11 := hid (And.intro h1 h2); clear hr hd hl h1 h2)
              | (go_at_call 22; (with_reducible refine HLd.out.mono ?_); rintro e w10 ⟨bc, PC, rfl, hd⟩; have HD10 := hid hd; clear hd)
              | (go_at_call 9; (with_reducible refine (num_any _ _).mono ?_); rintro e wn ⟨rfl, hwn⟩; have hwn' := hwn.symm; clear hwn; subst hwn'))
            go_roundw
            case rel => exact ⟨k + 1, by go_num, by omega, hid (gtrans HGk.out (gtrans HGL.out (HGz.out)))⟩
            case measure => simp [intOf]; omega
        · as_aux_lemma =>
          have hkf' : ¬ (k : Int) ≤ (fl : Int) := by omega
          go_wp2_with fail
          go_ret
          exact ⟨rfl, gtrans HSD.out.gr (gtrans HG5.out HGk.out)⟩
end Go.Proofs.YtpbiofnncdneoaaDoor
