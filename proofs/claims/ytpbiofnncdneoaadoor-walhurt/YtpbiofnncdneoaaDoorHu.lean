/- WalHurt's walk. -/
import Derived.Test.YtpbiofnncdneoaaDoorWk
namespace Go.Proofs.YtpbiofnncdneoaaDoor
open Go Go.RowKit Go.MapKept Go.MuLone
open Go.RowKit (wrap32 wrap64)

set_option maxRecDepth 100000 in
set_option maxHeartbeats 16000000 in
theorem hurt_walk (w : World) (F : Nat → Prop) (a : Option Addr) (g off nb c : Nat) (At By : Int) (bs : List (List UInt8)) (hA : RowS w F a g off bs) (hF : ∀ k, F k → k < w.heap.size) (hnb : bs.length = nb) (hrl : ∀ r ∈ bs, r.length ≤ 140737488355328) (hT : Tab w) :
    Calls Tryd.prog 6 #[.agg [.slice a nb c, Value.int .i64 At, .int .i64 By].toArray] w fun e w' => e = .returned (.bool true) ∧ w.grownBy w' none := by
  have HA := hid hA
  have HF := hid hF
  have HNb := hid hnb
  have HRl := hid hrl
  have HTw := hid hT
  clear hA hF hnb hrl hT
  go_enter Tryd.func6, Tryd.ntmps6
  go_upto_region 1 with ((with_reducible refine wpList_box_row (by with_unfolding_all rfl) 55 _ (by with_unfolding_all rfl) [.slice a nb c, Value.int .i64 At, .int .i64 By] (by with_unfolding_all rfl) ?_); intro w1 B1 s1 g1; have HB1 := hid B1; have HG1 := hid g1; have HS1 := hid s1; clear B1 s1 g1)
  obtain ⟨p1, hp1⟩ : ∃ x, w.heap.size = x := ⟨_, rfl⟩
  rw [hp1] at HB1 ⊢
  have HT1 : Hid (Tab w1) := hid (HTw.out.keep HG1.out)
  have HNw : Hid (Calls Tryd.prog 8 #[.int .i64 4194304] w1 fun e w' => ∃ b P, e = .returned (.tuple #[.pointer (some ⟨b, 0, none⟩), .int .i64 0]) ∧ Sd w1 w' b (Ab.new (4194304 : Nat)) P) := hid (sd_new w1 4194304 (by omega) (by omega))
  have HWk : Hid (∀ u, w1.grownBy u none → Calls Tryd.prog 10 #[] u fun e w' => e = .returned (.bool true) ∧ u.grownBy w' none) := hid (fun u hu => works_any u (HT1.out.keep hu))
  have HOp : Hid (∀ u b P, Sd w1 u b (Ab.new (4194304 : Nat)) P → Calls Tryd.prog 11 #[.pointer (some ⟨b, 0, none⟩), .string ⟨#[120]⟩] u fun e u' => ∃ lb a c, e = .returned (.tuple #[.pointer (some ⟨lb, 0, none⟩), .slice a 0 c, .int .i64 0]) ∧ Sd w1 u' b (Ab.new (4194304 : Nat)) P ∧ LgP w1 u' lb b ⟨#[120]⟩ 0 false P) := hid (fun u b P h => by
    refine (sd_whole (rs := []) h HT1.out (by decide) (fil_on rfl good_x rfl (fun r hr => by cases hr) (by decide) tl_nil)).mono fun e u' ⟨lb, v, q1, q2, q3, q4, q5⟩ => ?_
    obtain ⟨a, c, rfl⟩ := q2.len
    exact ⟨lb, a, c, q1, q3, q4⟩)
  have HCell : Hid (∀ u, w1.grownBy u none → Blk u p1 [.slice a nb c, Value.int .i64 At, .int .i64 By] 55) := hid (fun u hu => HB1.out.keep hu)
  clear hp1 HB1
  go_upto_region 7 with (first
    | (go_at_call 11; (with_reducible refine (HOp.out _ _ _ HD1'.out).mono ?_); rintro e w3 ⟨lb, a2, c2, rfl, hd, hl⟩; have HD3 := hid hd; have HL3 := hid hl; clear hd hl)
    | (go_at_call 10; (with_reducible refine (HWk.out _ HD1.out.gr).mono ?_); rintro e w2' ⟨rfl, hg⟩; have HD1' := hid (HD1.out.keep hg); clear hg)
    | (go_at_call 9; (with_reducible refine (num_any _ _).mono ?_); rintro e wn ⟨rfl, hwn⟩; have hwn' := hwn.symm; clear hwn; subst hwn')
    | (go_at_call 8; (with_reducible refine HNw.out.mono ?_); rintro e w2 ⟨b, P1, rfl, hd⟩; have HD1 := hid hd; clear hd))
  clear HNw HOp HWk HD1 HD1'
  go_upto_block 0 with fail
  go_cut [8, 9] from 48 to 78 (fun s8 s9 wc => Hid (∃ A P ws, Sd w1 wc b A P ∧ Lgd A ⟨#[120]⟩ ⟨#[120]⟩ ⟨#[121]⟩ 4194304 600000 ws [] ∧ A.off = false ∧ ws.length ≤ 60 ∧ (ws = [] → nb = 0 ∨ ∃ h : 0 < bs.length, 524288 < (bs[0]).length)))
  case first =>
    as_aux_lemma =>
    go_wp2_with fail
    go_loopw [9, 8] (fun iv sv wr => ∃ (i z : Nat), iv = .int .i64 i ∧ sv = .int .i64 z ∧ i ≤ nb ∧ i ≤ 60 ∧ z ≤ 524288 ∧ (i = 0 → z = 0) ∧ Hid (∃ A P, Sd w1 wr b A P ∧ Lgd A ⟨#[120]⟩ ⟨#[120]⟩ ⟨#[121]⟩ 4194304 (z + 13 * i) (bs.take i) [] ∧ A.off = false ∧ A.ar = 0 ∧ A.wr ≤ i ∧ LgP w1 wr lb b ⟨#[120]⟩ (flen (bs.take i)) false P)) (fun iv _ _ => nb - (intOf iv).toNat)
    case atStart => exact ⟨0, 0, rfl, rfl, by omega, by omega, by omega, fun _ => rfl, hid ⟨_, _, HD3.out, Lgd.new 4194304 ne_xy good_x, rfl, rfl, (by show (0 : Int) ≤ _; omega), HL3.out⟩⟩
    case round =>
      obtain ⟨i, z, rfl, rfl, hi, hi2, hz, hiz, HR⟩ := hrel
      obtain ⟨w0, hw0⟩ : ∃ x : World, x = wr := ⟨_, rfl⟩
      rw [← hw0] at HR ⊢
      have HIz := hid hiz
      clear hw0 hiz HD3 HL3
      obtain ⟨A, P, hsd, hlg, h0, har, hwr, hlp⟩ := HR.out
      have HSD := hid hsd
      have HLG := hid hlg
      have HA0 := hid (And.intro h0 (And.intro har hwr))
      have HLP := hid hlp
      clear hsd hlg h0 har hwr hlp HR
      have HTl : Hid ((bs.take i).length = i) := hid (by rw [List.length_take, HNb.out]; omega)
      have k0 : w0.cell? ⟨p1, 0, none⟩ = some (.slice a nb c) := (HCell.out w0 HSD.out.gr).cell 0
      by_cases hlt : i < nb
      · have hlt' : (i : Int) < (nb : Int) := by omega
        by_cases h2 : i < 60
        · as_aux_lemma =>
          have h2' : (i : Int) < 60 := by omega
          obtain ⟨rfl, -, -⟩ := HA.out.at_ (by rw [HNb.out]; omega)
          have hib : i < bs.length := by rw [HNb.out]; exact hlt
          obtain ⟨l, HL⟩ : ∃ l, Hid (∀ h : i < bs.length, bs[i]'h = l) := ⟨bs[i], hid (fun _ => rfl)⟩
          have HLm : Hid (l.length ≤ 140737488355328) := hid (by rw [← HL.out hib]; exact HRl.out _ (List.getElem_mem _))
          have HLt : Hid (bs.take (i + 1) = bs.take i ++ [l]) := hid (by rw [List.take_succ_eq_append_getElem hib, HL.out hib])
          obtain ⟨x0, hx1, hx2⟩ := HA.out.each i hib
          rw [HL.out hib] at hx2
          have hgl := (HA.out.at_ (by rw [HNb.out]; omega)).2.1
          have HX2 := hid hx2
          obtain ⟨ra, rb, ro, rc, rfl, -⟩ := hx2
          obtain ⟨rn, hrn⟩ : ∃ x, l.length = x := ⟨_, rfl⟩
          rw [hrn] at hx1 HX2 HLm
          have HRn := hid hrn
          have kr : w0.cell? ⟨g, off + i, none⟩ = some (.slice ra rn rc) := (cell_at (gtrans HG1.out HSD.out.gr) hgl (by simp)).trans hx1
          have hrl := HLm.out
          clear hx1 hrn hgl hib
          go_upto_region 12 with fail
          obtain ⟨y, hy⟩ : ∃ y : Nat, z + rn = y := ⟨_, rfl⟩
          have hwr : (z : Int) + (rn : Int) = (y : Int) := by omega
          rw [hwr]
          have HY := hid hy
          clear hwr hy hrl
          by_cases hbr : 524288 < y
          · as_aux_lemma =>
            have hbr' : (524288 : Int) < (y : Int) := by omega
            go_wp2_with fail
            go_meet
            case rel =>
              refine hid ⟨A, P, bs.take i, HSD.out, ⟨HLG.out.live.le (by omega), HLG.out.nm, HLG.out.good, HLG.out.old, HLG.out.tl, HLG.out.each, HLG.out.num⟩, HA0.out.1, by rw [HTl.out]; omega, fun e => .inr ?_⟩
              have h1 := HTl.out
              rw [e] at h1
              have hi0 : i = 0 := h1.symm
              have h3 := HIz.out hi0
              have h4 := HY.out
              have h5 := HRn.out
              have h6 := HL.out
              subst hi0
              exact ⟨by rw [HNb.out]; exact hlt, by rw [h6 (by rw [HNb.out]; exact hlt)]; omega⟩
          have hbr' : ¬ (524288 : Int) < (y : Int) := by omega
          have HCp : Hid (Calls Tryd.prog 16 #[.slice ra rn rc] w0 fun e w' => ∃ v', e = .returned v' ∧ Out w0.heap.size w' v' l ∧ w0.grownBy w' none) := hid (copyR_any w0 _ _ l (HX2.out.keep (gtrans HG1.out HSD.out.gr)) (by have := HRn.out; have := HY.out; omega))
          obtain ⟨q1, q2, q3, q4, q5, q6, q7⟩ := HLG.out.app (l := l) HA0.out.1 (by rw [HA0.out.2.1]; decide) (by have := HRn.out; have := HY.out; omega) (by have := HRn.out; have := HY.out; omega) (by rw [HTl.out]; omega)
          obtain ⟨A', HA'⟩ : ∃ x, Hid (A.app ⟨#[120]⟩ (frameL l) = x) := ⟨_, hid rfl⟩
          rw [HA'.out, ← HLt.out] at q2
          rw [HA'.out] at q3 q4 q5
          have HQ : Hid (Lgd A' ⟨#[120]⟩ ⟨#[120]⟩ ⟨#[121]⟩ 4194304 (y + 13 * (i + 1)) (bs.take (i + 1)) [] ∧ A'.off = false ∧ A'.ar = 0 ∧ A'.wr ≤ ((i + 1 : Nat) : Int)) := hid ⟨by have e : z + 13 * i + (l.length + 13) = y + 13 * (i + 1) := (by have := HRn.out; have := HY.out; omega); rw [← e]; exact q2, q3, by rw [q4, HA0.out.2.1]; rfl, by rw [q5]; have := HA0.out.2.2; omega⟩
          have HAp : Hid (∀ u x B', w0.grownBy u none → Out B' u x l → Calls Tryd.prog 15 #[.pointer (some ⟨lb, 0, none⟩), x] u fun e u' => ∃ P', e = .returned (.int .i64 0) ∧ Sd w1 u' b A' P' ∧ LgP w1 u' lb b ⟨#[120]⟩ (flen (bs.take (i + 1))) false P') := hid (fun u x B' hu ho => by
            have hfz : flen (bs.take i) ≤ 1099511627776 := by
              have h1 := HLG.out.old
              have h2 := get_used A.C ⟨#[120]⟩
              have h3 := HLG.out.live.used
              have h4 : (A.old ⟨#[120]⟩).length = flen (bs.take i) := by rw [h1, List.append_nil]; rfl
              unfold Ab.old at h4
              omega
            have h := sd_app (HSD.out.keep hu) (HLP.out.keep hu) HT1.out (by have := HA0.out.2.2; omega) hfz _ x l ho.rd (by have := HRn.out; have := HY.out; omega)
            unfold lgZ at h
            rw [q1, HA'.out] at h
            have eF : flen (bs.take (i + 1)) = flen (bs.take i) + (l.length + 13) := by rw [HLt.out]; unfold flen; rw [flat_app, List.length_append, flat_one, frameL_length]
            exact h.mono fun e u' ⟨P', h1, h2, h3, _⟩ => ⟨P', h1, h2, by rw [eF]; exact h3⟩)
          clear q1 q2 q3 q4 q5 q6 q7
          go_wp2_with (first
            | (go_at_call 15; (with_reducible refine (HAp.out _ _ _ HG6.out HO6.out).mono ?_); rintro e w7 ⟨P7, rfl, hd, hl⟩; have HD7 := hid hd; have HL7 := hid hl; clear hd hl)
            | (go_at_call 16; (with_reducible refine HCp.out.mono ?_); rintro e w6 ⟨v6, rfl, ho, hg⟩; have HO6 := hid ho; have HG6 := hid hg; clear ho hg)
            | (go_at_call 9; (with_reducible refine (num_any _ _).mono ?_); rintro e wn ⟨rfl, hwn⟩; have hwn' := hwn.symm; clear hwn; subst hwn'))
          go_roundw
          case rel => exact ⟨i + 1, y, by go_num, rfl, by omega, by omega, by omega, (fun h => absurd h (by omega)), hid ⟨A', P7, HD7.out, HQ.out.1, HQ.out.2.1, HQ.out.2.2.1, HQ.out.2.2.2, HL7.out⟩⟩
          case measure => simp [intOf]; omega
        · as_aux_lemma =>
          have h2' : ¬ (i : Int) < 60 := by omega
          go_wp2_with fail
          go_meet
          case rel => exact hid ⟨A, P, bs.take i, HSD.out, ⟨HLG.out.live.le (by omega), HLG.out.nm, HLG.out.good, HLG.out.old, HLG.out.tl, HLG.out.each, HLG.out.num⟩, HA0.out.1, by rw [HTl.out]; omega, fun e => absurd HTl.out (by rw [e]; simp; omega)⟩
      · as_aux_lemma =>
        have hlt' : ¬ (i : Int) < (nb : Int) := by omega
        go_wp2_with fail
        go_meet
        case rel => exact hid ⟨A, P, bs.take i, HSD.out, ⟨HLG.out.live.le (by omega), HLG.out.nm, HLG.out.good, HLG.out.old, HLG.out.tl, HLG.out.each, HLG.out.num⟩, HA0.out.1, by rw [HTl.out]; omega, fun e => .inl (by have := HTl.out; rw [e] at this; simp at this; omega)⟩
  case rest =>
    obtain ⟨A, P, ws, hsd, hlg, h0, hwl, hwz⟩ := hcut.out
    have HSD := hid hsd
    have HLG := hid hlg
    have H0 := hid h0
    have HWl := hid hwl
    have HWz := hid hwz
    clear hsd hlg h0 hwl hwz hcut HD3 HL3
    have HFn := hid (fnd_on H0.out HLG.out.good)
    have HRd := hid (read_p HSD.out.dk ⟨#[120]⟩)
    rw [HFn.out.1] at HRd
    have HOld : Hid (A.old ⟨#[120]⟩ = flat ws) := hid (by have := HLG.out.old; rw [List.append_nil] at this; exact this)
    rw [HOld.out] at HRd
    have kz : ∀ u, w1.grownBy u none → u.cell? ⟨p1, 0, none⟩ = some (.slice a nb c) := fun u hu => (HCell.out u hu).cell 0
    by_cases hws : ws = []
    · as_aux_lemma =>
      have HWn := hid (HWz.out hws)
      subst hws
      obtain ⟨E, HE⟩ : ∃ x, Hid (A.fndE ⟨#[120]⟩ = x) := ⟨_, hid rfl⟩
      have HEE : Hid (E = 0 ∨ E = 92) := hid (by rw [← HE.out]; exact HFn.out.2)
      rw [HE.out] at HRd
      have HKz := hid kz
      clear kz HE
      have HKr : Hid (0 < nb → ∃ ra rn rc, 524288 < rn ∧ a = some ⟨g, off, none⟩ ∧ ∀ u, w1.grownBy u none → u.cell? ⟨g, off, none⟩ = some (.slice ra rn rc)) := hid (fun hnb => by
        rcases HWn.out with q | ⟨h1, h2⟩
        · omega
        · obtain ⟨x0, hx1, hx2⟩ := HA.out.each 0 h1
          obtain ⟨e1, e2, _⟩ := HA.out.at_ h1
          obtain ⟨ra, rb, ro, rc, rfl, -⟩ := hx2
          exact ⟨ra, _, rc, h2, e1, fun u hu => (cell_at (gtrans HG1.out hu) e2 (by simp)).trans hx1⟩)
      rcases HEE.out with rfl | rfl
      · as_aux_lemma =>
        go_upto_region 17 with (first
          | (go_at_call 21; (with_reducible refine HRd.out.mono ?_); rintro e w5 ⟨v5, rfl, ho, hg⟩; obtain ⟨va, vc, hv⟩ := ho.len; have hv2 : v5 = .slice va 0 vc := hv; clear hv; subst hv2; have HG5 := hid hg; clear ho hg)
          | (go_at_call 9; (with_reducible refine (num_any _ _).mono ?_); rintro e wn ⟨rfl, hwn⟩; have hwn' := hwn.symm; clear hwn; subst hwn'))
        have HG15 := hid (gtrans HSD.out.gr HG5.out)
        have k5 := HKz.out w5 HG15.out
        by_cases hn0 : nb = 0
        · subst hn0
          go_wp2_with fail
          go_ret
          exact ⟨rfl, gtrans HG1.out HG15.out⟩
        · obtain ⟨ra, rn, rc, hrn, rfl, hcell⟩ := HKr.out (by omega)
          have kr := hcell w5 HG15.out
          have hrn' : (524288 : Int) < (rn : Int) := by omega
          have hnb' : (0 : Int) < (nb : Int) := by omega
          have hnb2 : ¬ ((nb : Int) = 0) := by omega
          clear hcell hrn
          go_wp2_with fail
          go_ret
          exact ⟨rfl, gtrans HG1.out HG15.out⟩
      · as_aux_lemma =>
        go_upto_region 17 with (first
          | (go_at_call 21; (with_reducible refine HRd.out.mono ?_); rintro e w5 ⟨v5, rfl, ho, hg⟩; obtain ⟨va, vc, hv⟩ := ho.len; have hv2 : v5 = .slice va 0 vc := hv; clear hv; subst hv2; have HG5 := hid hg; clear ho hg)
          | (go_at_call 9; (with_reducible refine (num_any _ _).mono ?_); rintro e wn ⟨rfl, hwn⟩; have hwn' := hwn.symm; clear hwn; subst hwn'))
        have HG15 := hid (gtrans HSD.out.gr HG5.out)
        have k5 := HKz.out w5 HG15.out
        by_cases hn0 : nb = 0
        · subst hn0
          go_wp2_with fail
          go_ret
          exact ⟨rfl, gtrans HG1.out HG15.out⟩
        · obtain ⟨ra, rn, rc, hrn, rfl, hcell⟩ := HKr.out (by omega)
          have kr := hcell w5 HG15.out
          have hrn' : (524288 : Int) < (rn : Int) := by omega
          have hnb' : (0 : Int) < (nb : Int) := by omega
          have hnb2 : ¬ ((nb : Int) = 0) := by omega
          clear hcell hrn
          go_wp2_with fail
          go_ret
          exact ⟨rfl, gtrans HG1.out HG15.out⟩
    · as_aux_lemma =>
      have hfl : 0 < (flat ws).length := by
        cases ws with
        | nil => exact absurd rfl hws
        | cons r ws => show 0 < (frameL r ++ flat ws).length; rw [List.length_append, frameL_length]; omega
      have HEz : Hid (A.fndE ⟨#[120]⟩ = 0) := hid (by
        rcases HFn.out.2 with q | q
        · exact q
        · exfalso
          have e1 := HFn.out.1
          have e2 : A.fndB ⟨#[120]⟩ = [] := by unfold Ab.fndB; rw [if_neg (by rw [q]; decide)]
          rw [e2, HOld.out] at e1
          rw [← e1] at hfl
          exact absurd hfl (by decide))
      rw [HEz.out] at HRd
      have HFle : Hid ((flat ws).length ≤ 600000) := hid (by
        have h2 := get_used A.C ⟨#[120]⟩
        have h3 := HLG.out.live.used
        have h4 := HOld.out
        unfold Ab.old at h4
        rw [h4] at h2
        omega)
      have HEach := hid HLG.out.each
      obtain ⟨f, HFf⟩ : ∃ x, Hid (flat ws = x) := ⟨_, hid rfl⟩
      rw [HFf.out] at HRd hfl HFle
      obtain ⟨fl, HFl⟩ : ∃ x, Hid (f.length = x) := ⟨_, hid rfl⟩
      rw [HFl.out] at hfl HFle
      have HKz := hid kz
      clear kz hws HFn HEz HOld HWz
      have hfl' : ¬ ((fl : Int) = 0) := by omega
      go_upto_region 18 with (first
        | (go_at_call 21; (with_reducible refine HRd.out.mono ?_); rintro e w5 ⟨v5, rfl, ho, hg⟩; have HO5 := hid ho; have HG5 := hid hg; obtain ⟨g8, k8, e8, hk8, hg8b, hg8l, hg8c⟩ := ho.form (by rw [HFl.out]; exact hfl); rw [HFl.out] at e8; subst e8; have HC8 := hid hg8c; have HB8 := hid hg8b; clear ho hg hg8c hg8b hg8l hk8)
        | (go_at_call 9; (with_reducible refine (num_any _ _).mono ?_); rintro e wn ⟨rfl, hwn⟩; have hwn' := hwn.symm; clear hwn; subst hwn'))
      have HG15 := hid (gtrans HSD.out.gr HG5.out)
      have k1 : w5.cell? ⟨p1, 1, none⟩ = some (.int .i64 At) := (HCell.out w5 HG15.out).cell 1
      have HWi : Hid (∀ u : World, Calls Tryd.prog 12 #[.int .i64 At, .int .i64 (fl : Int)] u fun e w' => (∃ r : Nat, r < fl ∧ e = .returned (.int .i64 r)) ∧ w' = u) := hid (fun u => within_any At fl hfl (by have := HFle.out; omega) u)
      go_upto_region 19 with (go_at_call 12; (with_reducible refine (HWi.out _).mono ?_); rintro e w0 ⟨⟨r, hr, rfl⟩, hw0⟩; have hw0' := hw0.symm; clear hw0; subst hw0')
      have hrf : r < f.length := by rw [HFl.out]; exact hr
      have hc8 := HC8.out r hrf
      have hz8 : ∀ j, w5.frozen? ⟨g8, j, none⟩ = false := fun j => HO5.out.free j
      obtain ⟨fx, HFX⟩ : ∃ x, Hid (∀ h : r < f.length, f[r]'h = x) := ⟨f[r], hid (fun _ => rfl)⟩
      rw [HFX.out hrf] at hc8
      have hfb := u8_bd fx
      have r1' : (r : Int) < (fl : Int) := by omega
      have k2 : w5.cell? ⟨p1, 2, none⟩ = some (.int .i64 By) := (HCell.out w5 HG15.out).cell 2
      obtain ⟨r2, HR2⟩ : ∃ x, Hid (wthn By 255 = x) := ⟨_, hid rfl⟩
      have hr2 : r2 < 255 := by rw [← HR2.out]; exact wthn_lt By 255 (by decide)
      have HW2 : Hid (∀ u : World, Calls Tryd.prog 12 #[.int .i64 By, .int .i64 255] u fun e w' => ∃ v, e = .returned v ∧ u.grownBy w' none ∧ v = Value.int .i64 (r2 : Nat)) := hid (fun u => by rw [← HR2.out]; exact (within_is By 255 (by decide) (by decide) u).mono fun e w' ⟨q1, q2⟩ => ⟨_, q1, by rw [q2]; exact grefl _ _, rfl⟩)
      obtain ⟨y, HYy⟩ : ∃ y : UInt8, Hid (fx ^^^ UInt8.ofNat (1 + r2) = y) := ⟨_, hid rfl⟩
      have hxb := xorb fx r2 hr2
      rw [HYy.out] at hxb
      have HXB : Hid (y ≠ fx) := hid hxb.2
      have HZ9 : Hid (∀ (x y : Operand) (u : World), (do eqGuard .add 3 x y (.int .i64 1) (.int .i64 (r2 : Nat)); binOp .add 3 (.int .i64 1) (.int .i64 (r2 : Nat)) : Sem Value).run Tryd.prog u = .ok (.int .i64 (1 + (r2 : Int))) u) := hid (fun x y u => by have e : IntKind.i64.wrap (1 + (r2 : Int)) = 1 + (r2 : Int) := (by rw [IntKind.wrap_i64]; omega); clear hxb; go_simp)
      have HZc : Hid (∀ u : World, (convert 3 5 (.int .i64 (1 + (r2 : Int)))).run Tryd.prog u = .ok (.int .u8 (1 + (r2 : Int))) u) := hid (fun u => by have e : IntKind.u8.wrap (1 + (r2 : Int)) = 1 + (r2 : Int) := (by rw [IntKind.wrap_u8]; omega); clear hxb; go_simp)
      have HZx : Hid (∀ (a b : Operand) (u : World), (do eqGuard .xor 5 a b (.int .u8 (fx.toNat : Int)) (.int .u8 (1 + (r2 : Int))); binOp .xor 5 (.int .u8 (fx.toNat : Int)) (.int .u8 (1 + (r2 : Int))) : Sem Value).run Tryd.prog u = .ok (.int .u8 (y.toNat : Int)) u) := hid (fun a b u => by have e := hxb.1; clear hxb; go_simp)
      clear hxb
      have HCb : Hid (∀ u, w5.grownBy u none → u.cell? ⟨g8, r, none⟩ = some (.int .u8 (fx.toNat : Int))) := hid (fun u hu => (cell_at hu (World.block_lt_of_cell? w5 _ hc8) (by simp)).trans hc8)
      have HCy : Hid (∀ u, w5.grownBy u none → u.cell? ⟨p1, 2, none⟩ = some (.int .i64 By)) := hid (fun u hu => (HCell.out u (gtrans HG15.out hu)).cell 2)
      have HRF := hid hrf
      clear hrf k1 k2 hfb hc8 hz8 hr2 HWi
      refine wp_region_listX (by kernel_rfl) [fun v _ => v = (Value.slice (some ⟨g8, 0, none⟩) fl k8), fun v _ => v = (Value.int .i64 (r : Nat)), fun v _ => v = (Value.slice (some ⟨g8, 0, none⟩) fl k8), fun v _ => v = (Value.int .i64 (r : Nat)), fun v _ => v = (Value.pointer (some ⟨g8, r, none⟩)), fun v _ => v = (Value.int .u8 (fx.toNat : Int)), fun v _ => v = (Value.pointer (some ⟨p1, 2, none⟩)), fun v _ => v = (Value.int .i64 By), fun v _ => v = Value.int .i64 (r2 : Nat), fun v _ => v = (Value.int .i64 (1 + (r2 : Int))), fun v _ => v = (Value.int .u8 (1 + (r2 : Int))), fun v _ => v = (Value.int .u8 (y.toNat : Int)), fun v _ => v = (Value.pointer (some ⟨g8, r, none⟩))] (none) (fun _ => none) 13 (by kernel_rfl) (by kernel_rfl) (by kernel_rfl) (by kernel_rfl) (by decide) noRow_one (fun _ => .inl rfl) ⟨fun i v u u' hki h hg => h, fun i v u u' hki h hg => h, fun i v u u' hki h hg => h, fun i v u u' hki h hg => h, fun i v u u' hki h hg => h, fun i v u u' hki h hg => h, fun i v u u' hki h hg => h, fun i v u u' hki h hg => h, fun i v u u' hki h hg => h, fun i v u u' hki h hg => h, fun i v u u' hki h hg => h, fun i v u u' hki h hg => h, fun i v u u' hki h hg => h, trivial⟩ ⟨?_, ?_, ?_, ?_, ?_, ?_, ?_, ?_, ?_, ?_, ?_, ?_, ?_, trivial⟩ ?_
      · intro A u hu hpu hsz hout hdeps
        have e10 : A.eval (.tmp 10) = (.slice (some ⟨g8, 0, none⟩) fl k8) := (hout 10 (by kernel_rfl)).trans rfl
        refine ifw_none rfl ?_
        with_reducible refine shown_q (Value.slice (some ⟨g8, 0, none⟩) fl k8) ?qq_1_0 (fun _ _ => ?qr_1_0)
        case qr_1_0 => exact (rfl : (Value.slice (some ⟨g8, 0, none⟩) fl k8) = (Value.slice (some ⟨g8, 0, none⟩) fl k8))
        with_reducible refine quietAt_mv (.tmp 10) (Value.slice (some ⟨g8, 0, none⟩) fl k8) ?h0_1_0 ?h1_1_0
        case h0_1_0 => rfl
        case h1_1_0 => exact e10
      · intro A u hu hpu hsz hout hdeps
        have e12 : A.eval (.tmp 12) = (.int .i64 (r : Nat)) := (hout 12 (by kernel_rfl)).trans rfl
        refine ifw_none rfl ?_
        with_reducible refine shown_q (Value.int .i64 (r : Nat)) ?qq_1_1 (fun _ _ => ?qr_1_1)
        case qr_1_1 => exact (rfl : (Value.int .i64 (r : Nat)) = (Value.int .i64 (r : Nat)))
        with_reducible refine quietAt_mv (.tmp 12) (Value.int .i64 (r : Nat)) ?h0_1_1 ?h1_1_1
        case h0_1_1 => rfl
        case h1_1_1 => exact e12
      · intro A u hu hpu hsz hout hdeps
        have e10 : A.eval (.tmp 10) = (.slice (some ⟨g8, 0, none⟩) fl k8) := (hout 10 (by kernel_rfl)).trans rfl
        refine ifw_none rfl ?_
        with_reducible refine shown_q (Value.slice (some ⟨g8, 0, none⟩) fl k8) ?qq_1_2 (fun _ _ => ?qr_1_2)
        case qr_1_2 => exact (rfl : (Value.slice (some ⟨g8, 0, none⟩) fl k8) = (Value.slice (some ⟨g8, 0, none⟩) fl k8))
        with_reducible refine quietAt_mv (.tmp 10) (Value.slice (some ⟨g8, 0, none⟩) fl k8) ?h0_1_2 ?h1_1_2
        case h0_1_2 => rfl
        case h1_1_2 => exact e10
      · intro A u hu hpu hsz hout hdeps
        have e12 : A.eval (.tmp 12) = (.int .i64 (r : Nat)) := (hout 12 (by kernel_rfl)).trans rfl
        refine ifw_none rfl ?_
        with_reducible refine shown_q (Value.int .i64 (r : Nat)) ?qq_1_3 (fun _ _ => ?qr_1_3)
        case qr_1_3 => exact (rfl : (Value.int .i64 (r : Nat)) = (Value.int .i64 (r : Nat)))
        with_reducible refine quietAt_mv (.tmp 12) (Value.int .i64 (r : Nat)) ?h0_1_3 ?h1_1_3
        case h0_1_3 => rfl
        case h1_1_3 => exact e12
      · intro A u hu hpu hsz hout hdeps
        have e111 : A.eval (.tmp 111) = (.slice (some ⟨g8, 0, none⟩) fl k8) := by have h := depL hdeps 2 (by kernel_rfl) 111 (by kernel_rfl); exact h
        have e112 : A.eval (.tmp 112) = (.int .i64 (r : Nat)) := by have h := depL hdeps 3 (by kernel_rfl) 112 (by kernel_rfl); exact h
        refine ifw_none rfl ?_
        with_reducible refine shown_q (Value.pointer (some ⟨g8, r, none⟩)) ?qq_1_4 (fun _ _ => ?qr_1_4)
        case qr_1_4 => exact (rfl : (Value.pointer (some ⟨g8, r, none⟩)) = (Value.pointer (some ⟨g8, r, none⟩)))
        with_reducible refine quietAt_idx 36 (.tmp 111) (.tmp 112) (Value.slice (some ⟨g8, 0, none⟩) fl k8) (Value.int .i64 (r : Nat)) (Value.pointer (some ⟨g8, r, none⟩)) ?h0_1_4 ?h1_1_4 ?h2_1_4 ?h3_1_4
        case h0_1_4 => rfl
        case h1_1_4 => exact e111
        case h2_1_4 => exact e112
        case h3_1_4 => exact idx36 g8 fl k8 r hr u
      · intro A u hu hpu hsz hout hdeps
        have e113 : A.eval (.tmp 113) = (.pointer (some ⟨g8, r, none⟩)) := by have h := depL hdeps 4 (by kernel_rfl) 113 (by kernel_rfl); exact h
        refine ifw_none rfl ?_
        with_reducible refine shown_q (Value.int .u8 (fx.toNat : Int)) ?qq_1_5 (fun _ _ => ?qr_1_5)
        case qr_1_5 => exact (rfl : (Value.int .u8 (fx.toNat : Int)) = (Value.int .u8 (fx.toNat : Int)))
        with_reducible refine quietAt_ld 5 (.tmp 113) (Value.pointer (some ⟨g8, r, none⟩)) (Value.int .u8 (fx.toNat : Int)) ?h0_1_5 ?h1_1_5 ?h2_1_5
        case h0_1_5 => rfl
        case h1_1_5 => exact e113
        case h2_1_5 => exact ld5 g8 r _ u (HCb.out u hu)
      · intro A u hu hpu hsz hout hdeps
        have e1 : A.eval (.tmp 1) = (.pointer (some ⟨p1, 0, none⟩)) := (hout 1 (by kernel_rfl)).trans rfl
        refine ifw_none rfl ?_
        with_reducible refine shown_q (Value.pointer (some ⟨p1, 2, none⟩)) ?qq_1_6 (fun _ _ => ?qr_1_6)
        case qr_1_6 => exact (rfl : (Value.pointer (some ⟨p1, 2, none⟩)) = (Value.pointer (some ⟨p1, 2, none⟩)))
        with_reducible refine quietAt_field 55 (.tmp 1) 2 ?h0_1_6 ⟨p1, 0, none⟩ ⟨p1, 2, none⟩ ?h1_1_6 ?h2_1_6
        case h0_1_6 => rfl
        case h1_1_6 => exact e1
        case h2_1_6 => kernel_rfl
      · intro A u hu hpu hsz hout hdeps
        have e115 : A.eval (.tmp 115) = (.pointer (some ⟨p1, 2, none⟩)) := by have h := depL hdeps 6 (by kernel_rfl) 115 (by kernel_rfl); exact h
        refine ifw_none rfl ?_
        with_reducible refine shown_q (Value.int .i64 By) ?qq_1_7 (fun _ _ => ?qr_1_7)
        case qr_1_7 => exact (rfl : (Value.int .i64 By) = (Value.int .i64 By))
        with_reducible refine quietAt_ld 3 (.tmp 115) (Value.pointer (some ⟨p1, 2, none⟩)) (Value.int .i64 By) ?h0_1_7 ?h1_1_7 ?h2_1_7
        case h0_1_7 => rfl
        case h1_1_7 => exact e115
        case h2_1_7 => exact ld3 p1 2 By u (HCy.out u hu)
      · intro A u hu hpu hsz hout hdeps
        have e116 : A.eval (.tmp 116) = (.int .i64 By) := by have h := depL hdeps 7 (by kernel_rfl) 116 (by kernel_rfl); exact h
        refine ifw_none rfl ?_
        with_reducible refine shown_call 12 Tryd.f12 ?h0_1_8 ?h1_1_8 ?h2_1_8 #[.tmp 116, .const (.int .i64 255)] #[3, 3] ?h3_1_8 #[(Value.int .i64 By), (Value.int .i64 255)] ?h4_1_8 ?h5_1_8
        case h0_1_8 => exact Tryd.func12
        case h1_1_8 => kernel_rfl
        case h2_1_8 => kernel_rfl
        case h3_1_8 => rfl
        case h4_1_8 => exact map2 _ _ _ _ _ e116 rfl
        case h5_1_8 => exact HW2.out u
      · intro A u hu hpu hsz hout hdeps
        have f117 : (fun v _ => v = Value.int .i64 (r2 : Nat)) (A.eval (.tmp 117)) u := by have h := depL hdeps 8 (by kernel_rfl) 117 (by kernel_rfl); exact h
        have e117 := (f117 : _ = Value.int .i64 (r2 : Nat))
        refine ifw_none rfl ?_
        with_reducible refine shown_q (Value.int .i64 (1 + (r2 : Int))) ?qq_1_9 (fun _ _ => ?qr_1_9)
        case qr_1_9 => exact (rfl : (Value.int .i64 (1 + (r2 : Int))) = (Value.int .i64 (1 + (r2 : Int))))
        with_reducible refine quietAt_bin .add 3 (.const (.int .i64 1)) (.tmp 117) 3 (Value.int .i64 1) (Value.int .i64 (r2 : Nat)) (Value.int .i64 (1 + (r2 : Int))) ?h0_1_9 ?h1_1_9 ?h2_1_9 ?h3_1_9
        case h0_1_9 => rfl
        case h1_1_9 => exact rfl
        case h2_1_9 => exact e117
        case h3_1_9 => exact HZ9.out _ _ u
      · intro A u hu hpu hsz hout hdeps
        have e118 : A.eval (.tmp 118) = (.int .i64 (1 + (r2 : Int))) := by have h := depL hdeps 9 (by kernel_rfl) 118 (by kernel_rfl); exact h
        refine ifw_none rfl ?_
        with_reducible refine shown_q (Value.int .u8 (1 + (r2 : Int))) ?qq_1_10 (fun _ _ => ?qr_1_10)
        case qr_1_10 => exact (rfl : (Value.int .u8 (1 + (r2 : Int))) = (Value.int .u8 (1 + (r2 : Int))))
        with_reducible refine quietAt_cv 3 5 (.tmp 118) (Value.int .i64 (1 + (r2 : Int))) (Value.int .u8 (1 + (r2 : Int))) ?h0_1_10 ?h1_1_10 ?h2_1_10
        case h0_1_10 => rfl
        case h1_1_10 => exact e118
        case h2_1_10 => exact HZc.out u
      · intro A u hu hpu hsz hout hdeps
        have e114 : A.eval (.tmp 114) = (.int .u8 (fx.toNat : Int)) := by have h := depL hdeps 5 (by kernel_rfl) 114 (by kernel_rfl); exact h
        have e119 : A.eval (.tmp 119) = (.int .u8 (1 + (r2 : Int))) := by have h := depL hdeps 10 (by kernel_rfl) 119 (by kernel_rfl); exact h
        refine ifw_none rfl ?_
        with_reducible refine shown_q (Value.int .u8 (y.toNat : Int)) ?qq_1_11 (fun _ _ => ?qr_1_11)
        case qr_1_11 => exact (rfl : (Value.int .u8 (y.toNat : Int)) = (Value.int .u8 (y.toNat : Int)))
        with_reducible refine quietAt_bin .xor 5 (.tmp 114) (.tmp 119) 5 (Value.int .u8 (fx.toNat : Int)) (Value.int .u8 (1 + (r2 : Int))) (Value.int .u8 (y.toNat : Int)) ?h0_1_11 ?h1_1_11 ?h2_1_11 ?h3_1_11
        case h0_1_11 => rfl
        case h1_1_11 => exact e114
        case h2_1_11 => exact e119
        case h3_1_11 => exact HZx.out _ _ u
      · intro A u hu hpu hsz hout hdeps
        have e109 : A.eval (.tmp 109) = (.slice (some ⟨g8, 0, none⟩) fl k8) := by have h := depL hdeps 0 (by kernel_rfl) 109 (by kernel_rfl); exact h
        have e110 : A.eval (.tmp 110) = (.int .i64 (r : Nat)) := by have h := depL hdeps 1 (by kernel_rfl) 110 (by kernel_rfl); exact h
        refine ifw_none rfl ?_
        with_reducible refine shown_q (Value.pointer (some ⟨g8, r, none⟩)) ?qq_1_12 (fun _ _ => ?qr_1_12)
        case qr_1_12 => exact (rfl : (Value.pointer (some ⟨g8, r, none⟩)) = (Value.pointer (some ⟨g8, r, none⟩)))
        with_reducible refine quietAt_idx 36 (.tmp 109) (.tmp 110) (Value.slice (some ⟨g8, 0, none⟩) fl k8) (Value.int .i64 (r : Nat)) (Value.pointer (some ⟨g8, r, none⟩)) ?h0_1_12 ?h1_1_12 ?h2_1_12 ?h3_1_12
        case h0_1_12 => rfl
        case h1_1_12 => exact e109
        case h2_1_12 => exact e110
        case h3_1_12 => exact idx36 g8 fl k8 r hr u
      · intro A ux listed hh hall
        have hA := hh.frame
        have HU := hid hh.grown
        obtain ⟨x109, hx109⟩ : ∃ x, A.eval (.tmp 109) = x := ⟨_, rfl⟩
        have f109 : (fun v _ => v = (Value.slice (some ⟨g8, 0, none⟩) fl k8)) x109 ux := by rw [← hx109]; exact hh.got 0 _ 109 rfl rfl (hall 0 (by decide))
        obtain ⟨x110, hx110⟩ : ∃ x, A.eval (.tmp 110) = x := ⟨_, rfl⟩
        have f110 : (fun v _ => v = (Value.int .i64 (r : Nat))) x110 ux := by rw [← hx110]; exact hh.got 1 _ 110 rfl rfl (hall 1 (by decide))
        obtain ⟨x111, hx111⟩ : ∃ x, A.eval (.tmp 111) = x := ⟨_, rfl⟩
        have f111 : (fun v _ => v = (Value.slice (some ⟨g8, 0, none⟩) fl k8)) x111 ux := by rw [← hx111]; exact hh.got 2 _ 111 rfl rfl (hall 2 (by decide))
        obtain ⟨x112, hx112⟩ : ∃ x, A.eval (.tmp 112) = x := ⟨_, rfl⟩
        have f112 : (fun v _ => v = (Value.int .i64 (r : Nat))) x112 ux := by rw [← hx112]; exact hh.got 3 _ 112 rfl rfl (hall 3 (by decide))
        obtain ⟨x113, hx113⟩ : ∃ x, A.eval (.tmp 113) = x := ⟨_, rfl⟩
        have f113 : (fun v _ => v = (Value.pointer (some ⟨g8, r, none⟩))) x113 ux := by rw [← hx113]; exact hh.got 4 _ 113 rfl rfl (hall 4 (by decide))
        obtain ⟨x114, hx114⟩ : ∃ x, A.eval (.tmp 114) = x := ⟨_, rfl⟩
        have f114 : (fun v _ => v = (Value.int .u8 (fx.toNat : Int))) x114 ux := by rw [← hx114]; exact hh.got 5 _ 114 rfl rfl (hall 5 (by decide))
        obtain ⟨x115, hx115⟩ : ∃ x, A.eval (.tmp 115) = x := ⟨_, rfl⟩
        have f115 : (fun v _ => v = (Value.pointer (some ⟨p1, 2, none⟩))) x115 ux := by rw [← hx115]; exact hh.got 6 _ 115 rfl rfl (hall 6 (by decide))
        obtain ⟨x116, hx116⟩ : ∃ x, A.eval (.tmp 116) = x := ⟨_, rfl⟩
        have f116 : (fun v _ => v = (Value.int .i64 By)) x116 ux := by rw [← hx116]; exact hh.got 7 _ 116 rfl rfl (hall 7 (by decide))
        obtain ⟨x117, hx117⟩ : ∃ x, A.eval (.tmp 117) = x := ⟨_, rfl⟩
        have f117 : (fun v _ => v = Value.int .i64 (r2 : Nat)) x117 ux := by rw [← hx117]; exact hh.got 8 _ 117 rfl rfl (hall 8 (by decide))
        obtain ⟨x118, hx118⟩ : ∃ x, A.eval (.tmp 118) = x := ⟨_, rfl⟩
        have f118 : (fun v _ => v = (Value.int .i64 (1 + (r2 : Int)))) x118 ux := by rw [← hx118]; exact hh.got 9 _ 118 rfl rfl (hall 9 (by decide))
        obtain ⟨x119, hx119⟩ : ∃ x, A.eval (.tmp 119) = x := ⟨_, rfl⟩
        have f119 : (fun v _ => v = (Value.int .u8 (1 + (r2 : Int)))) x119 ux := by rw [← hx119]; exact hh.got 10 _ 119 rfl rfl (hall 10 (by decide))
        obtain ⟨x120, hx120⟩ : ∃ x, A.eval (.tmp 120) = x := ⟨_, rfl⟩
        have f120 : (fun v _ => v = (Value.int .u8 (y.toNat : Int))) x120 ux := by rw [← hx120]; exact hh.got 11 _ 120 rfl rfl (hall 11 (by decide))
        obtain ⟨x121, hx121⟩ : ∃ x, A.eval (.tmp 121) = x := ⟨_, rfl⟩
        have f121 : (fun v _ => v = (Value.pointer (some ⟨g8, r, none⟩))) x121 ux := by rw [← hx121]; exact hh.got 12 _ 121 rfl rfl (hall 12 (by decide))
        dsimp only [wrote, List.foldl] at hA
        rw [hx109, hx110, hx111, hx112, hx113, hx114, hx115, hx116, hx117, hx118, hx119, hx120, hx121] at hA
        clear hh hall hx109 hx110 hx111 hx112 hx113 hx114 hx115 hx116 hx117 hx118 hx119 hx120 hx121
        replace f109 := (f109 : x109 = (.slice (some ⟨g8, 0, none⟩) fl k8))
        subst f109
        replace f110 := (f110 : x110 = (.int .i64 (r : Nat)))
        subst f110
        replace f111 := (f111 : x111 = (.slice (some ⟨g8, 0, none⟩) fl k8))
        subst f111
        replace f112 := (f112 : x112 = (.int .i64 (r : Nat)))
        subst f112
        replace f113 := (f113 : x113 = (.pointer (some ⟨g8, r, none⟩)))
        subst f113
        replace f114 := (f114 : x114 = (.int .u8 (fx.toNat : Int)))
        subst f114
        replace f115 := (f115 : x115 = (.pointer (some ⟨p1, 2, none⟩)))
        subst f115
        replace f116 := (f116 : x116 = (.int .i64 By))
        subst f116
        have e117 := (f117 : _ = Value.int .i64 (r2 : Nat))
        subst e117
        replace f118 := (f118 : x118 = (.int .i64 (1 + (r2 : Int))))
        subst f118
        replace f119 := (f119 : x119 = (.int .u8 (1 + (r2 : Int))))
        subst f119
        replace f120 := (f120 : x120 = (.int .u8 (y.toNat : Int)))
        subst f120
        replace f121 := (f121 : x121 = (.pointer (some ⟨g8, r, none⟩)))
        subst f121
        subst hA
        show wpList _ _ _ [_] _ _
        simp only [Act.put, List.setIfInBounds_toArray, List.set_cons_succ, List.set_cons_zero]
        have HOx := hid (HO5.out.keep HU.out)
        have hcx := HCb.out ux HU.out
        have hzx : ux.frozen? ⟨g8, r, none⟩ = false := HOx.out.free r
        have HOs := hid (HOx.out.set r y)
        have HGs : Hid (w1.grownBy (ux.setCell ⟨g8, r, none⟩ (.int .u8 (y.toNat : Int))) none) := hid ((gtrans HG15.out HU.out).andThen (gset ux ⟨g8, r, none⟩ _) (fun j hj => .inl (by have hj' : g8 = j := Option.some.inj hj; have := HB8.out; have := HSD.out.gr.size; omega)))
        go_upto_region 20 with fail
        obtain ⟨w9, hw9⟩ : ∃ x, ux.setCell ⟨g8, r, none⟩ (.int .u8 (y.toNat : Int)) = x := ⟨_, rfl⟩
        rw [hw9] at HOs HGs ⊢
        have HU9 := HGs
        have HO9 := HOs
        clear hw9 hcx hzx HOx HOs HGs HC8 HO5
        obtain ⟨js, t, q1, q2, q3, q4, q5⟩ := hurt_parts ws r y HEach.out (by rw [HFf.out]; exact HRF.out) (by have h1 := HXB.out; have h2 := HFX.out HRF.out; intro q; apply h1; rw [q]; simp only [HFf.out]; exact h2)
        rw [HFf.out] at q1
        obtain ⟨f', HF'⟩ : ∃ x, Hid (f.set r y = x) := ⟨_, hid rfl⟩
        rw [HF'.out] at q1 HO9
        have HQ : Hid (f' = flat js ++ t ∧ t ≠ [] ∧ (unfrE t = 32 ∨ unfrE t = 34) ∧ (∀ r ∈ js, r.length ≤ 16777216) ∧ js.length ≤ 60) := hid ⟨q1, q2, q3, q4, Nat.le_trans q5 HWl.out⟩
        have HF'l : Hid (f'.length ≤ 600000) := hid (by rw [← HF'.out, List.length_set, HFl.out]; exact HFle.out)
        clear q1 q2 q3 q4 q5
        have HBf := hid (Blk.new w9 [.string ⟨#[120]⟩, .slice (some ⟨g8, 0, none⟩) fl k8] 47)
        have HLd : Hid (Calls Tryd.prog 22 #[.slice (some ⟨w9.heap.size, 0, none⟩) 1 1, .int .i64 4194304] (w9.alloc (.cells #[.string ⟨#[120]⟩, .slice (some ⟨g8, 0, none⟩) fl k8] 47)) fun e u' => ∃ b P, e = .returned (.tuple #[.pointer (some ⟨b, 0, none⟩), .int .i64 0]) ∧ Sd (w9.alloc (.cells #[.string ⟨#[120]⟩, .slice (some ⟨g8, 0, none⟩) fl k8] 47)) u' b ⟨(4194304 : Nat), false, 0, 0, 0, [(⟨#[120]⟩, f')]⟩ P) := hid (sd_load HO9.out.rd HBf.out (galloc _ _ _) good_x 4194304 (by have := HF'l.out; omega) (by omega) (by omega))
        obtain ⟨wL, HwL⟩ : ∃ x, Hid (w9.alloc (.cells #[.string ⟨#[120]⟩, .slice (some ⟨g8, 0, none⟩) fl k8] 47) = x) := ⟨_, hid rfl⟩
        have hwL := HwL.out
        rw [HwL.out] at HLd
        have HGL : Hid (w9.grownBy wL none) := hid (by rw [← HwL.out]; exact galloc _ _ _)
        have HTL : Hid (Tab wL) := hid (HT1.out.keep (gtrans HU9.out HGL.out))
        obtain ⟨AC, HAC⟩ : ∃ x : Ab, Hid ((⟨(4194304 : Nat), false, 0, 0, 0, [(⟨#[120]⟩, f')]⟩ : Ab) = x) := ⟨_, hid rfl⟩
        rw [HAC.out] at HLd
        have HFil : Hid (Fil AC ⟨#[120]⟩ js t ∧ t ≠ [] ∧ unfrE t ≠ 30) := hid (by
          refine ⟨?_, HQ.out.2.1, ?_⟩
          · rw [← HAC.out]
            exact fil_on rfl good_x (by show (getC [(⟨#[120]⟩, f')] ⟨#[120]⟩).getD [] = _; unfold getC; rw [if_pos rfl]; exact HQ.out.1) HQ.out.2.2.2.1 (by have := HQ.out.2.2.2.2; omega) (fun _ => by rcases HQ.out.2.2.1 with q | q <;> rw [q] <;> decide)
          · rcases HQ.out.2.2.1 with q | q <;> rw [q] <;> decide)
        have HRc : Hid (∀ u b P, Sd wL u b AC P → Calls Tryd.prog 21 #[.pointer (some ⟨b, 0, none⟩), .string ⟨#[120]⟩] u fun e w' => ∃ a c, e = .returned (.tuple #[.slice a f'.length c, .int .i64 0]) ∧ (convert 36 9 (.slice a f'.length c)).run Tryd.prog w' = .ok (.string ⟨f'.toArray⟩) w' ∧ u.grownBy w' none) := hid (fun u b P h => by
          have q := read_p h.dk ⟨#[120]⟩
          have e1 : AC.fndE ⟨#[120]⟩ = 0 ∧ AC.fndB ⟨#[120]⟩ = f' := by
            rw [← HAC.out]
            unfold Ab.fndB Ab.fndE
            rw [ref_on rfl good_x, if_pos rfl]
            show (if (getC [(⟨#[120]⟩, f')] ⟨#[120]⟩).isSome = true then (0 : Int) else 92) = 0 ∧ _
            unfold getC
            rw [if_pos rfl]
            exact ⟨rfl, rfl⟩
          rw [e1.1, e1.2] at q
          exact q.mono fun e w' ⟨v, q1, q2, q3⟩ => by
            obtain ⟨a, c, rfl⟩ := q2.len
            exact ⟨a, c, q1, q2.rd.convert, q3⟩)
        have HOc : Hid (∀ u b P, Sd wL u b AC P → Calls Tryd.prog 11 #[.pointer (some ⟨b, 0, none⟩), .string ⟨#[120]⟩] u fun e w' => e = .returned (.tuple #[.pointer none, .slice none 0 0, .int .i64 101]) ∧ u.grownBy w' none) := hid (fun u b P h => open_hurt h.dk (h.tab HTL.out) HFil.out.1 HFil.out.2.1 HFil.out.2.2)
        have HWc : Hid (∀ u b P, Sd wL u b AC P → Calls Tryd.prog 24 #[.pointer (some ⟨b, 0, none⟩)] u fun e w' => e = .returned (.int .i64 0) ∧ u.grownBy w' none) := hid (fun u b P h => by have q := writes_p h.dk; rw [show AC.wr = 0 by rw [← HAC.out]] at q; exact q)
        obtain ⟨fm, HFm⟩ : ∃ x, Hid (f'.length = x) := ⟨_, hid rfl⟩
        rw [HFm.out] at HRc
        have HRb : Hid (∀ u, wL.grownBy u none → (convert 36 9 (.slice (some ⟨g8, 0, none⟩) fl k8)).run Tryd.prog u = .ok (.string ⟨f'.toArray⟩) u) := hid (fun u hu => ((HO9.out.keep HGL.out).keep hu).rd.convert)
        obtain ⟨S, HS⟩ : ∃ x : ByteArray, Hid ((⟨f'.toArray⟩ : ByteArray) = x) := ⟨_, hid rfl⟩
        rw [HS.out] at HRc HRb
        have hSS : (S.toList == S.toList) = true := by simp
        go_wp2_with (first
          | (with_reducible refine wpList_build_of (by with_unfolding_all rfl) 47 _ (by with_unfolding_all rfl) [(0, .string ⟨#[120]⟩), (1, .slice (some ⟨g8, 0, none⟩) fl k8)] (by with_unfolding_all rfl) [.string ⟨#[120]⟩, .slice (some ⟨g8, 0, none⟩) fl k8] (built47 _ _ _ _) ?_)
          | (go_at_call 24; (with_reducible refine (HWc.out _ _ _ HD12.out).mono ?_); rintro e w13 ⟨rfl, hg⟩; have HG13 := hid (gtrans HD12.out.gr hg); clear hg)
          | (have := HD11; clear this; go_at_call 21; (with_reducible refine (HRc.out _ _ _ HD11.out).mono ?_); rintro e w12 ⟨na, nc, rfl, hcv, hg⟩; have HD12 := hid (HD11.out.keep hg); have hcb := HRb.out w12 (HD11.out.keep hg).gr; clear hg)
          | (go_at_call 11; (with_reducible refine (HOc.out _ _ _ HD10.out).mono ?_); rintro e w11 ⟨rfl, hg⟩; have HD11 := hid (HD10.out.keep hg); clear hg)
          | (go_at_call 22; (with_reducible refine HLd.out.mono ?_); rintro e w10 ⟨bc, PC, rfl, hd⟩; have HD10 := hid hd; clear hd)
          | (go_at_call 9; (with_reducible refine (num_any _ _).mono ?_); rintro e wn ⟨rfl, hwn⟩; have hwn' := hwn.symm; clear hwn; subst hwn'))
        go_ret
        exact ⟨rfl, gtrans HG1.out (gtrans HU9.out (gtrans HGL.out HG13.out))⟩
end Go.Proofs.YtpbiofnncdneoaaDoor
