/- WalTorn's walk. -/
import Derived.Test.YtpbiofnncdneoaaDoorWj
import Derived.Test.YtpbiofnncdneoaaDoorLoB
import Derived.Deep.CutBlock
namespace Go.Proofs.YtpbiofnncdneoaaDoor
open Go Go.RowKit Go.MapKept Go.MuLone
open Go.RowKit (wrap32 wrap64)

theorem ld22 (b i n c : Nat) (a : Option Addr) (u : World) (h : u.cell? ⟨b, i, none⟩ = some (.slice a n c)) : (Instr.loadAt 22 (.pointer (some ⟨b, i, none⟩))).run Tryd.prog u = .ok (.slice a n c) u := by go_simp
theorem good_log : goodN ⟨#[108, 111, 103]⟩ = true := by decide +kernel
theorem ne_log : (⟨#[108, 111, 103]⟩ : ByteArray) ≠ ⟨#[120]⟩ := by decide
/-- The state of WalTorn's loop. -/
structure TS (w1 wr : World) (b lb : Nat) (bs : List (List UInt8)) (n : Nat) (K : Int) (i z : Nat) (wv : Value) (A : Ab) (P : Nat → Prop) (ws : List (List UInt8)) (t : List UInt8) : Prop where
  sd : Sd w1 wr b A P
  lg : Lgd A ⟨#[108, 111, 103]⟩ ⟨#[108, 111, 103]⟩ ⟨#[120]⟩ 4194304 (z + 13 * i) ws t
  ow : OutW w1.heap.size wr wv ws
  ap : ∀ k, wv.ownBlock = some k → ¬ P k
  wr' : A.wr ≤ i
  len : ws.length ≤ i
  md : (A.off = false ∧ A.ar = (n : Int) - (i : Int) ∧ i < n ∧ ws = bs.take i ∧ t = [] ∧ A.kp = K ∧ LgP w1 wr lb b ⟨#[108, 111, 103]⟩ (flen ws) false P) ∨ A.off = true
set_option maxRecDepth 100000 in
set_option maxHeartbeats 16000000 in
theorem torn_walk (w : World) (F : Nat → Prop) (a : Option Addr) (g off nb c : Nat) (N K Th TK : Int) (bs : List (List UInt8)) (hA : RowS w F a g off bs) (hF : ∀ k, F k → k < w.heap.size) (hnb : bs.length = nb) (hrl : ∀ r ∈ bs, r.length ≤ 140737488355328) (hT : Tab w) :
    Calls Tryd.prog 3 #[.agg [.slice a nb c, Value.int .i64 N, .int .i64 K, .int .i64 Th, .int .i64 TK].toArray] w fun e w' => e = .returned (.bool true) ∧ w.grownBy w' none := by
  have HA := hid hA
  have HF := hid hF
  have HNb := hid hnb
  have HRl := hid hrl
  have HWi : Hid (∀ u : World, Calls Tryd.prog 12 #[.int .i64 N, .int .i64 40] u fun e w' => (∃ r : Nat, r < 40 ∧ e = .returned (.int .i64 r)) ∧ w' = u) := hid (fun u => within_any N 40 (by decide) (by decide) u)
  have HTw := hid hT
  clear hA hF hnb hrl hT
  go_enter Tryd.func3, Tryd.ntmps3
  go_upto_region 1 with ((with_reducible refine wpList_box_row (by with_unfolding_all rfl) 24 _ (by with_unfolding_all rfl) [.slice a nb c, Value.int .i64 N, .int .i64 K, .int .i64 Th, .int .i64 TK] (by with_unfolding_all rfl) ?_); intro w1 B1 s1 g1; have HB1 := hid B1; have HG1 := hid g1; have HS1 := hid s1; clear B1 s1 g1)
  obtain ⟨p1, hp1⟩ : ∃ x, w.heap.size = x := ⟨_, rfl⟩
  rw [hp1] at HB1 ⊢
  have HP1 := hid hp1
  have HT1 : Hid (Tab w1) := hid (HTw.out.keep HG1.out)
  have HNw : Hid (Calls Tryd.prog 8 #[.int .i64 4194304] w1 fun e w' => ∃ b P, e = .returned (.tuple #[.pointer (some ⟨b, 0, none⟩), .int .i64 0]) ∧ Sd w1 w' b (Ab.new (4194304 : Nat)) P) := hid (sd_new w1 4194304 (by omega) (by omega))
  have HWk : Hid (∀ u, w1.grownBy u none → Calls Tryd.prog 10 #[] u fun e w' => e = .returned (.bool true) ∧ u.grownBy w' none) := hid (fun u hu => works_any u (HT1.out.keep hu))
  have HOp : Hid (∀ u b P, Sd w1 u b (Ab.new (4194304 : Nat)) P → Calls Tryd.prog 11 #[.pointer (some ⟨b, 0, none⟩), .string ⟨#[108, 111, 103]⟩] u fun e u' => ∃ lb a c, e = .returned (.tuple #[.pointer (some ⟨lb, 0, none⟩), .slice a 0 c, .int .i64 0]) ∧ Sd w1 u' b (Ab.new (4194304 : Nat)) P ∧ LgP w1 u' lb b ⟨#[108, 111, 103]⟩ 0 false P) := hid (fun u b P h => by
    refine (sd_whole (rs := []) h HT1.out (by decide) (fil_on rfl good_log rfl (fun r hr => by cases hr) (by decide) tl_nil)).mono fun e u' ⟨lb, v, q1, q2, q3, q4, q5⟩ => ?_
    obtain ⟨a, c, rfl⟩ := q2.len
    exact ⟨lb, a, c, q1, q3, q4⟩)
  have HCell : Hid (∀ u, w1.grownBy u none → Blk u p1 [.slice a nb c, Value.int .i64 N, .int .i64 K, .int .i64 Th, .int .i64 TK] 24) := hid (fun u hu => HB1.out.keep hu)
  clear hp1 HB1
  go_upto_region 9 with (first
    | (go_at_call 11; (with_reducible refine (HOp.out _ _ _ HD1'.out).mono ?_); rintro e w3 ⟨lb, a2, c2, rfl, hd, hl⟩; have HD3 := hid hd; have HL3 := hid hl; clear hd hl)
    | (go_at_call 10; (with_reducible refine (HWk.out _ HD1.out.gr).mono ?_); rintro e w2' ⟨rfl, hg⟩; have HD1' := hid (HD1.out.keep hg); clear hg)
    | (go_at_call 9; (with_reducible refine (num_any _ _).mono ?_); rintro e wn ⟨rfl, hwn⟩; have hwn' := hwn.symm; clear hwn; subst hwn')
    | (go_at_call 8; (with_reducible refine HNw.out.mono ?_); rintro e w2 ⟨b, P1, rfl, hd⟩; have HD1 := hid hd; clear hd))
  have k1 : w3.cell? ⟨p1, 1, none⟩ = some (.int .i64 N) := (HCell.out w3 HD3.out.gr).cell 1
  have k2 : w3.cell? ⟨p1, 2, none⟩ = some (.int .i64 K) := (HCell.out w3 HD3.out.gr).cell 2
  have HAr : Hid (∀ (n : Nat), n ≤ 100 → Calls Tryd.prog 13 #[.pointer (some ⟨b, 0, none⟩), .int .i64 (1 + (n : Int)), .int .i64 K] w3 fun e u' => e = .returned (.tuple #[]) ∧ Sd w1 u' b ((Ab.new (4194304 : Nat)).arm (1 + (n : Int)) K) P1 ∧ LgP w1 u' lb b ⟨#[108, 111, 103]⟩ 0 false P1) := hid (fun n hn => (sd_arm HD3.out (1 + (n : Int)) K (by omega)).mono fun e u' ⟨q1, q2, q3⟩ => ⟨q1, q2, HL3.out.same q3⟩)
  go_upto_region 11 with (first
    | (go_at_call 13; (with_reducible refine (HAr.out nr (by omega)).mono ?_); rintro e w4 ⟨rfl, hd, hl⟩; have HD4 := hid hd; have HL4 := hid hl; clear hd hl)
    | (go_at_call 12; (with_reducible refine (HWi.out _).mono ?_); rintro e w0 ⟨⟨nr, hnr, rfl⟩, hw0⟩; have hw0' := hw0.symm; clear hw0; subst hw0'))
  have HTS : Hid (TS w1 w4 b lb bs (1 + nr) K 0 0 (.slice none 0 0) ((Ab.new (4194304 : Nat)).arm (1 + (nr : Int)) K) P1 [] []) := hid ⟨HD4.out, (Lgd.new 4194304 ne_log good_log).arm _ _, OutW.nil _ _, (fun k hk => by cases hk), (by show (0 : Int) ≤ _; omega), Nat.zero_le _, .inl ⟨rfl, (by show max (1 + (nr : Int)) 0 = _; omega), (by omega), rfl, rfl, rfl, HL4.out⟩⟩
  obtain ⟨n, hn⟩ : ∃ x : Nat, 1 + nr = x := ⟨_, rfl⟩
  have hnI : (1 + (nr : Int)) = (n : Int) := by omega
  rw [hn] at HTS
  rw [hnI] at HTS ⊢
  have hn41 : n ≤ 41 := by omega
  clear hnr hn hnI HD4 HL4 HAr HD3 HL3 HNw HOp HWk k1 k2 HWi
  go_upto_block 0 with fail
  go_cut [8, 9, 11, 12] from 65 to 145 (fun s8 s9 s11 s12 wc => Hid (∃ A P ws t U, Sd w1 wc b A P ∧ Lgd A ⟨#[108, 111, 103]⟩ ⟨#[108, 111, 103]⟩ ⟨#[120]⟩ 4194304 U ws t ∧ OutW w1.heap.size wc s8 ws ∧ (∀ k, s8.ownBlock = some k → ¬ P k) ∧ A.wr ≤ 400 ∧ U ≤ 600000 ∧ ws.length ≤ 201))
  case first =>
    as_aux_lemma =>
    go_wp2_with fail
    go_loopw [11, 9, 8, 12] (fun iv sv wv gv wr => ∃ (i z : Nat), iv = .int .i64 i ∧ sv = .int .i64 z ∧ i ≤ nb ∧ i ≤ 200 ∧ z ≤ 524288 ∧ Hid (∃ A P ws t, TS w1 wr b lb bs n K i z wv A P ws t)) (fun iv _ _ _ _ => nb - (intOf iv).toNat)
    case atStart => exact ⟨0, 0, rfl, rfl, by omega, by omega, by omega, hid ⟨_, _, _, _, HTS.out⟩⟩
    case round =>
      obtain ⟨wv, hwv⟩ : ∃ x : Value, x = u8 := ⟨_, rfl⟩
      rw [← hwv] at hrel ⊢
      clear hwv
      obtain ⟨i, z, rfl, rfl, hi, hi2, hz, HR⟩ := hrel
      obtain ⟨w0, hw0⟩ : ∃ x : World, x = wr := ⟨_, rfl⟩
      rw [← hw0] at HR ⊢
      clear hw0 HTS
      obtain ⟨A, P, ws, t, hTS⟩ := HR.out
      have HS := hid hTS
      clear hTS HR
      have HMeet : Hid (∀ u, w0.grownBy u none → Hid (∃ A P ws t U, Sd w1 u b A P ∧ Lgd A ⟨#[108, 111, 103]⟩ ⟨#[108, 111, 103]⟩ ⟨#[120]⟩ 4194304 U ws t ∧ OutW w1.heap.size u wv ws ∧ (∀ k, wv.ownBlock = some k → ¬ P k) ∧ A.wr ≤ 400 ∧ U ≤ 600000 ∧ ws.length ≤ 201)) := hid (fun u hu => hid ⟨A, P, ws, t, _, HS.out.sd.keep hu, HS.out.lg, HS.out.ow.keep hu, HS.out.ap, by have := HS.out.wr'; omega, by omega, by have := HS.out.len; omega⟩)
      have k0 : w0.cell? ⟨p1, 0, none⟩ = some (.slice a nb c) := (HCell.out w0 HS.out.sd.gr).cell 0
      by_cases hlt : i < nb
      · have hlt' : (i : Int) < (nb : Int) := by omega
        by_cases h2 : i < 200
        · have h2' : (i : Int) < 200 := by omega
          have HOf : Hid (Calls Tryd.prog 14 #[.pointer (some ⟨b, 0, none⟩)] w0 fun e w' => e = .returned (.bool A.off) ∧ w0.grownBy w' none) := hid (off_p HS.out.sd.dk)
          rcases HS.out.md with hmd | h0
          · have HMd := hid hmd
            rw [hmd.1] at HOf
            clear hmd
            obtain ⟨rfl, -, -⟩ := HA.out.at_ (by rw [HNb.out]; omega)
            obtain ⟨l, HL⟩ : ∃ l, Hid (bs[i]'(by rw [HNb.out]; exact hlt) = l) := ⟨_, hid rfl⟩
            have HLm : Hid (l.length ≤ 140737488355328) := hid (by rw [← HL.out]; exact HRl.out _ (List.getElem_mem _))
            have HLt : Hid (bs.take (i + 1) = bs.take i ++ [l]) := hid (by rw [List.take_succ_eq_append_getElem (by rw [HNb.out]; exact hlt), HL.out])
            obtain ⟨x0, hx1, hx2⟩ := HA.out.each i (by rw [HNb.out]; exact hlt)
            rw [HL.out] at hx2
            have hgl := (HA.out.at_ (by rw [HNb.out]; omega)).2.1
            have HX2 := hid hx2
            obtain ⟨ra, rb, ro, rc, rfl, -⟩ := hx2
            obtain ⟨rn, hrn⟩ : ∃ x, l.length = x := ⟨_, rfl⟩
            rw [hrn] at hx1 HX2 HLm
            have HRn := hid hrn
            have HCr : Hid (∀ u, w1.grownBy u none → u.cell? ⟨g, off + i, none⟩ = some (.slice ra rn rc)) := hid (fun u hu => (cell_at (gtrans HG1.out hu) hgl (by simp)).trans hx1)
            have HC0 : Hid (∀ u, w1.grownBy u none → u.cell? ⟨p1, 0, none⟩ = some (.slice (some ⟨g, off, none⟩) nb c)) := hid (fun u hu => (HCell.out u hu).cell 0)
            have HC2 : Hid (∀ u, w1.grownBy u none → u.cell? ⟨p1, 2, none⟩ = some (.int .i64 K)) := hid (fun u hu => (HCell.out u hu).cell 2)
            have HRd : Hid (∀ u, w1.grownBy u none → Rd u (fun k => k < w1.heap.size) (.slice ra rn rc) l) := hid (fun u hu => (HX2.out.keep (gtrans HG1.out hu)).wide (fun k hk => by have := HF.out k hk; have := HG1.out.size; omega))
            clear hx1 hrn hgl HX2 HL k0
            have k0 := HC0.out w0 HS.out.sd.gr
            go_upto_region 14 with (go_at_call 14; (with_reducible refine HOf.out.mono ?_); rintro e w5 ⟨rfl, hg⟩; have HG5 := hid hg; clear hg)
            have HS5 := hid (HS.out.sd.keep HG5.out)
            have HO5 := hid (HS.out.ow.keep HG5.out)
            have k5 := HC0.out w5 HS5.out.gr
            have kr := HCr.out w5 HS5.out.gr
            have hrl := HLm.out
            go_upto_region 15 with fail
            obtain ⟨y, hy⟩ : ∃ y : Nat, z + rn = y := ⟨_, rfl⟩
            have hwr : (z : Int) + (rn : Int) = (y : Int) := by omega
            rw [hwr]
            have HY := hid hy
            clear hwr hy hrl HOf k0
            by_cases hbr : 524288 < y
            · as_aux_lemma =>
              have hbr' : (524288 : Int) < (y : Int) := by omega
              go_wp2_with fail
              go_meet
              case rel => exact HMeet.out w5 HG5.out
            have hbr' : ¬ (524288 : Int) < (y : Int) := by omega
            have HCp : Hid (Calls Tryd.prog 16 #[.slice ra rn rc] w5 fun e w' => ∃ v', e = .returned v' ∧ Out w5.heap.size w' v' l ∧ w5.grownBy w' none) := hid (copyR_any w5 _ _ l (HRd.out w5 HS5.out.gr) (by have := HRn.out; have := HY.out; omega))
            have HAp : Hid (∀ u x B', w5.grownBy u none → Out B' u x l → Calls Tryd.prog 15 #[.pointer (some ⟨lb, 0, none⟩), x] u fun e u' => ∃ P', e = .returned (.int .i64 (A.appE ⟨#[108, 111, 103]⟩ (frameL l))) ∧ Sd w1 u' b (A.app ⟨#[108, 111, 103]⟩ (frameL l)) P' ∧ LgP w1 u' lb b ⟨#[108, 111, 103]⟩ (lgZ A ⟨#[108, 111, 103]⟩ (flen ws) l) (decide (A.appE ⟨#[108, 111, 103]⟩ (frameL l) ≠ 0)) P' ∧ OutW w1.heap.size u' wv ws ∧ (∀ k, wv.ownBlock = some k → ¬ P' k)) := hid (fun u x B' hu ho => by
              refine ts_app (HS5.out.keep hu) ((HMd.out.2.2.2.2.2.2.keep HG5.out).keep hu) (HO5.out.keep hu) HS.out.ap HT1.out (by have := HS.out.wr'; omega) ?_ _ x l ho.rd (by have := HRn.out; have := HY.out; omega)
              have h1 := HS.out.lg.old
              have h2 := get_used A.C ⟨#[108, 111, 103]⟩
              have h3 := HS.out.lg.live.used
              have h4 : (A.old ⟨#[108, 111, 103]⟩).length = flen ws := by rw [h1, HMd.out.2.2.2.2.1, List.append_nil]; rfl
              unfold Ab.old at h4
              omega)
            go_upto_region 17 with (first
              | (go_at_call 15; (with_reducible refine (HAp.out _ _ _ HG6.out HO6.out).mono ?_); rintro e w7 ⟨P7, rfl, hd, hl, ho, hap⟩; have HD7 := hid hd; have HL7 := hid hl; have HO7 := hid ho; have HP7 := hid hap; clear hd hl ho hap)
              | (go_at_call 16; (with_reducible refine HCp.out.mono ?_); rintro e w6 ⟨v6, rfl, ho, hg⟩; have HO6 := hid ho; have HG6 := hid hg; clear ho hg))
            obtain ⟨A', HA'⟩ : ∃ x, Hid (A.app ⟨#[108, 111, 103]⟩ (frameL l) = x) := ⟨_, hid rfl⟩
            obtain ⟨E, HE⟩ : ∃ x, Hid (A.appE ⟨#[108, 111, 103]⟩ (frameL l) = x) := ⟨_, hid rfl⟩
            rw [HE.out] at HL7 ⊢
            rw [HA'.out] at HD7
            have k7 := HC0.out w7 HD7.out.gr
            have kr7 := HCr.out w7 HD7.out.gr
            have HUU : Hid (z + 13 * i + (l.length + 13) ≤ 4194304) := hid (by have := HRn.out; have := HY.out; omega)
            have HUe : Hid (z + 13 * i + (l.length + 13) = y + 13 * (i + 1)) := hid (by have := HRn.out; have := HY.out; omega)
            have HLl : Hid (l.length ≤ 16777216) := hid (by have := HRn.out; have := HY.out; omega)
            have HWl : Hid (ws.length < 1000000) := hid (by have := HS.out.len; omega)
            have HLg0 : Hid (Lgd A ⟨#[108, 111, 103]⟩ ⟨#[108, 111, 103]⟩ ⟨#[120]⟩ 4194304 (z + 13 * i) ws []) := hid (by have := HS.out.lg; rw [HMd.out.2.2.2.2.1] at this; exact this)
            have HBk := hid (Blk.new w7 [Value.slice ra rn rc] 36)
            have HOw : Hid (OutW w1.heap.size (w7.alloc (.cells #[Value.slice ra rn rc] 36)) wv ws) := hid (HO7.out.keep (galloc _ _ _))
            have HRw : Hid (Rd (w7.alloc (.cells #[Value.slice ra rn rc] 36)) (fun k => k < w1.heap.size) (.slice ra rn rc) l) := hid (HRd.out _ (gtrans HD7.out.gr (galloc _ _ _)))
            have HCs : Hid (w1.heap.size ≤ (w7.alloc (.cells #[Value.slice ra rn rc] 36)).heap.size) := hid (gtrans HD7.out.gr (galloc _ _ none)).size
            have HWm : Hid (ws.length ≤ 1000000) := hid (by have := HWl.out; omega)
            by_cases hin : i + 1 < n
            · as_aux_lemma =>
              have hin' : (i : Int) + 1 < (n : Int) := by omega
              obtain ⟨q1, q2, q3, q4, q5, q6, q7⟩ := HLg0.out.app HMd.out.1 (by rw [HMd.out.2.1]; omega) HUU.out HLl.out HWl.out
              rw [HE.out] at q1
              rw [HA'.out, HUe.out] at q2
              rw [HA'.out] at q3 q4 q5 q6
              have HLz : Hid (lgZ A ⟨#[108, 111, 103]⟩ (flen ws) l = flen (ws ++ [l])) := hid (by unfold lgZ; rw [HE.out, if_pos q1]; unfold flen; rw [flat_app, List.length_append, flat_one, frameL_length])
              rw [q1] at HL7 ⊢
              have HQ : Hid (Lgd A' ⟨#[108, 111, 103]⟩ ⟨#[108, 111, 103]⟩ ⟨#[120]⟩ 4194304 (y + 13 * (i + 1)) (ws ++ [l]) [] ∧ A'.off = false ∧ A'.ar = (n : Int) - ((i + 1 : Nat) : Int) ∧ A'.wr ≤ ((i + 1 : Nat) : Int) ∧ A'.kp = K) := hid ⟨q2, q3, by rw [q4, HMd.out.2.1]; omega, by rw [q5]; have := HS.out.wr'; omega, by rw [q6]; exact HMd.out.2.2.2.2.2.1⟩
              clear q1 q2 q3 q4 q5 q6 q7
              go_wp2_with (first
                | (at_builtin; refine wpList_append_want rfl _ _ rfl w1.heap.size _ ws _ l HOw.out rfl HBk.out HRw.out HWm.out HCs.out ?_; intro v9 w9 hO9 hg9 hb9; have HO9 := hid hO9; have HG9 := hid hg9; have HB9 := hid hb9; clear hO9 hg9 hb9)
                | (go_at_call 9; (with_reducible refine (num_any _ _).mono ?_); rintro e wn ⟨rfl, hwn⟩; have hwn' := hwn.symm; clear hwn; subst hwn'))
              go_roundw
              case rel =>
                have q := ts_row HD7.out HO7.out HP7.out HG9.out HB9.out
                refine ⟨i + 1, y, by go_num, rfl, by omega, by omega, by omega, hid ⟨A', P7, ws ++ [l], [], q.1, HQ.out.1, HO9.out, q.2.1, HQ.out.2.2.2.1, by rw [List.length_append, List.length_singleton]; have := HS.out.len; omega, .inl ⟨HQ.out.2.1, HQ.out.2.2.1, by omega, by rw [HMd.out.2.2.2.1, ← HLt.out], rfl, HQ.out.2.2.2.2, ?_⟩⟩⟩
                have q2 := q.2.2 HL7.out
                rw [HLz.out] at q2
                exact q2
              case measure => simp [intOf]; omega
            · have hin' : ¬ (i : Int) + 1 < (n : Int) := by omega
              obtain ⟨q1, q2, q3, q4, q5, q6, q7⟩ := HLg0.out.torn HMd.out.1 (by rw [HMd.out.2.1]; have := HMd.out.2.2.1; omega) HUU.out HLl.out HWl.out
              rw [HE.out] at q1
              rw [HA'.out, HUe.out] at q6 q7
              rw [HA'.out] at q2 q3 q4
              rw [HMd.out.2.2.2.2.2.1, HRn.out] at q6 q7
              rw [q1] at HL7 ⊢
              have HQ := hid (And.intro q6 q7)
              have HQ2 : Hid (A'.off = true ∧ A'.wr ≤ ((i + 1 : Nat) : Int)) := hid ⟨q2, by rw [q4]; have := HS.out.wr'; omega⟩
              have HOf2 : Hid (Calls Tryd.prog 14 #[.pointer (some ⟨b, 0, none⟩)] w7 fun e w' => e = .returned (.bool true) ∧ w7.grownBy w' none) := hid (by have h := off_p HD7.out.dk; rw [q2] at h; exact h)
              have HNl : Hid (∀ u, w7.grownBy u none → Calls Tryd.prog 15 #[.pointer (some ⟨lb, 0, none⟩), .slice none 0 0] u fun e u' => e = .returned (.int .i64 102) ∧ u' = u) := hid (fun u hu => lapp_off (HL7.out.keep hu).lg _)
              clear q1 q2 q3 q4 q5 q6 q7 HBk HOw HRw HCs k7 kr7
              go_upto_region 23 with (first
                | (go_at_call 15; (with_reducible refine (HNl.out _ HG8.out).mono ?_); rintro e w8' ⟨rfl, hw8⟩; have hw8' := hw8.symm; clear hw8; subst hw8')
                | (go_at_call 14; (with_reducible refine HOf2.out.mono ?_); rintro e w8 ⟨rfl, hg⟩; have HG8 := hid hg; clear hg)
                | (go_at_call 9; (with_reducible refine (num_any _ _).mono ?_); rintro e wn ⟨rfl, hwn⟩; have hwn' := hwn.symm; clear hwn; subst hwn'))
              have HD8 := hid (HD7.out.keep HG8.out)
              have HO8 := hid (HO7.out.keep HG8.out)
              have HC0' := HC0
              have HC0 : Hid (∀ u, w8.grownBy u none → u.cell? ⟨p1, 0, none⟩ = some (.slice (some ⟨g, off, none⟩) nb c)) := hid (fun u hu => HC0'.out u (gtrans HD8.out.gr hu))
              have HC2' := HC2
              have HC2 : Hid (∀ u, w8.grownBy u none → u.cell? ⟨p1, 2, none⟩ = some (.int .i64 K)) := hid (fun u hu => HC2'.out u (gtrans HD8.out.gr hu))
              have HCr' := HCr
              have HCr : Hid (∀ u, w8.grownBy u none → u.cell? ⟨g, off + i, none⟩ = some (.slice ra rn rc)) := hid (fun u hu => HCr'.out u (gtrans HD8.out.gr hu))
              have HZa : Hid (∀ (x y : Operand) (u : World), (do eqGuard .add 3 x y (.int .i64 (rn : Nat)) (.int .i64 13); binOp .add 3 (.int .i64 (rn : Nat)) (.int .i64 13) : Sem Value).run Tryd.prog u = .ok (.int .i64 ((rn + 13 : Nat) : Int)) u) := hid (fun x y u => by have h1 := HLm.out; have e : IntKind.i64.wrap ((rn : Int) + 13) = ((rn + 13 : Nat) : Int) := (by rw [IntKind.wrap_i64]; omega); go_simp)
              by_cases hK : ((rn + 13 : Nat) : Int) ≤ K
              · as_aux_lemma =>
                have HLk : Hid (Lgd A' ⟨#[108, 111, 103]⟩ ⟨#[108, 111, 103]⟩ ⟨#[120]⟩ 4194304 (y + 13 * (i + 1)) (ws ++ [l]) []) := hid (HQ.out.1 hK)
                have HZb : Hid (∀ (x y : Operand) (u : World), (do eqGuard .geq 3 x y (.int .i64 K) (.int .i64 ((rn + 13 : Nat) : Int)); binOp .geq 3 (.int .i64 K) (.int .i64 ((rn + 13 : Nat) : Int)) : Sem Value).run Tryd.prog u = .ok (.bool true) u) := hid (fun x y u => by go_simp; omega)
                clear hK HQ
                refine wp_region_listX (by kernel_rfl) [fun v _ => v = (Value.pointer (some ⟨p1, 2, none⟩)), fun v _ => v = (Value.int .i64 K), fun v _ => v = (Value.pointer (some ⟨p1, 0, none⟩)), fun v _ => v = (Value.slice (some ⟨g, off, none⟩) nb c), fun v _ => v = (Value.int .i64 (i : Nat)), fun v _ => v = (Value.pointer (some ⟨g, off + i, none⟩)), fun v _ => v = (Value.slice ra rn rc), fun v _ => v = (Value.int .i64 (rn : Nat)), fun v _ => v = (Value.int .i64 ((rn + 13 : Nat) : Int)), fun v _ => v = (Value.bool true)] (none) (fun _ => none) 10 (by kernel_rfl) (by kernel_rfl) (by kernel_rfl) (by kernel_rfl) (by decide) noRow_one (fun _ => .inl rfl) ⟨fun i v u u' hki h hg => h, fun i v u u' hki h hg => h, fun i v u u' hki h hg => h, fun i v u u' hki h hg => h, fun i v u u' hki h hg => h, fun i v u u' hki h hg => h, fun i v u u' hki h hg => h, fun i v u u' hki h hg => h, fun i v u u' hki h hg => h, fun i v u u' hki h hg => h, trivial⟩ ⟨?_, ?_, ?_, ?_, ?_, ?_, ?_, ?_, ?_, ?_, trivial⟩ ?_
                · intro A u hu hpu hsz hout hdeps
                  have e1 : A.eval (.tmp 1) = (.pointer (some ⟨p1, 0, none⟩)) := (hout 1 (by kernel_rfl)).trans rfl
                  refine ifw_none rfl ?_
                  with_reducible refine shown_q (Value.pointer (some ⟨p1, 2, none⟩)) ?qq_1_0 (fun _ _ => ?qr_1_0)
                  case qr_1_0 => exact (rfl : (Value.pointer (some ⟨p1, 2, none⟩)) = (Value.pointer (some ⟨p1, 2, none⟩)))
                  with_reducible refine quietAt_field 24 (.tmp 1) 2 ?h0_1_0 ⟨p1, 0, none⟩ ⟨p1, 2, none⟩ ?h1_1_0 ?h2_1_0
                  case h0_1_0 => rfl
                  case h1_1_0 => exact e1
                  case h2_1_0 => kernel_rfl
                · intro A u hu hpu hsz hout hdeps
                  have e128 : A.eval (.tmp 128) = (.pointer (some ⟨p1, 2, none⟩)) := by have h := depL hdeps 0 (by kernel_rfl) 128 (by kernel_rfl); exact h
                  refine ifw_none rfl ?_
                  with_reducible refine shown_q (Value.int .i64 K) ?qq_1_1 (fun _ _ => ?qr_1_1)
                  case qr_1_1 => exact (rfl : (Value.int .i64 K) = (Value.int .i64 K))
                  with_reducible refine quietAt_ld 3 (.tmp 128) (Value.pointer (some ⟨p1, 2, none⟩)) (Value.int .i64 K) ?h0_1_1 ?h1_1_1 ?h2_1_1
                  case h0_1_1 => rfl
                  case h1_1_1 => exact e128
                  case h2_1_1 => exact ld3 p1 2 K u (HC2.out u hu)
                · intro A u hu hpu hsz hout hdeps
                  have e1 : A.eval (.tmp 1) = (.pointer (some ⟨p1, 0, none⟩)) := (hout 1 (by kernel_rfl)).trans rfl
                  refine ifw_none rfl ?_
                  with_reducible refine shown_q (Value.pointer (some ⟨p1, 0, none⟩)) ?qq_1_2 (fun _ _ => ?qr_1_2)
                  case qr_1_2 => exact (rfl : (Value.pointer (some ⟨p1, 0, none⟩)) = (Value.pointer (some ⟨p1, 0, none⟩)))
                  with_reducible refine quietAt_field 24 (.tmp 1) 0 ?h0_1_2 ⟨p1, 0, none⟩ ⟨p1, 0, none⟩ ?h1_1_2 ?h2_1_2
                  case h0_1_2 => rfl
                  case h1_1_2 => exact e1
                  case h2_1_2 => kernel_rfl
                · intro A u hu hpu hsz hout hdeps
                  have e130 : A.eval (.tmp 130) = (.pointer (some ⟨p1, 0, none⟩)) := by have h := depL hdeps 2 (by kernel_rfl) 130 (by kernel_rfl); exact h
                  refine ifw_none rfl ?_
                  with_reducible refine shown_q (Value.slice (some ⟨g, off, none⟩) nb c) ?qq_1_3 (fun _ _ => ?qr_1_3)
                  case qr_1_3 => exact (rfl : (Value.slice (some ⟨g, off, none⟩) nb c) = (Value.slice (some ⟨g, off, none⟩) nb c))
                  with_reducible refine quietAt_ld 22 (.tmp 130) (Value.pointer (some ⟨p1, 0, none⟩)) (Value.slice (some ⟨g, off, none⟩) nb c) ?h0_1_3 ?h1_1_3 ?h2_1_3
                  case h0_1_3 => rfl
                  case h1_1_3 => exact e130
                  case h2_1_3 => exact ld22 p1 0 nb c (some ⟨g, off, none⟩) u (HC0.out u hu)
                · intro A u hu hpu hsz hout hdeps
                  have e11 : A.eval (.tmp 11) = (.int .i64 (i : Nat)) := (hout 11 (by kernel_rfl)).trans rfl
                  refine ifw_none rfl ?_
                  with_reducible refine shown_q (Value.int .i64 (i : Nat)) ?qq_1_4 (fun _ _ => ?qr_1_4)
                  case qr_1_4 => exact (rfl : (Value.int .i64 (i : Nat)) = (Value.int .i64 (i : Nat)))
                  with_reducible refine quietAt_mv (.tmp 11) (Value.int .i64 (i : Nat)) ?h0_1_4 ?h1_1_4
                  case h0_1_4 => rfl
                  case h1_1_4 => exact e11
                · intro A u hu hpu hsz hout hdeps
                  have e131 : A.eval (.tmp 131) = (.slice (some ⟨g, off, none⟩) nb c) := by have h := depL hdeps 3 (by kernel_rfl) 131 (by kernel_rfl); exact h
                  have e132 : A.eval (.tmp 132) = (.int .i64 (i : Nat)) := by have h := depL hdeps 4 (by kernel_rfl) 132 (by kernel_rfl); exact h
                  refine ifw_none rfl ?_
                  with_reducible refine shown_q (Value.pointer (some ⟨g, off + i, none⟩)) ?qq_1_5 (fun _ _ => ?qr_1_5)
                  case qr_1_5 => exact (rfl : (Value.pointer (some ⟨g, off + i, none⟩)) = (Value.pointer (some ⟨g, off + i, none⟩)))
                  with_reducible refine quietAt_idx 22 (.tmp 131) (.tmp 132) (Value.slice (some ⟨g, off, none⟩) nb c) (Value.int .i64 (i : Nat)) (Value.pointer (some ⟨g, off + i, none⟩)) ?h0_1_5 ?h1_1_5 ?h2_1_5 ?h3_1_5
                  case h0_1_5 => rfl
                  case h1_1_5 => exact e131
                  case h2_1_5 => exact e132
                  case h3_1_5 => exact idx22 g off nb c i hlt u
                · intro A u hu hpu hsz hout hdeps
                  have e133 : A.eval (.tmp 133) = (.pointer (some ⟨g, off + i, none⟩)) := by have h := depL hdeps 5 (by kernel_rfl) 133 (by kernel_rfl); exact h
                  refine ifw_none rfl ?_
                  with_reducible refine shown_q (Value.slice ra rn rc) ?qq_1_6 (fun _ _ => ?qr_1_6)
                  case qr_1_6 => exact (rfl : (Value.slice ra rn rc) = (Value.slice ra rn rc))
                  with_reducible refine quietAt_ld 36 (.tmp 133) (Value.pointer (some ⟨g, off + i, none⟩)) (Value.slice ra rn rc) ?h0_1_6 ?h1_1_6 ?h2_1_6
                  case h0_1_6 => rfl
                  case h1_1_6 => exact e133
                  case h2_1_6 => exact ld36 g (off + i) rn rc ra u (HCr.out u hu)
                · intro A u hu hpu hsz hout hdeps
                  have e134 : A.eval (.tmp 134) = (.slice ra rn rc) := by have h := depL hdeps 6 (by kernel_rfl) 134 (by kernel_rfl); exact h
                  refine ifw_none rfl ?_
                  with_reducible refine shown_q (Value.int .i64 (rn : Nat)) ?qq_1_7 (fun _ _ => ?qr_1_7)
                  case qr_1_7 => exact (rfl : (Value.int .i64 (rn : Nat)) = (Value.int .i64 (rn : Nat)))
                  with_reducible refine quietAt_len (.tmp 134) 36 ?h0_1_7 ra rn rc ?h1_1_7 ?h2_1_7
                  case h0_1_7 => rfl
                  case h1_1_7 => exact e134
                  case h2_1_7 => kernel_rfl
                · intro A u hu hpu hsz hout hdeps
                  have e135 : A.eval (.tmp 135) = (.int .i64 (rn : Nat)) := by have h := depL hdeps 7 (by kernel_rfl) 135 (by kernel_rfl); exact h
                  refine ifw_none rfl ?_
                  with_reducible refine shown_q (Value.int .i64 ((rn + 13 : Nat) : Int)) ?qq_1_8 (fun _ _ => ?qr_1_8)
                  case qr_1_8 => exact (rfl : (Value.int .i64 ((rn + 13 : Nat) : Int)) = (Value.int .i64 ((rn + 13 : Nat) : Int)))
                  with_reducible refine quietAt_bin .add 3 (.tmp 135) (.const (.int .i64 13)) 3 (Value.int .i64 (rn : Nat)) (Value.int .i64 13) (Value.int .i64 ((rn + 13 : Nat) : Int)) ?h0_1_8 ?h1_1_8 ?h2_1_8 ?h3_1_8
                  case h0_1_8 => rfl
                  case h1_1_8 => exact e135
                  case h2_1_8 => exact rfl
                  case h3_1_8 => exact HZa.out _ _ u
                · intro A u hu hpu hsz hout hdeps
                  have e129 : A.eval (.tmp 129) = (.int .i64 K) := by have h := depL hdeps 1 (by kernel_rfl) 129 (by kernel_rfl); exact h
                  have e136 : A.eval (.tmp 136) = (.int .i64 ((rn + 13 : Nat) : Int)) := by have h := depL hdeps 8 (by kernel_rfl) 136 (by kernel_rfl); exact h
                  refine ifw_none rfl ?_
                  with_reducible refine shown_q (Value.bool true) ?qq_1_9 (fun _ _ => ?qr_1_9)
                  case qr_1_9 => exact (rfl : (Value.bool true) = (Value.bool true))
                  with_reducible refine quietAt_bin .geq 3 (.tmp 129) (.tmp 136) 3 (Value.int .i64 K) (Value.int .i64 ((rn + 13 : Nat) : Int)) (Value.bool true) ?h0_1_9 ?h1_1_9 ?h2_1_9 ?h3_1_9
                  case h0_1_9 => rfl
                  case h1_1_9 => exact e129
                  case h2_1_9 => exact e136
                  case h3_1_9 => exact HZb.out _ _ u
                · intro A ux listed hh hall
                  have hA := hh.frame
                  have HU := hid hh.grown
                  obtain ⟨x128, hx128⟩ : ∃ x, A.eval (.tmp 128) = x := ⟨_, rfl⟩
                  have f128 : (fun v _ => v = (Value.pointer (some ⟨p1, 2, none⟩))) x128 ux := by rw [← hx128]; exact hh.got 0 _ 128 rfl rfl (hall 0 (by decide))
                  obtain ⟨x129, hx129⟩ : ∃ x, A.eval (.tmp 129) = x := ⟨_, rfl⟩
                  have f129 : (fun v _ => v = (Value.int .i64 K)) x129 ux := by rw [← hx129]; exact hh.got 1 _ 129 rfl rfl (hall 1 (by decide))
                  obtain ⟨x130, hx130⟩ : ∃ x, A.eval (.tmp 130) = x := ⟨_, rfl⟩
                  have f130 : (fun v _ => v = (Value.pointer (some ⟨p1, 0, none⟩))) x130 ux := by rw [← hx130]; exact hh.got 2 _ 130 rfl rfl (hall 2 (by decide))
                  obtain ⟨x131, hx131⟩ : ∃ x, A.eval (.tmp 131) = x := ⟨_, rfl⟩
                  have f131 : (fun v _ => v = (Value.slice (some ⟨g, off, none⟩) nb c)) x131 ux := by rw [← hx131]; exact hh.got 3 _ 131 rfl rfl (hall 3 (by decide))
                  obtain ⟨x132, hx132⟩ : ∃ x, A.eval (.tmp 132) = x := ⟨_, rfl⟩
                  have f132 : (fun v _ => v = (Value.int .i64 (i : Nat))) x132 ux := by rw [← hx132]; exact hh.got 4 _ 132 rfl rfl (hall 4 (by decide))
                  obtain ⟨x133, hx133⟩ : ∃ x, A.eval (.tmp 133) = x := ⟨_, rfl⟩
                  have f133 : (fun v _ => v = (Value.pointer (some ⟨g, off + i, none⟩))) x133 ux := by rw [← hx133]; exact hh.got 5 _ 133 rfl rfl (hall 5 (by decide))
                  obtain ⟨x134, hx134⟩ : ∃ x, A.eval (.tmp 134) = x := ⟨_, rfl⟩
                  have f134 : (fun v _ => v = (Value.slice ra rn rc)) x134 ux := by rw [← hx134]; exact hh.got 6 _ 134 rfl rfl (hall 6 (by decide))
                  obtain ⟨x135, hx135⟩ : ∃ x, A.eval (.tmp 135) = x := ⟨_, rfl⟩
                  have f135 : (fun v _ => v = (Value.int .i64 (rn : Nat))) x135 ux := by rw [← hx135]; exact hh.got 7 _ 135 rfl rfl (hall 7 (by decide))
                  obtain ⟨x136, hx136⟩ : ∃ x, A.eval (.tmp 136) = x := ⟨_, rfl⟩
                  have f136 : (fun v _ => v = (Value.int .i64 ((rn + 13 : Nat) : Int))) x136 ux := by rw [← hx136]; exact hh.got 8 _ 136 rfl rfl (hall 8 (by decide))
                  obtain ⟨x137, hx137⟩ : ∃ x, A.eval (.tmp 137) = x := ⟨_, rfl⟩
                  have f137 : (fun v _ => v = (Value.bool true)) x137 ux := by rw [← hx137]; exact hh.got 9 _ 137 rfl rfl (hall 9 (by decide))
                  dsimp only [wrote, List.foldl] at hA
                  rw [hx128, hx129, hx130, hx131, hx132, hx133, hx134, hx135, hx136, hx137] at hA
                  clear hh hall hx128 hx129 hx130 hx131 hx132 hx133 hx134 hx135 hx136 hx137
                  replace f128 := (f128 : x128 = (.pointer (some ⟨p1, 2, none⟩)))
                  subst f128
                  replace f129 := (f129 : x129 = (.int .i64 K))
                  subst f129
                  replace f130 := (f130 : x130 = (.pointer (some ⟨p1, 0, none⟩)))
                  subst f130
                  replace f131 := (f131 : x131 = (.slice (some ⟨g, off, none⟩) nb c))
                  subst f131
                  replace f132 := (f132 : x132 = (.int .i64 (i : Nat)))
                  subst f132
                  replace f133 := (f133 : x133 = (.pointer (some ⟨g, off + i, none⟩)))
                  subst f133
                  replace f134 := (f134 : x134 = (.slice ra rn rc))
                  subst f134
                  replace f135 := (f135 : x135 = (.int .i64 (rn : Nat)))
                  subst f135
                  replace f136 := (f136 : x136 = (.int .i64 ((rn + 13 : Nat) : Int)))
                  subst f136
                  replace f137 := (f137 : x137 = (.bool true))
                  subst f137
                  subst hA
                  show wpList _ _ _ [] _ _
                  unfold wpList
                  simp only [Act.put, List.setIfInBounds_toArray, List.set_cons_succ, List.set_cons_zero]
                  have HD9 := hid (HD8.out.keep HU.out)
                  have HO9 := hid (HO8.out.keep HU.out)
                  have k9 := HC0.out ux HU.out
                  have kr9 := HCr.out ux HU.out
                  have HBk := hid (Blk.new ux [Value.slice ra rn rc] 36)
                  have HOw : Hid (OutW w1.heap.size (ux.alloc (.cells #[Value.slice ra rn rc] 36)) wv ws) := hid (HO9.out.keep (galloc _ _ _))
                  have HRw : Hid (Rd (ux.alloc (.cells #[Value.slice ra rn rc] 36)) (fun k => k < w1.heap.size) (.slice ra rn rc) l) := hid (HRd.out _ (gtrans HD9.out.gr (galloc _ _ _)))
                  have HCs : Hid (w1.heap.size ≤ (ux.alloc (.cells #[Value.slice ra rn rc] 36)).heap.size) := hid (gtrans HD9.out.gr (galloc _ _ none)).size
                  go_wp2_with (at_builtin; refine wpList_append_want rfl _ _ rfl w1.heap.size _ ws _ l HOw.out rfl HBk.out HRw.out HWm.out HCs.out ?_; intro v9 w9 hO9 hg9 hb9; have HOa := hid hO9; have HGa := hid hg9; have HBa := hid hb9; clear hO9 hg9 hb9)
                  go_roundw
                  case rel =>
                    have q := ts_row HD9.out HO9.out HP7.out HGa.out HBa.out
                    exact ⟨i + 1, y, by go_num, rfl, by omega, by omega, by omega, hid ⟨A', P7, ws ++ [l], [], q.1, HLk.out, HOa.out, q.2.1, HQ2.out.2, by rw [List.length_append, List.length_singleton]; have := HS.out.len; omega, .inr HQ2.out.1⟩⟩
                  case measure => simp [intOf]; omega
              · as_aux_lemma =>
                obtain ⟨t', hLk⟩ := HQ.out.2 (by omega)
                have HLk := hid hLk
                have HZb : Hid (∀ (x y : Operand) (u : World), (do eqGuard .geq 3 x y (.int .i64 K) (.int .i64 ((rn + 13 : Nat) : Int)); binOp .geq 3 (.int .i64 K) (.int .i64 ((rn + 13 : Nat) : Int)) : Sem Value).run Tryd.prog u = .ok (.bool false) u) := hid (fun x y u => by go_simp; omega)
                clear hK HQ hLk
                refine wp_region_listX (by kernel_rfl) [fun v _ => v = (Value.pointer (some ⟨p1, 2, none⟩)), fun v _ => v = (Value.int .i64 K), fun v _ => v = (Value.pointer (some ⟨p1, 0, none⟩)), fun v _ => v = (Value.slice (some ⟨g, off, none⟩) nb c), fun v _ => v = (Value.int .i64 (i : Nat)), fun v _ => v = (Value.pointer (some ⟨g, off + i, none⟩)), fun v _ => v = (Value.slice ra rn rc), fun v _ => v = (Value.int .i64 (rn : Nat)), fun v _ => v = (Value.int .i64 ((rn + 13 : Nat) : Int)), fun v _ => v = (Value.bool false)] (none) (fun _ => none) 10 (by kernel_rfl) (by kernel_rfl) (by kernel_rfl) (by kernel_rfl) (by decide) noRow_one (fun _ => .inl rfl) ⟨fun i v u u' hki h hg => h, fun i v u u' hki h hg => h, fun i v u u' hki h hg => h, fun i v u u' hki h hg => h, fun i v u u' hki h hg => h, fun i v u u' hki h hg => h, fun i v u u' hki h hg => h, fun i v u u' hki h hg => h, fun i v u u' hki h hg => h, fun i v u u' hki h hg => h, trivial⟩ ⟨?_, ?_, ?_, ?_, ?_, ?_, ?_, ?_, ?_, ?_, trivial⟩ ?_
                · intro A u hu hpu hsz hout hdeps
                  have e1 : A.eval (.tmp 1) = (.pointer (some ⟨p1, 0, none⟩)) := (hout 1 (by kernel_rfl)).trans rfl
                  refine ifw_none rfl ?_
                  with_reducible refine shown_q (Value.pointer (some ⟨p1, 2, none⟩)) ?qq_2_0 (fun _ _ => ?qr_2_0)
                  case qr_2_0 => exact (rfl : (Value.pointer (some ⟨p1, 2, none⟩)) = (Value.pointer (some ⟨p1, 2, none⟩)))
                  with_reducible refine quietAt_field 24 (.tmp 1) 2 ?h0_2_0 ⟨p1, 0, none⟩ ⟨p1, 2, none⟩ ?h1_2_0 ?h2_2_0
                  case h0_2_0 => rfl
                  case h1_2_0 => exact e1
                  case h2_2_0 => kernel_rfl
                · intro A u hu hpu hsz hout hdeps
                  have e128 : A.eval (.tmp 128) = (.pointer (some ⟨p1, 2, none⟩)) := by have h := depL hdeps 0 (by kernel_rfl) 128 (by kernel_rfl); exact h
                  refine ifw_none rfl ?_
                  with_reducible refine shown_q (Value.int .i64 K) ?qq_2_1 (fun _ _ => ?qr_2_1)
                  case qr_2_1 => exact (rfl : (Value.int .i64 K) = (Value.int .i64 K))
                  with_reducible refine quietAt_ld 3 (.tmp 128) (Value.pointer (some ⟨p1, 2, none⟩)) (Value.int .i64 K) ?h0_2_1 ?h1_2_1 ?h2_2_1
                  case h0_2_1 => rfl
                  case h1_2_1 => exact e128
                  case h2_2_1 => exact ld3 p1 2 K u (HC2.out u hu)
                · intro A u hu hpu hsz hout hdeps
                  have e1 : A.eval (.tmp 1) = (.pointer (some ⟨p1, 0, none⟩)) := (hout 1 (by kernel_rfl)).trans rfl
                  refine ifw_none rfl ?_
                  with_reducible refine shown_q (Value.pointer (some ⟨p1, 0, none⟩)) ?qq_2_2 (fun _ _ => ?qr_2_2)
                  case qr_2_2 => exact (rfl : (Value.pointer (some ⟨p1, 0, none⟩)) = (Value.pointer (some ⟨p1, 0, none⟩)))
                  with_reducible refine quietAt_field 24 (.tmp 1) 0 ?h0_2_2 ⟨p1, 0, none⟩ ⟨p1, 0, none⟩ ?h1_2_2 ?h2_2_2
                  case h0_2_2 => rfl
                  case h1_2_2 => exact e1
                  case h2_2_2 => kernel_rfl
                · intro A u hu hpu hsz hout hdeps
                  have e130 : A.eval (.tmp 130) = (.pointer (some ⟨p1, 0, none⟩)) := by have h := depL hdeps 2 (by kernel_rfl) 130 (by kernel_rfl); exact h
                  refine ifw_none rfl ?_
                  with_reducible refine shown_q (Value.slice (some ⟨g, off, none⟩) nb c) ?qq_2_3 (fun _ _ => ?qr_2_3)
                  case qr_2_3 => exact (rfl : (Value.slice (some ⟨g, off, none⟩) nb c) = (Value.slice (some ⟨g, off, none⟩) nb c))
                  with_reducible refine quietAt_ld 22 (.tmp 130) (Value.pointer (some ⟨p1, 0, none⟩)) (Value.slice (some ⟨g, off, none⟩) nb c) ?h0_2_3 ?h1_2_3 ?h2_2_3
                  case h0_2_3 => rfl
                  case h1_2_3 => exact e130
                  case h2_2_3 => exact ld22 p1 0 nb c (some ⟨g, off, none⟩) u (HC0.out u hu)
                · intro A u hu hpu hsz hout hdeps
                  have e11 : A.eval (.tmp 11) = (.int .i64 (i : Nat)) := (hout 11 (by kernel_rfl)).trans rfl
                  refine ifw_none rfl ?_
                  with_reducible refine shown_q (Value.int .i64 (i : Nat)) ?qq_2_4 (fun _ _ => ?qr_2_4)
                  case qr_2_4 => exact (rfl : (Value.int .i64 (i : Nat)) = (Value.int .i64 (i : Nat)))
                  with_reducible refine quietAt_mv (.tmp 11) (Value.int .i64 (i : Nat)) ?h0_2_4 ?h1_2_4
                  case h0_2_4 => rfl
                  case h1_2_4 => exact e11
                · intro A u hu hpu hsz hout hdeps
                  have e131 : A.eval (.tmp 131) = (.slice (some ⟨g, off, none⟩) nb c) := by have h := depL hdeps 3 (by kernel_rfl) 131 (by kernel_rfl); exact h
                  have e132 : A.eval (.tmp 132) = (.int .i64 (i : Nat)) := by have h := depL hdeps 4 (by kernel_rfl) 132 (by kernel_rfl); exact h
                  refine ifw_none rfl ?_
                  with_reducible refine shown_q (Value.pointer (some ⟨g, off + i, none⟩)) ?qq_2_5 (fun _ _ => ?qr_2_5)
                  case qr_2_5 => exact (rfl : (Value.pointer (some ⟨g, off + i, none⟩)) = (Value.pointer (some ⟨g, off + i, none⟩)))
                  with_reducible refine quietAt_idx 22 (.tmp 131) (.tmp 132) (Value.slice (some ⟨g, off, none⟩) nb c) (Value.int .i64 (i : Nat)) (Value.pointer (some ⟨g, off + i, none⟩)) ?h0_2_5 ?h1_2_5 ?h2_2_5 ?h3_2_5
                  case h0_2_5 => rfl
                  case h1_2_5 => exact e131
                  case h2_2_5 => exact e132
                  case h3_2_5 => exact idx22 g off nb c i hlt u
                · intro A u hu hpu hsz hout hdeps
                  have e133 : A.eval (.tmp 133) = (.pointer (some ⟨g, off + i, none⟩)) := by have h := depL hdeps 5 (by kernel_rfl) 133 (by kernel_rfl); exact h
                  refine ifw_none rfl ?_
                  with_reducible refine shown_q (Value.slice ra rn rc) ?qq_2_6 (fun _ _ => ?qr_2_6)
                  case qr_2_6 => exact (rfl : (Value.slice ra rn rc) = (Value.slice ra rn rc))
                  with_reducible refine quietAt_ld 36 (.tmp 133) (Value.pointer (some ⟨g, off + i, none⟩)) (Value.slice ra rn rc) ?h0_2_6 ?h1_2_6 ?h2_2_6
                  case h0_2_6 => rfl
                  case h1_2_6 => exact e133
                  case h2_2_6 => exact ld36 g (off + i) rn rc ra u (HCr.out u hu)
                · intro A u hu hpu hsz hout hdeps
                  have e134 : A.eval (.tmp 134) = (.slice ra rn rc) := by have h := depL hdeps 6 (by kernel_rfl) 134 (by kernel_rfl); exact h
                  refine ifw_none rfl ?_
                  with_reducible refine shown_q (Value.int .i64 (rn : Nat)) ?qq_2_7 (fun _ _ => ?qr_2_7)
                  case qr_2_7 => exact (rfl : (Value.int .i64 (rn : Nat)) = (Value.int .i64 (rn : Nat)))
                  with_reducible refine quietAt_len (.tmp 134) 36 ?h0_2_7 ra rn rc ?h1_2_7 ?h2_2_7
                  case h0_2_7 => rfl
                  case h1_2_7 => exact e134
                  case h2_2_7 => kernel_rfl
                · intro A u hu hpu hsz hout hdeps
                  have e135 : A.eval (.tmp 135) = (.int .i64 (rn : Nat)) := by have h := depL hdeps 7 (by kernel_rfl) 135 (by kernel_rfl); exact h
                  refine ifw_none rfl ?_
                  with_reducible refine shown_q (Value.int .i64 ((rn + 13 : Nat) : Int)) ?qq_2_8 (fun _ _ => ?qr_2_8)
                  case qr_2_8 => exact (rfl : (Value.int .i64 ((rn + 13 : Nat) : Int)) = (Value.int .i64 ((rn + 13 : Nat) : Int)))
                  with_reducible refine quietAt_bin .add 3 (.tmp 135) (.const (.int .i64 13)) 3 (Value.int .i64 (rn : Nat)) (Value.int .i64 13) (Value.int .i64 ((rn + 13 : Nat) : Int)) ?h0_2_8 ?h1_2_8 ?h2_2_8 ?h3_2_8
                  case h0_2_8 => rfl
                  case h1_2_8 => exact e135
                  case h2_2_8 => exact rfl
                  case h3_2_8 => exact HZa.out _ _ u
                · intro A u hu hpu hsz hout hdeps
                  have e129 : A.eval (.tmp 129) = (.int .i64 K) := by have h := depL hdeps 1 (by kernel_rfl) 129 (by kernel_rfl); exact h
                  have e136 : A.eval (.tmp 136) = (.int .i64 ((rn + 13 : Nat) : Int)) := by have h := depL hdeps 8 (by kernel_rfl) 136 (by kernel_rfl); exact h
                  refine ifw_none rfl ?_
                  with_reducible refine shown_q (Value.bool false) ?qq_2_9 (fun _ _ => ?qr_2_9)
                  case qr_2_9 => exact (rfl : (Value.bool false) = (Value.bool false))
                  with_reducible refine quietAt_bin .geq 3 (.tmp 129) (.tmp 136) 3 (Value.int .i64 K) (Value.int .i64 ((rn + 13 : Nat) : Int)) (Value.bool false) ?h0_2_9 ?h1_2_9 ?h2_2_9 ?h3_2_9
                  case h0_2_9 => rfl
                  case h1_2_9 => exact e129
                  case h2_2_9 => exact e136
                  case h3_2_9 => exact HZb.out _ _ u
                · intro A ux listed hh hall
                  have hA := hh.frame
                  have HU := hid hh.grown
                  obtain ⟨x128, hx128⟩ : ∃ x, A.eval (.tmp 128) = x := ⟨_, rfl⟩
                  have f128 : (fun v _ => v = (Value.pointer (some ⟨p1, 2, none⟩))) x128 ux := by rw [← hx128]; exact hh.got 0 _ 128 rfl rfl (hall 0 (by decide))
                  obtain ⟨x129, hx129⟩ : ∃ x, A.eval (.tmp 129) = x := ⟨_, rfl⟩
                  have f129 : (fun v _ => v = (Value.int .i64 K)) x129 ux := by rw [← hx129]; exact hh.got 1 _ 129 rfl rfl (hall 1 (by decide))
                  obtain ⟨x130, hx130⟩ : ∃ x, A.eval (.tmp 130) = x := ⟨_, rfl⟩
                  have f130 : (fun v _ => v = (Value.pointer (some ⟨p1, 0, none⟩))) x130 ux := by rw [← hx130]; exact hh.got 2 _ 130 rfl rfl (hall 2 (by decide))
                  obtain ⟨x131, hx131⟩ : ∃ x, A.eval (.tmp 131) = x := ⟨_, rfl⟩
                  have f131 : (fun v _ => v = (Value.slice (some ⟨g, off, none⟩) nb c)) x131 ux := by rw [← hx131]; exact hh.got 3 _ 131 rfl rfl (hall 3 (by decide))
                  obtain ⟨x132, hx132⟩ : ∃ x, A.eval (.tmp 132) = x := ⟨_, rfl⟩
                  have f132 : (fun v _ => v = (Value.int .i64 (i : Nat))) x132 ux := by rw [← hx132]; exact hh.got 4 _ 132 rfl rfl (hall 4 (by decide))
                  obtain ⟨x133, hx133⟩ : ∃ x, A.eval (.tmp 133) = x := ⟨_, rfl⟩
                  have f133 : (fun v _ => v = (Value.pointer (some ⟨g, off + i, none⟩))) x133 ux := by rw [← hx133]; exact hh.got 5 _ 133 rfl rfl (hall 5 (by decide))
                  obtain ⟨x134, hx134⟩ : ∃ x, A.eval (.tmp 134) = x := ⟨_, rfl⟩
                  have f134 : (fun v _ => v = (Value.slice ra rn rc)) x134 ux := by rw [← hx134]; exact hh.got 6 _ 134 rfl rfl (hall 6 (by decide))
                  obtain ⟨x135, hx135⟩ : ∃ x, A.eval (.tmp 135) = x := ⟨_, rfl⟩
                  have f135 : (fun v _ => v = (Value.int .i64 (rn : Nat))) x135 ux := by rw [← hx135]; exact hh.got 7 _ 135 rfl rfl (hall 7 (by decide))
                  obtain ⟨x136, hx136⟩ : ∃ x, A.eval (.tmp 136) = x := ⟨_, rfl⟩
                  have f136 : (fun v _ => v = (Value.int .i64 ((rn + 13 : Nat) : Int))) x136 ux := by rw [← hx136]; exact hh.got 8 _ 136 rfl rfl (hall 8 (by decide))
                  obtain ⟨x137, hx137⟩ : ∃ x, A.eval (.tmp 137) = x := ⟨_, rfl⟩
                  have f137 : (fun v _ => v = (Value.bool false)) x137 ux := by rw [← hx137]; exact hh.got 9 _ 137 rfl rfl (hall 9 (by decide))
                  dsimp only [wrote, List.foldl] at hA
                  rw [hx128, hx129, hx130, hx131, hx132, hx133, hx134, hx135, hx136, hx137] at hA
                  clear hh hall hx128 hx129 hx130 hx131 hx132 hx133 hx134 hx135 hx136 hx137
                  replace f128 := (f128 : x128 = (.pointer (some ⟨p1, 2, none⟩)))
                  subst f128
                  replace f129 := (f129 : x129 = (.int .i64 K))
                  subst f129
                  replace f130 := (f130 : x130 = (.pointer (some ⟨p1, 0, none⟩)))
                  subst f130
                  replace f131 := (f131 : x131 = (.slice (some ⟨g, off, none⟩) nb c))
                  subst f131
                  replace f132 := (f132 : x132 = (.int .i64 (i : Nat)))
                  subst f132
                  replace f133 := (f133 : x133 = (.pointer (some ⟨g, off + i, none⟩)))
                  subst f133
                  replace f134 := (f134 : x134 = (.slice ra rn rc))
                  subst f134
                  replace f135 := (f135 : x135 = (.int .i64 (rn : Nat)))
                  subst f135
                  replace f136 := (f136 : x136 = (.int .i64 ((rn + 13 : Nat) : Int)))
                  subst f136
                  replace f137 := (f137 : x137 = (.bool false))
                  subst f137
                  subst hA
                  show wpList _ _ _ [] _ _
                  unfold wpList
                  simp only [Act.put, List.setIfInBounds_toArray, List.set_cons_succ, List.set_cons_zero]
                  go_wp2_with fail
                  go_roundw
                  case rel => exact ⟨i + 1, y, by go_num, rfl, by omega, by omega, by omega, hid ⟨A', P7, ws, t', HD8.out.keep HU.out, HLk.out, HO8.out.keep HU.out, HP7.out, HQ2.out.2, by have := HS.out.len; omega, .inr HQ2.out.1⟩⟩
                  case measure => simp [intOf]; omega
          · as_aux_lemma =>
            rw [h0] at HOf
            go_wp2_with (go_at_call 14; (with_reducible refine HOf.out.mono ?_); rintro e w5 ⟨rfl, hg⟩; have HG5 := hid hg; clear hg)
            go_meet
            case rel => exact HMeet.out w5 HG5.out
        · as_aux_lemma =>
          have h2' : ¬ (i : Int) < 200 := by omega
          go_wp2_with fail
          go_meet
          case rel => exact HMeet.out w0 (grefl _ _)
      · as_aux_lemma =>
        have hlt' : ¬ (i : Int) < (nb : Int) := by omega
        go_wp2_with fail
        go_meet
        case rel => exact HMeet.out w0 (grefl _ _)
  case rest =>
    obtain ⟨A, P, ws, t, U, hsd, hlg, how, hap, hwr, hU, hwl⟩ := hcut.out
    obtain ⟨wa, wcc, hwv⟩ := how.len
    subst hwv
    obtain ⟨wl, hwl1⟩ : ∃ x, ws.length = x := ⟨_, rfl⟩
    rw [hwl1] at how hap ⊢
    have HSD := hid hsd
    have HLG := hid hlg
    have HOW := hid how
    have HAP := hid hap
    have HWR := hid hwr
    have HWU : Hid (U ≤ 600000 ∧ ws.length ≤ 201 ∧ ws.length = wl) := hid ⟨hU, hwl, hwl1⟩
    clear hsd hlg how hap hwr hU hwl hcut HTS hwl1
    have HAr2 : Hid (∀ u A P, Sd w1 u b A P → OutW w1.heap.size u (.slice wa wl wcc) ws → (∀ k, (Value.slice wa wl wcc).ownBlock = some k → ¬ P k) → Calls Tryd.prog 13 #[.pointer (some ⟨b, 0, none⟩), .int .i64 0, .int .i64 0] u fun e u' => e = .returned (.tuple #[]) ∧ Sd w1 u' b (A.arm 0 0) P ∧ OutW w1.heap.size u' (.slice wa wl wcc) ws) := hid (fun u A P h ho hp => (sd_arm h 0 0 (by omega)).mono fun e u' ⟨q1, q2, q3⟩ => ⟨q1, q2, ho.df q3 hp (fun k hk hp => by have := h.ge k hp; omega)⟩)
    have HOn : Hid (∀ u A P, Sd w1 u b A P → OutW w1.heap.size u (.slice wa wl wcc) ws → (∀ k, (Value.slice wa wl wcc).ownBlock = some k → ¬ P k) → Calls Tryd.prog 17 #[.pointer (some ⟨b, 0, none⟩)] u fun e u' => e = .returned (.tuple #[]) ∧ Sd w1 u' b A.on P ∧ OutW w1.heap.size u' (.slice wa wl wcc) ws) := hid (fun u A P h ho hp => (sd_on h).mono fun e u' ⟨q1, q2, q3⟩ => ⟨q1, q2, ho.df q3 hp (fun k hk hp => by have := h.ge k hp; omega)⟩)
    go_upto_region 27 with (first
      | (go_at_call 17; (with_reducible refine (HOn.out _ _ _ HD5.out HO5.out HAP.out).mono ?_); rintro e w6 ⟨rfl, hd, ho⟩; have HD6 := hid hd; have HO6 := hid ho; clear hd ho)
      | (go_at_call 13; (with_reducible refine (HAr2.out _ _ _ HSD.out HOW.out HAP.out).mono ?_); rintro e w5 ⟨rfl, hd, ho⟩; have HD5 := hid hd; have HO5 := hid ho; clear hd ho))
    obtain ⟨A6, HA6⟩ : ∃ x, Hid ((A.arm 0 0).on = x) := ⟨_, hid rfl⟩
    have H6 : Hid (Lgd A6 ⟨#[108, 111, 103]⟩ ⟨#[108, 111, 103]⟩ ⟨#[120]⟩ 4194304 U ws t ∧ A6.wr ≤ 400 ∧ A6.off = false ∧ A6.ar = 0) := hid (by rw [← HA6.out]; exact ⟨(HLG.out.arm 0 0).on, HWR.out, rfl, rfl⟩)
    rw [HA6.out] at HD6
    have k3 : w6.cell? ⟨p1, 3, none⟩ = some (.int .i64 Th) := (HCell.out w6 HD6.out.gr).cell 3
    have k4 : w6.cell? ⟨p1, 4, none⟩ = some (.int .i64 TK) := (HCell.out w6 HD6.out.gr).cell 4
    clear HD5 HO5 HSD HLG HOW HWR HA6
    by_cases hTh : Th = 0
    · as_aux_lemma =>
      subst hTh
      go_upto_region 34 with fail
      have HQ9 : Hid (∃ A P t, Sd w1 w6 b A P ∧ Lgd A ⟨#[108, 111, 103]⟩ ⟨#[108, 111, 103]⟩ ⟨#[120]⟩ 4194304 U ws t ∧ OutW w1.heap.size w6 (.slice wa wl wcc) ws ∧ (∀ k, (Value.slice wa wl wcc).ownBlock = some k → ¬ P k) ∧ A.wr ≤ 401 ∧ A.off = false ∧ A.ar = 0) := hid ⟨A6, P, t, HD6.out, H6.out.1, HO6.out, HAP.out, by have := H6.out.2.1; omega, H6.out.2.2.1, H6.out.2.2.2⟩
      clear HAr2 HOn HD6 HO6 HAP H6 k3 k4
      obtain ⟨A, P, t, hsd, hlg, how, hap, hwr, h0, har⟩ := HQ9.out
      have HSD := hid hsd
      have HLG := hid hlg
      have HOW := hid how
      have HAP := hid hap
      have HWR := hid hwr
      have H0 := hid h0
      have HAR := hid har
      clear hsd hlg how hap hwr h0 har HQ9
      obtain ⟨fz, HFz⟩ : ∃ x, Hid (flen ws = x) := ⟨_, hid rfl⟩
      have HOp : Hid (Calls Tryd.prog 11 #[.pointer (some ⟨b, 0, none⟩), .string ⟨#[108, 111, 103]⟩] w6 fun e u' => ∃ lb va vg vc P' A', e = .returned (.tuple #[.pointer (some ⟨lb, 0, none⟩), .slice va wl vc, .int .i64 0]) ∧ RowS u' (fun _ => True) va vg 0 ws ∧ Sd w1 u' b A' P' ∧ LgP w1 u' lb b ⟨#[108, 111, 103]⟩ fz false P' ∧ Lgd A' ⟨#[108, 111, 103]⟩ ⟨#[108, 111, 103]⟩ ⟨#[120]⟩ 4194304 U ws [] ∧ A'.off = false ∧ A'.ar = 0 ∧ A'.wr ≤ 402 ∧ OutW w1.heap.size u' (.slice wa wl wcc) ws ∧ (∀ k, (Value.slice wa wl wcc).ownBlock = some k → ¬ P' k)) := hid ((lgd_open HSD.out HT1.out HLG.out H0.out (by rw [HAR.out]; decide) (by decide) (by have := HWR.out; omega)).mono fun e u' ⟨lb, v, P', A', q1, q2, q3, q4, q5, q6, q7, q8, q9, q10, q11⟩ => by
        obtain ⟨va, vg, vc, hv, hr⟩ := q2.row
        rw [HFz.out] at q4
        rw [HWU.out.2.2] at hv
        exact ⟨lb, va, vg, vc, P', A', by rw [q1, hv], hr.mono (fun _ _ => trivial), q3, q4, q7, q8, q9 HAR.out, by have := HWR.out; omega, HOW.out.df q5 HAP.out (fun k hk hp => by have := HSD.out.ge k hp; omega), fun k hk hp => (q6 k hp).elim (HAP.out k hk) (fun q => by have := HOW.out.lt k hk; omega)⟩)
      have HRw : Hid (∀ u va vg vc, RowS u (fun _ => True) va vg 0 ws → OutW w1.heap.size u (.slice wa wl wcc) ws → Calls Tryd.prog 18 #[.slice va wl vc, .slice wa wl wcc] u fun e u' => e = .returned (.bool true) ∧ u.grownBy u' none) := hid (fun u va vg vc h ho => by
        obtain ⟨p, q, r, e, h2⟩ := ho.row
        have h3 := rows_same u _ _ va p vg 0 vc q 0 r ws h h2 (by have := HWU.out.2.1; omega)
        rw [← e, HWU.out.2.2] at h3
        exact h3)
      go_upto_region 37 with (first
        | (go_at_call 18; (with_reducible refine (HRw.out _ _ _ _ HR12.out HO12.out).mono ?_); rintro e w13 ⟨rfl, hg⟩; have HD13 := hid (HD12.out.keep hg); have HL13 := hid (HL12.out.keep hg); have HO13 := hid (HO12.out.keep hg); clear hg)
        | (go_at_call 11; (with_reducible refine HOp.out.mono ?_); rintro e w12 ⟨lb2, va, vg, vc, P2, A2, rfl, hr, hd, hl, hq, h0, har, hwr, ho, hp⟩; have HR12 := hid hr; have HD12 := hid hd; have HL12 := hid hl; have HQ12 := hid (And.intro hq (And.intro h0 (And.intro har hwr))); have HO12 := hid ho; have HP12 := hid hp; clear hr hd hl hq h0 har hwr ho hp)
        | (go_at_call 9; (with_reducible refine (num_any _ _).mono ?_); rintro e wn ⟨rfl, hwn⟩; have hwn' := hwn.symm; clear hwn; subst hwn'))
      obtain ⟨q1, q2, q3, q4, q5, q6, q7⟩ := HQ12.out.1.app HQ12.out.2.1 (by rw [HQ12.out.2.2.1]; decide) (l := more) (by show U + 17 ≤ 4194304; have := HWU.out.1; omega) (by decide) (by have := HWU.out.2.1; omega)
      obtain ⟨A3, HA3⟩ : ∃ x, Hid (A2.app ⟨#[108, 111, 103]⟩ (frameL more) = x) := ⟨_, hid rfl⟩
      rw [HA3.out] at q2 q3 q4 q5
      have HQ3 : Hid (Lgd A3 ⟨#[108, 111, 103]⟩ ⟨#[108, 111, 103]⟩ ⟨#[120]⟩ 4194304 (U + 17) (ws ++ [more]) [] ∧ A3.off = false) := hid ⟨q2, q3⟩
      have hc36 := conv33
      have HAm : Hid (Calls Tryd.prog 15 #[.pointer (some ⟨lb2, 0, none⟩), .slice (some ⟨w13.heap.size, 0, none⟩) 4 4] (w13.alloc (.cells #[.int .u8 109, .int .u8 111, .int .u8 114, .int .u8 101] 5 (4, 5))) fun e u' => ∃ P', e = .returned (.int .i64 0) ∧ Sd w1 u' b A3 P' ∧ LgP w1 u' lb2 b ⟨#[108, 111, 103]⟩ (fz + 17) false P' ∧ OutW w1.heap.size u' (.slice wa wl wcc) ws ∧ (∀ k, (Value.slice wa wl wcc).ownBlock = some k → ¬ P' k)) := hid (by
        have hfz : fz ≤ 1099511627776 := by
          have h1 := HQ12.out.1.old
          have h2 := get_used A2.C ⟨#[108, 111, 103]⟩
          have h3 := HQ12.out.1.live.used
          have h4 : (A2.old ⟨#[108, 111, 103]⟩).length = flen ws := by rw [h1, List.append_nil]; rfl
          unfold Ab.old at h4
          have := HFz.out
          have := HWU.out.1
          omega
        have h := ts_app (HD13.out.keep (galloc _ _ _)) (HL13.out.keep (galloc _ _ _)) (HO13.out.keep (galloc _ _ _)) HP12.out HT1.out (by have := HQ12.out.2.2.2; omega) hfz _ _ more (lit_rd w13 more (4, 5) #[.int .u8 109, .int .u8 111, .int .u8 114, .int .u8 101] rfl 4 rfl) (by decide)
        unfold lgZ at h
        rw [q1, HA3.out] at h
        exact h)
      have HO3 : Hid (∀ u P, Sd w1 u b A3 P → Calls Tryd.prog 11 #[.pointer (some ⟨b, 0, none⟩), .string ⟨#[108, 111, 103]⟩] u fun e u' => ∃ lb va vg vc, e = .returned (.tuple #[.pointer (some ⟨lb, 0, none⟩), .slice va (wl + 1) vc, .int .i64 0]) ∧ RowS u' (fun k => u.heap.size ≤ k) va vg 0 (ws ++ [more]) ∧ Sd w1 u' b A3 P ∧ u.grownBy u' none) := hid (fun u P h => by
        refine (sd_whole h HT1.out (by decide) (HQ3.out.1.fil HQ3.out.2)).mono fun e u' ⟨lb, v, q1, q2, q3, q4, q5⟩ => ?_
        obtain ⟨va, vg, vc, hv, hr⟩ := q2.row
        rw [List.length_append, HWU.out.2.2] at hv
        exact ⟨lb, va, vg, vc, by rw [q1, hv]; rfl, hr.mono (fun k hk => hk.elim id (fun q => absurd q (Nat.not_lt_zero _))), q3, q5⟩)
      clear q1 q2 q3 q4 q5 q6 q7
      go_upto_region 39 with (first
        | (go_at_call 11; (with_reducible refine (HO3.out _ _ HD14.out).mono ?_); rintro e w15 ⟨lb3, xa, xg, xc, rfl, hr, hd, hg⟩; have HR15 := hid hr; have HD15 := hid hd; have HG15 := hid hg; clear hr hd hg)
        | (go_at_call 15; (with_reducible refine HAm.out.mono ?_); rintro e w14 ⟨P4, rfl, hd, hl, ho, hp⟩; have HD14 := hid hd; have HL14 := hid hl; have HO14 := hid ho; have HP14 := hid hp; clear hd hl ho hp))
      obtain ⟨wL, HwL⟩ : ∃ x, Hid (w15.alloc (.cells #[.int .u8 109, .int .u8 111, .int .u8 114, .int .u8 101] 5 (4, 5)) = x) := ⟨_, hid rfl⟩
      have HgL : Hid (w15.grownBy wL none) := hid (by rw [← HwL.out]; exact galloc _ _ _)
      have HlL : Hid (Rd wL (fun k => k = w15.heap.size) (.slice (some ⟨w15.heap.size, 0, none⟩) 4 4) more) := hid (by rw [← HwL.out]; exact lit_rd w15 more (4, 5) #[.int .u8 109, .int .u8 111, .int .u8 114, .int .u8 101] rfl 4 rfl)
      have hwL := HwL.out
      have HBk := hid (Blk.new wL [Value.slice (some ⟨w15.heap.size, 0, none⟩) 4 4] 36)
      have HO15 := hid (HO14.out.keep HG15.out)
      have HOl : Hid (OutW w1.heap.size (wL.alloc (.cells #[Value.slice (some ⟨w15.heap.size, 0, none⟩) 4 4] 36)) (.slice wa wl wcc) ws) := hid ((HO15.out.keep HgL.out).keep (galloc _ _ _))
      have HRl : Hid (Rd (wL.alloc (.cells #[Value.slice (some ⟨w15.heap.size, 0, none⟩) 4 4] 36)) (fun k => k = w15.heap.size) (.slice (some ⟨w15.heap.size, 0, none⟩) 4 4) more) := hid (HlL.out.keep (galloc _ _ _))
      have HFl : Hid (∀ k, k = w15.heap.size → (Value.slice wa wl wcc).ownBlock ≠ some k) := hid (fun k hk e => by have := HO15.out.lt k e; omega)
      have HWm : Hid (ws.length ≤ 1000000) := hid (by have := HWU.out.2.1; omega)
      have HCl : Hid (w1.heap.size ≤ (wL.alloc (.cells #[Value.slice (some ⟨w15.heap.size, 0, none⟩) 4 4] 36)).heap.size) := hid (by have h1 := HD15.out.gr.size; have h2 := HgL.out.size; have h3 := (galloc wL (.cells #[Value.slice (some ⟨w15.heap.size, 0, none⟩) 4 4] 36) none).size; omega)
      have HGa : Hid (w15.grownBy (wL.alloc (.cells #[Value.slice (some ⟨w15.heap.size, 0, none⟩) 4 4] 36)) none) := hid (gtrans HgL.out (galloc _ _ _))
      have HRw2 : Hid (∀ u p q r va vg vc, RowS u (fun _ => True) va vg 0 (ws ++ [more]) → RowS u (fun _ => True) p q 0 (ws ++ [more]) → Calls Tryd.prog 18 #[.slice va (wl + 1) vc, .slice p (wl + 1) r] u fun e u' => e = .returned (.bool true) ∧ u.grownBy u' none) := hid (fun u p q r va vg vc h h2 => by
        have h3 := rows_same u _ _ va p vg 0 vc q 0 r (ws ++ [more]) h h2 (by rw [List.length_append]; have := HWU.out.2.1; simp; omega)
        rw [List.length_append, HWU.out.2.2] at h3
        exact h3)
      have HSz : Hid (∀ u p q r, RowS u (fun _ => True) p q 0 ws → Calls Tryd.prog 20 #[.slice p wl r] u fun e u' => e = .returned (.int .i64 (fz : Nat)) ∧ u' = u) := hid (fun u p q r h => by
        have h3 := rsize_any u _ p q 0 r ws h HWm.out (by
          have h1 := HQ3.out.1.old
          have h2 := get_used A3.C ⟨#[108, 111, 103]⟩
          have h3 := HQ3.out.1.live.used
          have h4 : (A3.old ⟨#[108, 111, 103]⟩).length = flen ws + (more.length + 13) := by rw [h1, List.append_nil]; exact flen_app ws more
          unfold Ab.old at h4
          have := HWU.out.1
          omega)
        rw [HWU.out.2.2, HFz.out] at h3
        exact h3)
      have hfz : fz ≤ 1099511627776 := by
        have h1 := HQ3.out.1.old
        have h2 := get_used A3.C ⟨#[108, 111, 103]⟩
        have h3 := HQ3.out.1.live.used
        have h4 : (A3.old ⟨#[108, 111, 103]⟩).length = flen ws + (more.length + 13) := by rw [h1, List.append_nil]; exact flen_app ws more
        unfold Ab.old at h4
        have := HFz.out
        have := HWU.out.1
        omega
      have hcs : ((fz + 17 : Nat) : Int) = (fz : Int) + 17 := by omega
      have HLs := hid HWU.out.2.2
      go_wp2_with (first
        | (at_builtin; refine wpList_append_last (by with_unfolding_all rfl) _ _ rfl w1.heap.size _ ws _ more _ HOl.out rfl HBk.out HRl.out HFl.out HWm.out HCl.out ?_; rintro v9 w16 ⟨y1, y2, y3, rfl, hr9⟩ ⟨z1, z2, z3, hz9, ho9⟩ hg9; rw [HLs.out] at hz9 ⊢; have hz9' : (Value.slice wa wl wcc) = .slice z1 wl z3 := hz9; injection hz9' with hz1 hz2 hz3; subst hz1; have HR9 := hid hr9; have HZ9 := hid ho9; have HG9 := hid hg9; have HX9 := hid ((HR15.out.keep HGa.out).df (DF.opt hg9 (fun k hk => hk)) (fun k hk e => by have h1 := HO14.out.lt k e; omega)); have HL9 := hid ((HL14.out.keep (gtrans HG15.out HGa.out)).row hg9 (HOl.out.ne_lg (HL14.out.keep (gtrans HG15.out HGa.out)).lg)); clear hr9 ho9 hz9 hg9 hz2 hz3)
        | (go_at_call 20; (with_reducible refine (HSz.out _ _ _ _ HZw.out).mono ?_); rintro e w19 ⟨rfl, hw19⟩; have hw19' := hw19.symm; clear hw19; subst hw19')
        | (go_at_call 19; (with_reducible refine (lsize_any HL17.out.lg).mono ?_); rintro e w18 ⟨rfl, hw18⟩; have hw18' := hw18.symm; clear hw18; subst hw18')
        | (go_at_call 18; (with_reducible refine (HRw2.out _ _ _ _ _ _ _ (HX9.out.mono (fun _ _ => trivial)) HR9.out).mono ?_); rintro e w17 ⟨rfl, hg⟩; have HL17 := hid (HL9.out.keep hg); have HZw := hid (HZ9.out.keep hg); have HGz := hid hg; clear hg)
        | (go_at_call 9; (with_reducible refine (num_any _ _).mono ?_); rintro e wn ⟨rfl, hwn⟩; have hwn' := hwn.symm; clear hwn; subst hwn'))
      go_ret
      exact ⟨rfl, gtrans HG1.out (gtrans ((gtrans HD15.out.gr HGa.out).andThen HG9.out (fun q hq => .inl (HO14.out.low q hq))) HGz.out)⟩
    · have HAr : Hid (Calls Tryd.prog 13 #[.pointer (some ⟨b, 0, none⟩), .int .i64 1, .int .i64 TK] w6 fun e u' => e = .returned (.tuple #[]) ∧ Sd w1 u' b (A6.arm 1 TK) P ∧ OutW w1.heap.size u' (.slice wa wl wcc) ws) := hid ((sd_arm HD6.out 1 TK (by omega)).mono fun e u' ⟨q1, q2, q3⟩ => ⟨q1, q2, HO6.out.df q3 HAP.out (fun k hk hp => by have := HD6.out.ge k hp; omega)⟩)
      by_cases ht : t = []
      · as_aux_lemma =>
        subst ht
        have HOp : Hid (∀ u, Sd w1 u b (A6.arm 1 TK) P → Calls Tryd.prog 11 #[.pointer (some ⟨b, 0, none⟩), .string ⟨#[108, 111, 103]⟩] u fun e u' => ∃ lb v, e = .returned (.tuple #[.pointer (some ⟨lb, 0, none⟩), v, .int .i64 0]) ∧ Sd w1 u' b (A6.arm 1 TK) P ∧ u.grownBy u' none) := hid (fun u h => (sd_whole h HT1.out (by decide) ((H6.out.1.arm 1 TK).fil H6.out.2.2.1)).mono fun e u' ⟨lb, v, q1, q2, q3, q4, q5⟩ => ⟨lb, v, q1, q3, q5⟩)
        have HOf : Hid (∀ u, Sd w1 u b (A6.arm 1 TK) P → Calls Tryd.prog 14 #[.pointer (some ⟨b, 0, none⟩)] u fun e u' => e = .returned (.bool false) ∧ u.grownBy u' none) := hid (fun u h => by have q := off_p h.dk; rw [show (A6.arm 1 TK).off = false from H6.out.2.2.1] at q; exact q)
        go_upto_region 34 with (first
          | (go_at_call 17; (with_reducible refine (HOn.out _ _ _ HD10.out HO10.out HAP.out).mono ?_); rintro e w11 ⟨rfl, hd, ho⟩; have HD11 := hid hd; have HO11 := hid ho; clear hd ho)
          | (have := HD9; clear this; go_at_call 13; (with_reducible refine (HAr2.out _ _ _ HD9.out HO9.out HAP.out).mono ?_); rintro e w10 ⟨rfl, hd, ho⟩; have HD10 := hid hd; have HO10 := hid ho; clear hd ho)
          | (go_at_call 14; (with_reducible refine (HOf.out _ HD8.out).mono ?_); rintro e w9 ⟨rfl, hg⟩; have HD9 := hid (HD8.out.keep hg); have HO9 := hid (HO8.out.keep hg); clear hg)
          | (go_at_call 11; (with_reducible refine (HOp.out _ HD7.out).mono ?_); rintro e w8 ⟨lb8, v8, rfl, hd, hg⟩; have HD8 := hid hd; have HO8 := hid (HO7.out.keep hg); clear hd hg)
          | (go_at_call 13; (with_reducible refine HAr.out.mono ?_); rintro e w7 ⟨rfl, hd, ho⟩; have HD7 := hid hd; have HO7 := hid ho; clear hd ho))
        have HQ9 : Hid (∃ A P t, Sd w1 w11 b A P ∧ Lgd A ⟨#[108, 111, 103]⟩ ⟨#[108, 111, 103]⟩ ⟨#[120]⟩ 4194304 U ws t ∧ OutW w1.heap.size w11 (.slice wa wl wcc) ws ∧ (∀ k, (Value.slice wa wl wcc).ownBlock = some k → ¬ P k) ∧ A.wr ≤ 401 ∧ A.off = false ∧ A.ar = 0) := hid ⟨_, P, [], HD11.out, (((H6.out.1.arm 1 TK).arm 0 0).on), HO11.out, HAP.out, (show A6.wr ≤ 401 by have := H6.out.2.1; omega), rfl, rfl⟩
        clear HAr2 HOn HD6 HO6 HAP H6 k3 k4 HD7 HD8 HD9 HD10 HD11 HO7 HO8 HO9 HO10 HO11 HOp HOf HAr
        obtain ⟨A, P, t, hsd, hlg, how, hap, hwr, h0, har⟩ := HQ9.out
        have HSD := hid hsd
        have HLG := hid hlg
        have HOW := hid how
        have HAP := hid hap
        have HWR := hid hwr
        have H0 := hid h0
        have HAR := hid har
        clear hsd hlg how hap hwr h0 har HQ9
        obtain ⟨fz, HFz⟩ : ∃ x, Hid (flen ws = x) := ⟨_, hid rfl⟩
        have HOp : Hid (Calls Tryd.prog 11 #[.pointer (some ⟨b, 0, none⟩), .string ⟨#[108, 111, 103]⟩] w11 fun e u' => ∃ lb va vg vc P' A', e = .returned (.tuple #[.pointer (some ⟨lb, 0, none⟩), .slice va wl vc, .int .i64 0]) ∧ RowS u' (fun _ => True) va vg 0 ws ∧ Sd w1 u' b A' P' ∧ LgP w1 u' lb b ⟨#[108, 111, 103]⟩ fz false P' ∧ Lgd A' ⟨#[108, 111, 103]⟩ ⟨#[108, 111, 103]⟩ ⟨#[120]⟩ 4194304 U ws [] ∧ A'.off = false ∧ A'.ar = 0 ∧ A'.wr ≤ 402 ∧ OutW w1.heap.size u' (.slice wa wl wcc) ws ∧ (∀ k, (Value.slice wa wl wcc).ownBlock = some k → ¬ P' k)) := hid ((lgd_open HSD.out HT1.out HLG.out H0.out (by rw [HAR.out]; decide) (by decide) (by have := HWR.out; omega)).mono fun e u' ⟨lb, v, P', A', q1, q2, q3, q4, q5, q6, q7, q8, q9, q10, q11⟩ => by
          obtain ⟨va, vg, vc, hv, hr⟩ := q2.row
          rw [HFz.out] at q4
          rw [HWU.out.2.2] at hv
          exact ⟨lb, va, vg, vc, P', A', by rw [q1, hv], hr.mono (fun _ _ => trivial), q3, q4, q7, q8, q9 HAR.out, by have := HWR.out; omega, HOW.out.df q5 HAP.out (fun k hk hp => by have := HSD.out.ge k hp; omega), fun k hk hp => (q6 k hp).elim (HAP.out k hk) (fun q => by have := HOW.out.lt k hk; omega)⟩)
        have HRw : Hid (∀ u va vg vc, RowS u (fun _ => True) va vg 0 ws → OutW w1.heap.size u (.slice wa wl wcc) ws → Calls Tryd.prog 18 #[.slice va wl vc, .slice wa wl wcc] u fun e u' => e = .returned (.bool true) ∧ u.grownBy u' none) := hid (fun u va vg vc h ho => by
          obtain ⟨p, q, r, e, h2⟩ := ho.row
          have h3 := rows_same u _ _ va p vg 0 vc q 0 r ws h h2 (by have := HWU.out.2.1; omega)
          rw [← e, HWU.out.2.2] at h3
          exact h3)
        go_upto_region 37 with (first
          | (go_at_call 18; (with_reducible refine (HRw.out _ _ _ _ HR12.out HO12.out).mono ?_); rintro e w13 ⟨rfl, hg⟩; have HD13 := hid (HD12.out.keep hg); have HL13 := hid (HL12.out.keep hg); have HO13 := hid (HO12.out.keep hg); clear hg)
          | (go_at_call 11; (with_reducible refine HOp.out.mono ?_); rintro e w12 ⟨lb2, va, vg, vc, P2, A2, rfl, hr, hd, hl, hq, h0, har, hwr, ho, hp⟩; have HR12 := hid hr; have HD12 := hid hd; have HL12 := hid hl; have HQ12 := hid (And.intro hq (And.intro h0 (And.intro har hwr))); have HO12 := hid ho; have HP12 := hid hp; clear hr hd hl hq h0 har hwr ho hp)
          | (go_at_call 9; (with_reducible refine (num_any _ _).mono ?_); rintro e wn ⟨rfl, hwn⟩; have hwn' := hwn.symm; clear hwn; subst hwn'))
        obtain ⟨q1, q2, q3, q4, q5, q6, q7⟩ := HQ12.out.1.app HQ12.out.2.1 (by rw [HQ12.out.2.2.1]; decide) (l := more) (by show U + 17 ≤ 4194304; have := HWU.out.1; omega) (by decide) (by have := HWU.out.2.1; omega)
        obtain ⟨A3, HA3⟩ : ∃ x, Hid (A2.app ⟨#[108, 111, 103]⟩ (frameL more) = x) := ⟨_, hid rfl⟩
        rw [HA3.out] at q2 q3 q4 q5
        have HQ3 : Hid (Lgd A3 ⟨#[108, 111, 103]⟩ ⟨#[108, 111, 103]⟩ ⟨#[120]⟩ 4194304 (U + 17) (ws ++ [more]) [] ∧ A3.off = false) := hid ⟨q2, q3⟩
        have hc36 := conv33
        have HAm : Hid (Calls Tryd.prog 15 #[.pointer (some ⟨lb2, 0, none⟩), .slice (some ⟨w13.heap.size, 0, none⟩) 4 4] (w13.alloc (.cells #[.int .u8 109, .int .u8 111, .int .u8 114, .int .u8 101] 5 (4, 5))) fun e u' => ∃ P', e = .returned (.int .i64 0) ∧ Sd w1 u' b A3 P' ∧ LgP w1 u' lb2 b ⟨#[108, 111, 103]⟩ (fz + 17) false P' ∧ OutW w1.heap.size u' (.slice wa wl wcc) ws ∧ (∀ k, (Value.slice wa wl wcc).ownBlock = some k → ¬ P' k)) := hid (by
          have hfz : fz ≤ 1099511627776 := by
            have h1 := HQ12.out.1.old
            have h2 := get_used A2.C ⟨#[108, 111, 103]⟩
            have h3 := HQ12.out.1.live.used
            have h4 : (A2.old ⟨#[108, 111, 103]⟩).length = flen ws := by rw [h1, List.append_nil]; rfl
            unfold Ab.old at h4
            have := HFz.out
            have := HWU.out.1
            omega
          have h := ts_app (HD13.out.keep (galloc _ _ _)) (HL13.out.keep (galloc _ _ _)) (HO13.out.keep (galloc _ _ _)) HP12.out HT1.out (by have := HQ12.out.2.2.2; omega) hfz _ _ more (lit_rd w13 more (4, 5) #[.int .u8 109, .int .u8 111, .int .u8 114, .int .u8 101] rfl 4 rfl) (by decide)
          unfold lgZ at h
          rw [q1, HA3.out] at h
          exact h)
        have HO3 : Hid (∀ u P, Sd w1 u b A3 P → Calls Tryd.prog 11 #[.pointer (some ⟨b, 0, none⟩), .string ⟨#[108, 111, 103]⟩] u fun e u' => ∃ lb va vg vc, e = .returned (.tuple #[.pointer (some ⟨lb, 0, none⟩), .slice va (wl + 1) vc, .int .i64 0]) ∧ RowS u' (fun k => u.heap.size ≤ k) va vg 0 (ws ++ [more]) ∧ Sd w1 u' b A3 P ∧ u.grownBy u' none) := hid (fun u P h => by
          refine (sd_whole h HT1.out (by decide) (HQ3.out.1.fil HQ3.out.2)).mono fun e u' ⟨lb, v, q1, q2, q3, q4, q5⟩ => ?_
          obtain ⟨va, vg, vc, hv, hr⟩ := q2.row
          rw [List.length_append, HWU.out.2.2] at hv
          exact ⟨lb, va, vg, vc, by rw [q1, hv]; rfl, hr.mono (fun k hk => hk.elim id (fun q => absurd q (Nat.not_lt_zero _))), q3, q5⟩)
        clear q1 q2 q3 q4 q5 q6 q7
        go_upto_region 39 with (first
          | (go_at_call 11; (with_reducible refine (HO3.out _ _ HD14.out).mono ?_); rintro e w15 ⟨lb3, xa, xg, xc, rfl, hr, hd, hg⟩; have HR15 := hid hr; have HD15 := hid hd; have HG15 := hid hg; clear hr hd hg)
          | (go_at_call 15; (with_reducible refine HAm.out.mono ?_); rintro e w14 ⟨P4, rfl, hd, hl, ho, hp⟩; have HD14 := hid hd; have HL14 := hid hl; have HO14 := hid ho; have HP14 := hid hp; clear hd hl ho hp))
        obtain ⟨wL, HwL⟩ : ∃ x, Hid (w15.alloc (.cells #[.int .u8 109, .int .u8 111, .int .u8 114, .int .u8 101] 5 (4, 5)) = x) := ⟨_, hid rfl⟩
        have HgL : Hid (w15.grownBy wL none) := hid (by rw [← HwL.out]; exact galloc _ _ _)
        have HlL : Hid (Rd wL (fun k => k = w15.heap.size) (.slice (some ⟨w15.heap.size, 0, none⟩) 4 4) more) := hid (by rw [← HwL.out]; exact lit_rd w15 more (4, 5) #[.int .u8 109, .int .u8 111, .int .u8 114, .int .u8 101] rfl 4 rfl)
        have hwL := HwL.out
        have HBk := hid (Blk.new wL [Value.slice (some ⟨w15.heap.size, 0, none⟩) 4 4] 36)
        have HO15 := hid (HO14.out.keep HG15.out)
        have HOl : Hid (OutW w1.heap.size (wL.alloc (.cells #[Value.slice (some ⟨w15.heap.size, 0, none⟩) 4 4] 36)) (.slice wa wl wcc) ws) := hid ((HO15.out.keep HgL.out).keep (galloc _ _ _))
        have HRl : Hid (Rd (wL.alloc (.cells #[Value.slice (some ⟨w15.heap.size, 0, none⟩) 4 4] 36)) (fun k => k = w15.heap.size) (.slice (some ⟨w15.heap.size, 0, none⟩) 4 4) more) := hid (HlL.out.keep (galloc _ _ _))
        have HFl : Hid (∀ k, k = w15.heap.size → (Value.slice wa wl wcc).ownBlock ≠ some k) := hid (fun k hk e => by have := HO15.out.lt k e; omega)
        have HWm : Hid (ws.length ≤ 1000000) := hid (by have := HWU.out.2.1; omega)
        have HCl : Hid (w1.heap.size ≤ (wL.alloc (.cells #[Value.slice (some ⟨w15.heap.size, 0, none⟩) 4 4] 36)).heap.size) := hid (by have h1 := HD15.out.gr.size; have h2 := HgL.out.size; have h3 := (galloc wL (.cells #[Value.slice (some ⟨w15.heap.size, 0, none⟩) 4 4] 36) none).size; omega)
        have HGa : Hid (w15.grownBy (wL.alloc (.cells #[Value.slice (some ⟨w15.heap.size, 0, none⟩) 4 4] 36)) none) := hid (gtrans HgL.out (galloc _ _ _))
        have HRw2 : Hid (∀ u p q r va vg vc, RowS u (fun _ => True) va vg 0 (ws ++ [more]) → RowS u (fun _ => True) p q 0 (ws ++ [more]) → Calls Tryd.prog 18 #[.slice va (wl + 1) vc, .slice p (wl + 1) r] u fun e u' => e = .returned (.bool true) ∧ u.grownBy u' none) := hid (fun u p q r va vg vc h h2 => by
          have h3 := rows_same u _ _ va p vg 0 vc q 0 r (ws ++ [more]) h h2 (by rw [List.length_append]; have := HWU.out.2.1; simp; omega)
          rw [List.length_append, HWU.out.2.2] at h3
          exact h3)
        have HSz : Hid (∀ u p q r, RowS u (fun _ => True) p q 0 ws → Calls Tryd.prog 20 #[.slice p wl r] u fun e u' => e = .returned (.int .i64 (fz : Nat)) ∧ u' = u) := hid (fun u p q r h => by
          have h3 := rsize_any u _ p q 0 r ws h HWm.out (by
            have h1 := HQ3.out.1.old
            have h2 := get_used A3.C ⟨#[108, 111, 103]⟩
            have h3 := HQ3.out.1.live.used
            have h4 : (A3.old ⟨#[108, 111, 103]⟩).length = flen ws + (more.length + 13) := by rw [h1, List.append_nil]; exact flen_app ws more
            unfold Ab.old at h4
            have := HWU.out.1
            omega)
          rw [HWU.out.2.2, HFz.out] at h3
          exact h3)
        have hfz : fz ≤ 1099511627776 := by
          have h1 := HQ3.out.1.old
          have h2 := get_used A3.C ⟨#[108, 111, 103]⟩
          have h3 := HQ3.out.1.live.used
          have h4 : (A3.old ⟨#[108, 111, 103]⟩).length = flen ws + (more.length + 13) := by rw [h1, List.append_nil]; exact flen_app ws more
          unfold Ab.old at h4
          have := HFz.out
          have := HWU.out.1
          omega
        have hcs : ((fz + 17 : Nat) : Int) = (fz : Int) + 17 := by omega
        have HLs := hid HWU.out.2.2
        go_wp2_with (first
          | (at_builtin; refine wpList_append_last (by with_unfolding_all rfl) _ _ rfl w1.heap.size _ ws _ more _ HOl.out rfl HBk.out HRl.out HFl.out HWm.out HCl.out ?_; rintro v9 w16 ⟨y1, y2, y3, rfl, hr9⟩ ⟨z1, z2, z3, hz9, ho9⟩ hg9; rw [HLs.out] at hz9 ⊢; have hz9' : (Value.slice wa wl wcc) = .slice z1 wl z3 := hz9; injection hz9' with hz1 hz2 hz3; subst hz1; have HR9 := hid hr9; have HZ9 := hid ho9; have HG9 := hid hg9; have HX9 := hid ((HR15.out.keep HGa.out).df (DF.opt hg9 (fun k hk => hk)) (fun k hk e => by have h1 := HO14.out.lt k e; omega)); have HL9 := hid ((HL14.out.keep (gtrans HG15.out HGa.out)).row hg9 (HOl.out.ne_lg (HL14.out.keep (gtrans HG15.out HGa.out)).lg)); clear hr9 ho9 hz9 hg9 hz2 hz3)
          | (go_at_call 20; (with_reducible refine (HSz.out _ _ _ _ HZw.out).mono ?_); rintro e w19 ⟨rfl, hw19⟩; have hw19' := hw19.symm; clear hw19; subst hw19')
          | (go_at_call 19; (with_reducible refine (lsize_any HL17.out.lg).mono ?_); rintro e w18 ⟨rfl, hw18⟩; have hw18' := hw18.symm; clear hw18; subst hw18')
          | (go_at_call 18; (with_reducible refine (HRw2.out _ _ _ _ _ _ _ (HX9.out.mono (fun _ _ => trivial)) HR9.out).mono ?_); rintro e w17 ⟨rfl, hg⟩; have HL17 := hid (HL9.out.keep hg); have HZw := hid (HZ9.out.keep hg); have HGz := hid hg; clear hg)
          | (go_at_call 9; (with_reducible refine (num_any _ _).mono ?_); rintro e wn ⟨rfl, hwn⟩; have hwn' := hwn.symm; clear hwn; subst hwn'))
        go_ret
        exact ⟨rfl, gtrans HG1.out (gtrans ((gtrans HD15.out.gr HGa.out).andThen HG9.out (fun q hq => .inl (HO14.out.low q hq))) HGz.out)⟩
      · as_aux_lemma =>
        have HOp : Hid (∀ u, Sd w1 u b (A6.arm 1 TK) P → OutW w1.heap.size u (.slice wa wl wcc) ws → Calls Tryd.prog 11 #[.pointer (some ⟨b, 0, none⟩), .string ⟨#[108, 111, 103]⟩] u fun e u' => e = .returned (.tuple #[.pointer none, .slice none 0 0, .int .i64 94]) ∧ ∃ P' A' t', Sd w1 u' b A' P' ∧ Lgd A' ⟨#[108, 111, 103]⟩ ⟨#[108, 111, 103]⟩ ⟨#[120]⟩ 4194304 U ws t' ∧ A'.off = true ∧ A'.wr ≤ 401 ∧ OutW w1.heap.size u' (.slice wa wl wcc) ws ∧ (∀ k, (Value.slice wa wl wcc).ownBlock = some k → ¬ P' k)) := hid (fun u h ho => (lgd_fell h HT1.out (H6.out.1.arm 1 TK) H6.out.2.2.1 rfl (by decide) (show A6.wr ≤ _ by have := H6.out.2.1; omega) ht).mono fun e u' ⟨P', A', t', q1, q2, q3, q4, q5, q6, q7⟩ => ⟨q1, P', A', t', q2, q5, q6, (by have h1 := H6.out.2.1; have h2 : (A6.arm 1 TK).wr = A6.wr := rfl; omega), ho.df q3 HAP.out (fun k hk hp => by have := h.ge k hp; omega), fun k hk hp => (q4 k hp).elim (HAP.out k hk) (fun q => by have := ho.lt k hk; omega)⟩)
        have HOf : Hid (∀ u A P, Sd w1 u b A P → A.off = true → Calls Tryd.prog 14 #[.pointer (some ⟨b, 0, none⟩)] u fun e u' => e = .returned (.bool true) ∧ u.grownBy u' none) := hid (fun u A P h h1 => by have q := off_p h.dk; rw [h1] at q; exact q)
        go_upto_region 34 with (first
          | (go_at_call 17; (with_reducible refine (HOn.out _ _ _ HD10.out HO10.out HP8.out).mono ?_); rintro e w11 ⟨rfl, hd, ho⟩; have HD11 := hid hd; have HO11 := hid ho; clear hd ho)
          | (have := HD9; clear this; go_at_call 13; (with_reducible refine (HAr2.out _ _ _ HD9.out HO9.out HP8.out).mono ?_); rintro e w10 ⟨rfl, hd, ho⟩; have HD10 := hid hd; have HO10 := hid ho; clear hd ho)
          | (go_at_call 14; (with_reducible refine (HOf.out _ _ _ HD8.out HF8.out).mono ?_); rintro e w9 ⟨rfl, hg⟩; have HD9 := hid (HD8.out.keep hg); have HO9 := hid (HO8.out.keep hg); clear hg)
          | (go_at_call 11; (with_reducible refine (HOp.out _ HD7.out HO7.out).mono ?_); rintro e w8 ⟨rfl, P8, A8, t8, hd, hl, hf, hwr8, ho, hp⟩; have HD8 := hid hd; have HO8 := hid ho; have HL8 := hid hl; have HF8 := hid hf; have HW8 := hid hwr8; have HP8 := hid hp; clear hd ho hl hf hwr8 hp)
          | (go_at_call 13; (with_reducible refine HAr.out.mono ?_); rintro e w7 ⟨rfl, hd, ho⟩; have HD7 := hid hd; have HO7 := hid ho; clear hd ho)
          | (go_at_call 9; (with_reducible refine (num_any _ _).mono ?_); rintro e wn ⟨rfl, hwn⟩; have hwn' := hwn.symm; clear hwn; subst hwn'))
        have HQ9 : Hid (∃ A P t, Sd w1 w11 b A P ∧ Lgd A ⟨#[108, 111, 103]⟩ ⟨#[108, 111, 103]⟩ ⟨#[120]⟩ 4194304 U ws t ∧ OutW w1.heap.size w11 (.slice wa wl wcc) ws ∧ (∀ k, (Value.slice wa wl wcc).ownBlock = some k → ¬ P k) ∧ A.wr ≤ 401 ∧ A.off = false ∧ A.ar = 0) := hid ⟨_, P8, t8, HD11.out, ((HL8.out.arm 0 0).on), HO11.out, HP8.out, HW8.out, rfl, rfl⟩
        clear HAr2 HOn HD6 HO6 HAP H6 k3 k4 HD7 HD8 HD9 HD10 HD11 HO7 HO8 HO9 HO10 HO11 HOp HOf HAr HL8 HF8 HW8 HP8
        obtain ⟨A, P, t, hsd, hlg, how, hap, hwr, h0, har⟩ := HQ9.out
        have HSD := hid hsd
        have HLG := hid hlg
        have HOW := hid how
        have HAP := hid hap
        have HWR := hid hwr
        have H0 := hid h0
        have HAR := hid har
        clear hsd hlg how hap hwr h0 har HQ9
        obtain ⟨fz, HFz⟩ : ∃ x, Hid (flen ws = x) := ⟨_, hid rfl⟩
        have HOp : Hid (Calls Tryd.prog 11 #[.pointer (some ⟨b, 0, none⟩), .string ⟨#[108, 111, 103]⟩] w11 fun e u' => ∃ lb va vg vc P' A', e = .returned (.tuple #[.pointer (some ⟨lb, 0, none⟩), .slice va wl vc, .int .i64 0]) ∧ RowS u' (fun _ => True) va vg 0 ws ∧ Sd w1 u' b A' P' ∧ LgP w1 u' lb b ⟨#[108, 111, 103]⟩ fz false P' ∧ Lgd A' ⟨#[108, 111, 103]⟩ ⟨#[108, 111, 103]⟩ ⟨#[120]⟩ 4194304 U ws [] ∧ A'.off = false ∧ A'.ar = 0 ∧ A'.wr ≤ 402 ∧ OutW w1.heap.size u' (.slice wa wl wcc) ws ∧ (∀ k, (Value.slice wa wl wcc).ownBlock = some k → ¬ P' k)) := hid ((lgd_open HSD.out HT1.out HLG.out H0.out (by rw [HAR.out]; decide) (by decide) (by have := HWR.out; omega)).mono fun e u' ⟨lb, v, P', A', q1, q2, q3, q4, q5, q6, q7, q8, q9, q10, q11⟩ => by
          obtain ⟨va, vg, vc, hv, hr⟩ := q2.row
          rw [HFz.out] at q4
          rw [HWU.out.2.2] at hv
          exact ⟨lb, va, vg, vc, P', A', by rw [q1, hv], hr.mono (fun _ _ => trivial), q3, q4, q7, q8, q9 HAR.out, by have := HWR.out; omega, HOW.out.df q5 HAP.out (fun k hk hp => by have := HSD.out.ge k hp; omega), fun k hk hp => (q6 k hp).elim (HAP.out k hk) (fun q => by have := HOW.out.lt k hk; omega)⟩)
        have HRw : Hid (∀ u va vg vc, RowS u (fun _ => True) va vg 0 ws → OutW w1.heap.size u (.slice wa wl wcc) ws → Calls Tryd.prog 18 #[.slice va wl vc, .slice wa wl wcc] u fun e u' => e = .returned (.bool true) ∧ u.grownBy u' none) := hid (fun u va vg vc h ho => by
          obtain ⟨p, q, r, e, h2⟩ := ho.row
          have h3 := rows_same u _ _ va p vg 0 vc q 0 r ws h h2 (by have := HWU.out.2.1; omega)
          rw [← e, HWU.out.2.2] at h3
          exact h3)
        go_upto_region 37 with (first
          | (go_at_call 18; (with_reducible refine (HRw.out _ _ _ _ HR12.out HO12.out).mono ?_); rintro e w13 ⟨rfl, hg⟩; have HD13 := hid (HD12.out.keep hg); have HL13 := hid (HL12.out.keep hg); have HO13 := hid (HO12.out.keep hg); clear hg)
          | (go_at_call 11; (with_reducible refine HOp.out.mono ?_); rintro e w12 ⟨lb2, va, vg, vc, P2, A2, rfl, hr, hd, hl, hq, h0, har, hwr, ho, hp⟩; have HR12 := hid hr; have HD12 := hid hd; have HL12 := hid hl; have HQ12 := hid (And.intro hq (And.intro h0 (And.intro har hwr))); have HO12 := hid ho; have HP12 := hid hp; clear hr hd hl hq h0 har hwr ho hp)
          | (go_at_call 9; (with_reducible refine (num_any _ _).mono ?_); rintro e wn ⟨rfl, hwn⟩; have hwn' := hwn.symm; clear hwn; subst hwn'))
        obtain ⟨q1, q2, q3, q4, q5, q6, q7⟩ := HQ12.out.1.app HQ12.out.2.1 (by rw [HQ12.out.2.2.1]; decide) (l := more) (by show U + 17 ≤ 4194304; have := HWU.out.1; omega) (by decide) (by have := HWU.out.2.1; omega)
        obtain ⟨A3, HA3⟩ : ∃ x, Hid (A2.app ⟨#[108, 111, 103]⟩ (frameL more) = x) := ⟨_, hid rfl⟩
        rw [HA3.out] at q2 q3 q4 q5
        have HQ3 : Hid (Lgd A3 ⟨#[108, 111, 103]⟩ ⟨#[108, 111, 103]⟩ ⟨#[120]⟩ 4194304 (U + 17) (ws ++ [more]) [] ∧ A3.off = false) := hid ⟨q2, q3⟩
        have hc36 := conv33
        have HAm : Hid (Calls Tryd.prog 15 #[.pointer (some ⟨lb2, 0, none⟩), .slice (some ⟨w13.heap.size, 0, none⟩) 4 4] (w13.alloc (.cells #[.int .u8 109, .int .u8 111, .int .u8 114, .int .u8 101] 5 (4, 5))) fun e u' => ∃ P', e = .returned (.int .i64 0) ∧ Sd w1 u' b A3 P' ∧ LgP w1 u' lb2 b ⟨#[108, 111, 103]⟩ (fz + 17) false P' ∧ OutW w1.heap.size u' (.slice wa wl wcc) ws ∧ (∀ k, (Value.slice wa wl wcc).ownBlock = some k → ¬ P' k)) := hid (by
          have hfz : fz ≤ 1099511627776 := by
            have h1 := HQ12.out.1.old
            have h2 := get_used A2.C ⟨#[108, 111, 103]⟩
            have h3 := HQ12.out.1.live.used
            have h4 : (A2.old ⟨#[108, 111, 103]⟩).length = flen ws := by rw [h1, List.append_nil]; rfl
            unfold Ab.old at h4
            have := HFz.out
            have := HWU.out.1
            omega
          have h := ts_app (HD13.out.keep (galloc _ _ _)) (HL13.out.keep (galloc _ _ _)) (HO13.out.keep (galloc _ _ _)) HP12.out HT1.out (by have := HQ12.out.2.2.2; omega) hfz _ _ more (lit_rd w13 more (4, 5) #[.int .u8 109, .int .u8 111, .int .u8 114, .int .u8 101] rfl 4 rfl) (by decide)
          unfold lgZ at h
          rw [q1, HA3.out] at h
          exact h)
        have HO3 : Hid (∀ u P, Sd w1 u b A3 P → Calls Tryd.prog 11 #[.pointer (some ⟨b, 0, none⟩), .string ⟨#[108, 111, 103]⟩] u fun e u' => ∃ lb va vg vc, e = .returned (.tuple #[.pointer (some ⟨lb, 0, none⟩), .slice va (wl + 1) vc, .int .i64 0]) ∧ RowS u' (fun k => u.heap.size ≤ k) va vg 0 (ws ++ [more]) ∧ Sd w1 u' b A3 P ∧ u.grownBy u' none) := hid (fun u P h => by
          refine (sd_whole h HT1.out (by decide) (HQ3.out.1.fil HQ3.out.2)).mono fun e u' ⟨lb, v, q1, q2, q3, q4, q5⟩ => ?_
          obtain ⟨va, vg, vc, hv, hr⟩ := q2.row
          rw [List.length_append, HWU.out.2.2] at hv
          exact ⟨lb, va, vg, vc, by rw [q1, hv]; rfl, hr.mono (fun k hk => hk.elim id (fun q => absurd q (Nat.not_lt_zero _))), q3, q5⟩)
        clear q1 q2 q3 q4 q5 q6 q7
        go_upto_region 39 with (first
          | (go_at_call 11; (with_reducible refine (HO3.out _ _ HD14.out).mono ?_); rintro e w15 ⟨lb3, xa, xg, xc, rfl, hr, hd, hg⟩; have HR15 := hid hr; have HD15 := hid hd; have HG15 := hid hg; clear hr hd hg)
          | (go_at_call 15; (with_reducible refine HAm.out.mono ?_); rintro e w14 ⟨P4, rfl, hd, hl, ho, hp⟩; have HD14 := hid hd; have HL14 := hid hl; have HO14 := hid ho; have HP14 := hid hp; clear hd hl ho hp))
        obtain ⟨wL, HwL⟩ : ∃ x, Hid (w15.alloc (.cells #[.int .u8 109, .int .u8 111, .int .u8 114, .int .u8 101] 5 (4, 5)) = x) := ⟨_, hid rfl⟩
        have HgL : Hid (w15.grownBy wL none) := hid (by rw [← HwL.out]; exact galloc _ _ _)
        have HlL : Hid (Rd wL (fun k => k = w15.heap.size) (.slice (some ⟨w15.heap.size, 0, none⟩) 4 4) more) := hid (by rw [← HwL.out]; exact lit_rd w15 more (4, 5) #[.int .u8 109, .int .u8 111, .int .u8 114, .int .u8 101] rfl 4 rfl)
        have hwL := HwL.out
        have HBk := hid (Blk.new wL [Value.slice (some ⟨w15.heap.size, 0, none⟩) 4 4] 36)
        have HO15 := hid (HO14.out.keep HG15.out)
        have HOl : Hid (OutW w1.heap.size (wL.alloc (.cells #[Value.slice (some ⟨w15.heap.size, 0, none⟩) 4 4] 36)) (.slice wa wl wcc) ws) := hid ((HO15.out.keep HgL.out).keep (galloc _ _ _))
        have HRl : Hid (Rd (wL.alloc (.cells #[Value.slice (some ⟨w15.heap.size, 0, none⟩) 4 4] 36)) (fun k => k = w15.heap.size) (.slice (some ⟨w15.heap.size, 0, none⟩) 4 4) more) := hid (HlL.out.keep (galloc _ _ _))
        have HFl : Hid (∀ k, k = w15.heap.size → (Value.slice wa wl wcc).ownBlock ≠ some k) := hid (fun k hk e => by have := HO15.out.lt k e; omega)
        have HWm : Hid (ws.length ≤ 1000000) := hid (by have := HWU.out.2.1; omega)
        have HCl : Hid (w1.heap.size ≤ (wL.alloc (.cells #[Value.slice (some ⟨w15.heap.size, 0, none⟩) 4 4] 36)).heap.size) := hid (by have h1 := HD15.out.gr.size; have h2 := HgL.out.size; have h3 := (galloc wL (.cells #[Value.slice (some ⟨w15.heap.size, 0, none⟩) 4 4] 36) none).size; omega)
        have HGa : Hid (w15.grownBy (wL.alloc (.cells #[Value.slice (some ⟨w15.heap.size, 0, none⟩) 4 4] 36)) none) := hid (gtrans HgL.out (galloc _ _ _))
        have HRw2 : Hid (∀ u p q r va vg vc, RowS u (fun _ => True) va vg 0 (ws ++ [more]) → RowS u (fun _ => True) p q 0 (ws ++ [more]) → Calls Tryd.prog 18 #[.slice va (wl + 1) vc, .slice p (wl + 1) r] u fun e u' => e = .returned (.bool true) ∧ u.grownBy u' none) := hid (fun u p q r va vg vc h h2 => by
          have h3 := rows_same u _ _ va p vg 0 vc q 0 r (ws ++ [more]) h h2 (by rw [List.length_append]; have := HWU.out.2.1; simp; omega)
          rw [List.length_append, HWU.out.2.2] at h3
          exact h3)
        have HSz : Hid (∀ u p q r, RowS u (fun _ => True) p q 0 ws → Calls Tryd.prog 20 #[.slice p wl r] u fun e u' => e = .returned (.int .i64 (fz : Nat)) ∧ u' = u) := hid (fun u p q r h => by
          have h3 := rsize_any u _ p q 0 r ws h HWm.out (by
            have h1 := HQ3.out.1.old
            have h2 := get_used A3.C ⟨#[108, 111, 103]⟩
            have h3 := HQ3.out.1.live.used
            have h4 : (A3.old ⟨#[108, 111, 103]⟩).length = flen ws + (more.length + 13) := by rw [h1, List.append_nil]; exact flen_app ws more
            unfold Ab.old at h4
            have := HWU.out.1
            omega)
          rw [HWU.out.2.2, HFz.out] at h3
          exact h3)
        have hfz : fz ≤ 1099511627776 := by
          have h1 := HQ3.out.1.old
          have h2 := get_used A3.C ⟨#[108, 111, 103]⟩
          have h3 := HQ3.out.1.live.used
          have h4 : (A3.old ⟨#[108, 111, 103]⟩).length = flen ws + (more.length + 13) := by rw [h1, List.append_nil]; exact flen_app ws more
          unfold Ab.old at h4
          have := HFz.out
          have := HWU.out.1
          omega
        have hcs : ((fz + 17 : Nat) : Int) = (fz : Int) + 17 := by omega
        have HLs := hid HWU.out.2.2
        go_wp2_with (first
          | (at_builtin; refine wpList_append_last (by with_unfolding_all rfl) _ _ rfl w1.heap.size _ ws _ more _ HOl.out rfl HBk.out HRl.out HFl.out HWm.out HCl.out ?_; rintro v9 w16 ⟨y1, y2, y3, rfl, hr9⟩ ⟨z1, z2, z3, hz9, ho9⟩ hg9; rw [HLs.out] at hz9 ⊢; have hz9' : (Value.slice wa wl wcc) = .slice z1 wl z3 := hz9; injection hz9' with hz1 hz2 hz3; subst hz1; have HR9 := hid hr9; have HZ9 := hid ho9; have HG9 := hid hg9; have HX9 := hid ((HR15.out.keep HGa.out).df (DF.opt hg9 (fun k hk => hk)) (fun k hk e => by have h1 := HO14.out.lt k e; omega)); have HL9 := hid ((HL14.out.keep (gtrans HG15.out HGa.out)).row hg9 (HOl.out.ne_lg (HL14.out.keep (gtrans HG15.out HGa.out)).lg)); clear hr9 ho9 hz9 hg9 hz2 hz3)
          | (go_at_call 20; (with_reducible refine (HSz.out _ _ _ _ HZw.out).mono ?_); rintro e w19 ⟨rfl, hw19⟩; have hw19' := hw19.symm; clear hw19; subst hw19')
          | (go_at_call 19; (with_reducible refine (lsize_any HL17.out.lg).mono ?_); rintro e w18 ⟨rfl, hw18⟩; have hw18' := hw18.symm; clear hw18; subst hw18')
          | (go_at_call 18; (with_reducible refine (HRw2.out _ _ _ _ _ _ _ (HX9.out.mono (fun _ _ => trivial)) HR9.out).mono ?_); rintro e w17 ⟨rfl, hg⟩; have HL17 := hid (HL9.out.keep hg); have HZw := hid (HZ9.out.keep hg); have HGz := hid hg; clear hg)
          | (go_at_call 9; (with_reducible refine (num_any _ _).mono ?_); rintro e wn ⟨rfl, hwn⟩; have hwn' := hwn.symm; clear hwn; subst hwn'))
        go_ret
        exact ⟨rfl, gtrans HG1.out (gtrans ((gtrans HD15.out.gr HGa.out).andThen HG9.out (fun q hq => .inl (HO14.out.low q hq))) HGz.out)⟩
end Go.Proofs.YtpbiofnncdneoaaDoor
