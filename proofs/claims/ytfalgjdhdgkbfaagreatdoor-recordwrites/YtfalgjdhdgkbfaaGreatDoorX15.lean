/- The walk of FrameExact. -/
import Derived.Test.YtfalgjdhdgkbfaaGreatDoorX14
import Derived.Laws.Tables
import Derived.Deep.CutBlock
import Derived.Deep.DeepCutAuto
import Derived.Laws.Bits128
namespace Go.Proofs.YtfalgjdhdgkbfaaGreatDoor.Bk
open Go Go.RowKit
open Go.RowKit (wrap32 wrap64)

theorem Lent.same {w w' : World} {B : Nat} {v : Value} {l : List UInt8} (h : Lent w B v l) (s : Same 5 w w') : Lent w' B v l := by
  obtain ⟨b, c, rfl, hB, cs, hbk, r⟩ := h
  exact ⟨b, c, rfl, hB, cs, by rw [s b cs _ hbk]; exact hbk, r⟩

set_option maxRecDepth 100000 in
set_option maxHeartbeats 8000000 in
theorem frame_walk (w : World) (aB : Option Addr) (bB oB nB cB : Nat) (V : Nat → Value) (L : Nat → List UInt8) (aC : Option Addr) (bC oC nC cC : Nat) (V' : Nat → Value) (L' : Nat → List UInt8)
    (ht : Tab w) (hnB : nB ≤ 140737488355328) (hnC : nC ≤ 140737488355328)
    (hB1 : 0 < nB → aB = some ⟨bB, oB, none⟩ ∧ bB < w.heap.size) (hB2 : ∀ i, i < nB → w.cell? ⟨bB, oB + i, none⟩ = some (V i) ∧ Rd w (V i) (L i) ∧ (L i).length ≤ 140737488355328)
    (hC1 : 0 < nC → aC = some ⟨bC, oC, none⟩ ∧ bC < w.heap.size) (hC2 : ∀ i, i < nC → w.cell? ⟨bC, oC + i, none⟩ = some (V' i) ∧ Rd w (V' i) (L' i) ∧ (L' i).length ≤ 140737488355328) :
    Calls Tryz.prog 5 #[.agg #[.slice aB nB cB, .slice aC nC cC]] w fun e w' => e = .returned (.bool true) ∧ Below w.heap.size w w' := by
  have HT := hid ht
  have HB1 := hid hB1
  have HB2 := hid hB2
  have HC1 := hid hC1
  have HC2 := hid hC2
  clear ht hB1 hB2 hC1 hC2
  go_enter Tryz.func5, Tryz.ntmps5
  go_upto_block 0 with (first | refine wp_build59 rfl ?_ | refine wp_build62 rfl ?_)
  obtain ⟨W3, HW3⟩ : ∃ W3, Hid (((w.alloc (.cells #[.slice aB nB cB, .slice aC nC cC] 93)).alloc (.cells zeroB 59)).alloc (.cells zeroL 62) = W3) := ⟨_, hid rfl⟩
  rw [HW3.out]
  have HP : Hid (Below w.heap.size w W3 ∧ W3.heap.size = w.heap.size + 3 ∧ W3.cell? ⟨w.heap.size, 0, none⟩ = some (.slice aB nB cB) ∧ W3.cell? ⟨w.heap.size, 1, none⟩ = some (.slice aC nC cC)) := hid (by
    rw [← HW3.out]
    have hb : Below (w.alloc (.cells #[.slice aB nB cB, .slice aC nC cC] 93)).heap.size (w.alloc (.cells #[.slice aB nB cB, .slice aC nC cC] 93)) (((w.alloc (.cells #[.slice aB nB cB, .slice aC nC cC] 93)).alloc (.cells zeroB 59)).alloc (.cells zeroL 62)) := ((Below.refl _ _).alloc (Nat.le_refl _) _).alloc (by simp) _
    refine ⟨(((Below.refl _ _).alloc (Nat.le_refl _) _).alloc (by simp) _).alloc (by simp; omega) _, by simp, ?_, ?_⟩
    · rw [hb.cell (p := ⟨w.heap.size, 0, none⟩) (by simp)]; exact news_new w _ _ 0 _ rfl
    · rw [hb.cell (p := ⟨w.heap.size, 1, none⟩) (by simp)]; exact news_new w _ _ 1 _ rfl)
  have HBK : Hid (Bkc W3 (w.heap.size + 1) (.slice none 0 0) (.slice none 0 0) 0 0 0 0 ∧ W3.rowIs (w.heap.size + 1 + 1) 62 2 (ltF (.slice none 0 0) (.slice none 0 0))) := hid (by
    rw [← HW3.out]
    constructor
    · have h1 := zeroB_row (w.alloc (.cells #[.slice aB nB cB, .slice aC nC cC] 93))
      have h2 := bkc_same h1 (Same.alloc 59 _ (.cells zeroL 62))
      simpa using h2
    · have h1 := zeroL_row ((w.alloc (.cells #[.slice aB nB cB, .slice aC nC cC] 93)).alloc (.cells zeroB 59))
      simpa using h1)
  have HST0 : Hid (ST W3 (w.heap.size + 1) (w.heap.size + 1) (w.heap.size + 1 + 1) 0 [] 0) := hid (ST.new HBK.out.1 HBK.out.2 (Nat.le_refl _) (by omega) (by have := HP.out.2.1; omega))
  clear HW3 HBK
  go_cut [5, 6, 7, 8, 9] from 18 to 72 (fun s5 s6 s7 s8 s9 wc => (∃ t : Int, s5 = .int .i64 t ∧ 0 ≤ t ∧ t ≤ 281474976710656) ∧ Hid (∃ T ps, ST wc (w.heap.size + 1) (w.heap.size + 1) (w.heap.size + 1 + 1) T ps ps.length ∧ ps.length ≤ 5 ∧ T + ps.length ≤ 400000) ∧ Hid (Below (w.heap.size + 1) W3 wc))
  case first =>
    as_aux_lemma =>
    go_wp2_with fail
    go_loopw [5, 6] (fun tv iv wr => ∃ (j : Nat) (t : Int), 0 ≤ t ∧ t ≤ 1048576 ∧ tv = .int .i64 t ∧ iv = .int .i64 j ∧ j ≤ nB ∧ 13 * (j : Int) ≤ t ∧ Hid (∃ T ps, ST wr (w.heap.size + 1) (w.heap.size + 1) (w.heap.size + 1 + 1) T ps ps.length ∧ ps.length ≤ 5 ∧ T + ps.length ≤ 3 * j) ∧ Hid (Below (w.heap.size + 1) W3 wr)) (fun _ iv _ => nB - (intOf iv).toNat)
    case atStart => exact ⟨0, 0, by omega, by omega, rfl, rfl, Nat.zero_le _, by omega, hid ⟨0, [], HST0.out, by simp, by simp⟩, hid (Below.refl _ _)⟩
    case round =>
      as_aux_lemma =>
      obtain ⟨j, t, ht0, ht1, rfl, rfl, hj, hjt, HST, HB⟩ := hrel
      have HWR : Hid (Below w.heap.size w wr) := hid (HP.out.1.trans (HB.out.mono (Nat.le_succ _)))
      have c0 : wr.cell? ⟨w.heap.size, 0, none⟩ = some (.slice aB nB cB) := by rw [HB.out.cell (p := ⟨w.heap.size, 0, none⟩) (Nat.lt_succ_self _)]; exact HP.out.2.2.1
      have hsz : w.heap.size < wr.heap.size := by have := HB.out.size; have := HP.out.2.1; omega
      by_cases hlt : j < nB
      · have hlt' : (j : Int) < (nB : Int) := by omega
        obtain ⟨rfl, hbB⟩ := HB1.out (by omega)
        obtain ⟨p2, r2, q2⟩ := HB2.out j hlt
        obtain ⟨v2, HV2⟩ : ∃ v, Hid (V j = v) := ⟨_, hid rfl⟩
        obtain ⟨l2, HL2⟩ : ∃ l, Hid (L j = l) := ⟨_, hid rfl⟩
        rw [HV2.out] at p2
        rw [HV2.out, HL2.out] at r2
        rw [HL2.out] at q2
        rw [← HWR.out.cell (p := ⟨bB, oB + j, none⟩) hbB] at p2
        have hbB2 : bB < wr.heap.size := by omega
        obtain ⟨a2, c2', e2⟩ : ∃ a c, v2 = .slice a l2.length c := by obtain ⟨a, _, _, c, h, _⟩ := r2; exact ⟨a, c, h⟩
        subst e2
        have HF : Hid (∀ wx, Below (w.heap.size + 1) wr wx → Rd wx (.slice a2 l2.length c2') l2 ∧ Tab wx) := hid (fun wx hb => ⟨r2.below (HWR.out.trans (hb.mono (Nat.le_succ _))), HT.out.keep (gof (HWR.out.trans (hb.mono (Nat.le_succ _))) none)⟩)
        obtain ⟨x2, hx2⟩ : ∃ x : Int, (l2.length : Int) = x := ⟨_, rfl⟩
        have hx2a : 0 ≤ x2 := by omega
        have hx2b : x2 ≤ 140737488355328 := by omega
        have HX2 := hid hx2
        clear q2 r2
        by_cases hs : t + x2 + 13 ≤ 1048576
        · as_aux_lemma =>
          have HLL : Hid (l2.length ≤ 1048563) := hid (by have := HX2.out; omega)
          have HLM : Hid (l2.length ≤ 2097152) := hid (by have := HX2.out; omega)
          obtain ⟨T, ps, hst, hps, hTT⟩ := HST.out
          have HT1 : Hid (ps.length ≤ 5 ∧ T + ps.length ≤ 3 * j ∧ j ≤ 200000) := hid ⟨hps, hTT, by omega⟩
          have HS0 := hid hst
          clear hst hps hTT HST
          go_wp2_with fail
          refine (lend_any _ _ l2 (HF.out _ (Below.refl _ _)).1 HLM.out).mono ?_
          rintro e w2 ⟨v, rfl, hlent, hb⟩
          have HL := hid hlent
          have hBr : w.heap.size + 1 ≤ wr.heap.size := hsz
          have HS2 := hid (HS0.out.item hb hlent.own HLM.out)
          have HBB : Hid (Below (w.heap.size + 1) wr w2) := hid (hb.mono hBr)
          have HSZ2 : Hid (w.heap.size + 1 ≤ w2.heap.size) := hid (Nat.le_trans hBr hb.size)
          clear hlent hb c0 p2 hbB2 HS0
          have HFm := hid (framed2_any w2 (w.heap.size + 1) (w.heap.size + 1) (w.heap.size + 1 + 1) T ps [(v, l2)] (by simp) l2 v (.slice a2 l2.length c2') HS2.out (fun u h1 h2 => Rd.own (own_same HL.out.own h2)) (fun u h1 h2 => (HF.out u (HBB.out.trans h1)).1) (fun u h1 => (HF.out u (HBB.out.trans h1)).2) HSZ2.out (by have := HLL.out; omega) (by have := HT1.out; first | omega | (simp only [List.length_append, List.length_cons, List.length_nil]; omega)))
          go_wp2_with fail
          refine HFm.out.mono ?_
          rintro e w3 ⟨rfl, h3⟩
          obtain ⟨g1, hS3, hb3, hs3⟩ := h3.out
          have HS3 := hid hS3
          have HSZ3 : Hid (w.heap.size + 1 ≤ w3.heap.size) := hid (Nat.le_trans HSZ2.out hb3.size)
          replace HL := hid (HL.out.same hs3)
          replace HBB := hid (HBB.out.trans hb3)
          clear h3 hS3 hb3 hs3 HFm HS2
          have HFm := hid (framed2_any w3 (w.heap.size + 1) (w.heap.size + 1) (w.heap.size + 1 + 1) T (ps ++ [(g1, frameL l2)]) [(v, l2)] (by simp) l2 v (.slice a2 l2.length c2') HS3.out (fun u h1 h2 => Rd.own (own_same HL.out.own h2)) (fun u h1 h2 => (HF.out u (HBB.out.trans h1)).1) (fun u h1 => (HF.out u (HBB.out.trans h1)).2) HSZ3.out (by have := HLL.out; omega) (by have := HT1.out; first | omega | (simp only [List.length_append, List.length_cons, List.length_nil]; omega)))
          go_wp2_with fail
          refine HFm.out.mono ?_
          rintro e w4 ⟨rfl, h3⟩
          obtain ⟨g2, hS4, hb3, hs3⟩ := h3.out
          have HS4 := hid hS4
          have HSZ4 : Hid (w.heap.size + 1 ≤ w4.heap.size) := hid (Nat.le_trans HSZ3.out hb3.size)
          replace HL := hid (HL.out.same hs3)
          replace HBB := hid (HBB.out.trans hb3)
          clear h3 hS4 hb3 hs3 HFm HS3
          have HIn := hid (intact_any w4 wr.heap.size v _ l2 HL.out (HF.out _ HBB.out).1 HLM.out)
          go_wp2_with fail
          refine HIn.out.mono ?_
          rintro e w5 ⟨rfl, d, hw⟩
          have hb : Below w4.heap.size w4 w5 := by rw [hw]; exact Below.drewN' w4 d
          have HS5 := hid (HS4.out.below hb)
          have HSZ5 : Hid (w.heap.size + 1 ≤ w5.heap.size) := hid (Nat.le_trans HSZ4.out hb.size)
          replace HL := hid (HL.out.below hb)
          replace HBB := hid (HBB.out.trans (hb.mono HSZ4.out))
          clear hb hw HIn HS4
          have HOt := hid (other_any w5 _ l2 (HF.out _ HBB.out).1 HLM.out)
          go_wp2_with fail
          refine HOt.out.mono ?_
          rintro e w6 ⟨ov, rfl, hO⟩
          obtain ⟨l', hl', ho, hb⟩ := hO.out
          have hne : Apart ov v := by
            refine (apart_new (H := w5.heap.size) (fun x hx => own_low HL.out.own x hx) (fun x hx => (ho.lt x hx).1)).symm
          have HS6 := hid (HS5.out.below hb)
          have HSZ6 : Hid (w.heap.size + 1 ≤ w6.heap.size) := hid (Nat.le_trans HSZ5.out hb.size)
          replace HL := hid (HL.out.below hb)
          replace HBB := hid (HBB.out.trans (hb.mono HSZ5.out))
          have HI := hid (into2_any w6 wr.heap.size w5.heap.size v ov l2 l' HL.out ho hne hl' HLM.out)
          have HLE : Hid (l'.length = l2.length) := hid hl'
          have HLB : Hid (∀ q, v.ownBlock = some q → w.heap.size + 1 ≤ q) := hid (fun q hq => Nat.le_trans hBr (HL.out.own.lt q hq).1)
          clear hb hO ho hne hl' HOt HS5
          go_wp2_with fail
          refine HI.out.mono ?_
          rintro e w7 ⟨rfl, hI⟩
          obtain ⟨hL7, hO7, qb, hqb, hbut⟩ := hI.out
          have HO7 := hid hO7
          replace HL := hid hL7
          have HS7 := hid (ST.poke HS6.out (Nat.le_refl _) hqb hbut)
          have HS7n : Hid (ST w7 (w.heap.size + 1) (w.heap.size + 1) (w.heap.size + 1 + 1) T (ps ++ [(g1, frameL l2)] ++ [(g2, frameL l2)] ++ []) (ps ++ [(g1, frameL l2)] ++ [(g2, frameL l2)]).length) := hid (by rw [List.append_nil]; exact HS7.out)
          have HSZ7 : Hid (w.heap.size + 1 ≤ w7.heap.size) := hid (by rw [hbut.size]; exact HSZ6.out)
          replace HBB := hid (HBB.out.trans (hbut.below (HLB.out _ hqb)))
          clear hI hL7 hO7 hqb hbut HI HS6 HS7 HLB
          have HFm := hid (framed2_any w7 (w.heap.size + 1) (w.heap.size + 1) (w.heap.size + 1 + 1) T (ps ++ [(g1, frameL l2)] ++ [(g2, frameL l2)]) [] (by simp) l' v ov HS7n.out (fun u h1 h2 => Rd.own (own_same HL.out.own h2)) (fun u h1 h2 => Rd.own (own_same HO7.out h2)) (fun u h1 => (HF.out u (HBB.out.trans h1)).2) HSZ7.out (by have := HLL.out; have := HLE.out; omega) (by have := HT1.out; first | omega | (simp only [List.length_append, List.length_cons, List.length_nil]; omega)))
          go_wp2_with fail
          refine HFm.out.mono ?_
          rintro e w8 ⟨rfl, h3⟩
          obtain ⟨g3, hS8, hb3, hs3⟩ := h3.out
          rw [List.append_nil] at hS8
          obtain ⟨P3, HP3⟩ : ∃ P3, Hid (ps ++ [(g1, frameL l2)] ++ [(g2, frameL l2)] ++ [(g3, frameL l')] = P3) := ⟨_, hid rfl⟩
          rw [HP3.out] at hS8
          have HLN : Hid (P3.length = ps.length + 3) := hid (by rw [← HP3.out]; simp only [List.length_append, List.length_cons, List.length_nil])
          have HS8 := hid hS8
          replace HBB := hid (HBB.out.trans hb3)
          clear h3 hS8 hb3 hs3 HFm HS7n HL HO7 HP3
          have HSE := hid (settle_any w8 (w.heap.size + 1) (w.heap.size + 1) (w.heap.size + 1 + 1) T P3 HS8.out (by have := HLN.out; have := HT1.out; omega) (by have := HLN.out; have := HT1.out; omega) 6)
          go_wp2_with fail
          refine HSE.out.mono ?_
          rintro e w9 ⟨rfl, hb, hcase⟩
          have HN9 : Hid (∃ T ps, ST w9 (w.heap.size + 1) (w.heap.size + 1) (w.heap.size + 1 + 1) T ps ps.length ∧ ps.length ≤ 5 ∧ T + ps.length ≤ 3 * (j + 1)) := hid (by
            rcases hcase with ⟨h1, h2⟩ | ⟨T2, h1, h2⟩
            · rw [h2]; exact ⟨T, P3, HS8.out, by have := h1.out; omega, by have := HLN.out; have := HT1.out; omega⟩
            · exact ⟨T2, [], h2, by simp, by have := h1.out; have := HLN.out; have := HT1.out; simp only [List.length_nil]; omega⟩)
          replace HBB := hid (HBB.out.trans hb)
          clear hb hcase HSE HS8
          go_wp2
          exact ⟨⟨j + 1, t + x2 + 13, by omega, by omega, by go_num, by go_num, hlt, by omega, HN9, hid (HB.out.trans HBB.out)⟩, by simp [intOf]; omega⟩
        · as_aux_lemma =>
          have hs2 : 1048576 < t + x2 + 13 := by omega
          clear hs
          go_wp2
          go_meet
          case rel =>
            obtain ⟨T, ps, h1, h2, h3⟩ := HST.out
            exact ⟨⟨t + x2 + 13, by go_num, by omega, by omega⟩, hid ⟨T, ps, h1, h2, by omega⟩, HB⟩
      · have hge : (nB : Int) ≤ (j : Int) := by omega
        go_wp2
        go_meet
        case rel =>
          obtain ⟨T, ps, h1, h2, h3⟩ := HST.out
          exact ⟨⟨t, rfl, by omega, by omega⟩, hid ⟨T, ps, h1, h2, by omega⟩, HB⟩
  case rest =>
    obtain ⟨⟨t0, rfl, ht0, ht1⟩, HSQ, HBQ⟩ := hcut
    clear HST0 HB1 HB2
    go_upto_block 2 with fail
    go_cut [5, 10, 11, 12, 13] from 73 to 127 (fun s5 s10 s11 s12 s13 wc => Hid (∃ T ps, ST wc (w.heap.size + 1) (w.heap.size + 1) (w.heap.size + 1 + 1) T ps ps.length ∧ ps.length ≤ 5 ∧ T + ps.length ≤ 1400000) ∧ Hid (Below (w.heap.size + 1) W3 wc))
    case first =>
      as_aux_lemma =>
      go_wp2_with fail
      go_loopw [5, 10] (fun tv iv wr => ∃ (j : Nat) (t : Int), 0 ≤ t ∧ t ≤ 281474976710656 ∧ tv = .int .i64 t ∧ iv = .int .i64 j ∧ j ≤ nC ∧ 13 * (j : Int) ≤ t ∧ (0 < j → t ≤ 2097152) ∧ Hid (∃ T ps, ST wr (w.heap.size + 1) (w.heap.size + 1) (w.heap.size + 1 + 1) T ps ps.length ∧ ps.length ≤ 5 ∧ T + ps.length ≤ 400000 + 3 * j) ∧ Hid (Below (w.heap.size + 1) W3 wr)) (fun _ iv _ => nC - (intOf iv).toNat)
      case atStart => exact ⟨0, t0, by omega, by omega, rfl, rfl, Nat.zero_le _, by omega, (fun h => by omega), HSQ, HBQ⟩
      case round =>
        as_aux_lemma =>
        obtain ⟨j, t, ht0, ht1, rfl, rfl, hj, hjt, htj, HST, HB⟩ := hrel
        have HWR : Hid (Below w.heap.size w wr) := hid (HP.out.1.trans (HB.out.mono (Nat.le_succ _)))
        have c0 : wr.cell? ⟨w.heap.size, 1, none⟩ = some (.slice aC nC cC) := by rw [HB.out.cell (p := ⟨w.heap.size, 1, none⟩) (Nat.lt_succ_self _)]; exact HP.out.2.2.2
        have hsz : w.heap.size < wr.heap.size := by have := HB.out.size; have := HP.out.2.1; omega
        by_cases hlt : j < nC
        · have hlt' : (j : Int) < (nC : Int) := by omega
          obtain ⟨rfl, hbB⟩ := HC1.out (by omega)
          obtain ⟨p2, r2, q2⟩ := HC2.out j hlt
          obtain ⟨v2, HV2⟩ : ∃ v, Hid (V' j = v) := ⟨_, hid rfl⟩
          obtain ⟨l2, HL2⟩ : ∃ l, Hid (L' j = l) := ⟨_, hid rfl⟩
          rw [HV2.out] at p2
          rw [HV2.out, HL2.out] at r2
          rw [HL2.out] at q2
          rw [← HWR.out.cell (p := ⟨bC, oC + j, none⟩) hbB] at p2
          have hbB2 : bC < wr.heap.size := by omega
          obtain ⟨a2, c2', e2⟩ : ∃ a c, v2 = .slice a l2.length c := by obtain ⟨a, _, _, c, h, _⟩ := r2; exact ⟨a, c, h⟩
          subst e2
          have HF : Hid (∀ wx, Below (w.heap.size + 1) wr wx → Rd wx (.slice a2 l2.length c2') l2 ∧ Tab wx) := hid (fun wx hb => ⟨r2.below (HWR.out.trans (hb.mono (Nat.le_succ _))), HT.out.keep (gof (HWR.out.trans (hb.mono (Nat.le_succ _))) none)⟩)
          obtain ⟨x2, hx2⟩ : ∃ x : Int, (l2.length : Int) = x := ⟨_, rfl⟩
          have hx2a : 0 ≤ x2 := by omega
          have hx2b : x2 ≤ 140737488355328 := by omega
          have HX2 := hid hx2
          clear q2 r2
          by_cases hs : t + x2 + 13 ≤ 2097152
          · as_aux_lemma =>
            have HLL : Hid (l2.length ≤ 2097139) := hid (by have := HX2.out; omega)
            have HLM : Hid (l2.length ≤ 2097152) := hid (by have := HX2.out; omega)
            obtain ⟨T, ps, hst, hps, hTT⟩ := HST.out
            have HT1 : Hid (ps.length ≤ 5 ∧ T + ps.length ≤ 400000 + 3 * j ∧ j ≤ 200000) := hid ⟨hps, hTT, by omega⟩
            have HS0 := hid hst
            clear hst hps hTT HST
            go_wp2_with fail
            refine (lend_any _ _ l2 (HF.out _ (Below.refl _ _)).1 HLM.out).mono ?_
            rintro e w2 ⟨v, rfl, hlent, hb⟩
            have HL := hid hlent
            have hBr : w.heap.size + 1 ≤ wr.heap.size := hsz
            have HS2 := hid (HS0.out.item hb hlent.own HLM.out)
            have HBB : Hid (Below (w.heap.size + 1) wr w2) := hid (hb.mono hBr)
            have HSZ2 : Hid (w.heap.size + 1 ≤ w2.heap.size) := hid (Nat.le_trans hBr hb.size)
            clear hlent hb c0 p2 hbB2 HS0
            have HFm := hid (unframed2_any w2 (w.heap.size + 1) (w.heap.size + 1) (w.heap.size + 1 + 1) T ps [(v, l2)] (by simp) l2 v (.slice a2 l2.length c2') HS2.out (fun u h1 h2 => Rd.own (own_same HL.out.own h2)) (fun u h1 h2 => (HF.out u (HBB.out.trans h1)).1) (fun u h1 => (HF.out u (HBB.out.trans h1)).2) HSZ2.out (by have := HLL.out; omega) (by have := HT1.out; first | omega | (simp only [List.length_append, List.length_cons, List.length_nil]; omega)))
            go_wp2_with fail
            refine HFm.out.mono ?_
            rintro e w3 ⟨rfl, h3⟩
            obtain ⟨g1, hS3, hb3, hs3⟩ := h3.out
            have HS3 := hid hS3
            have HSZ3 : Hid (w.heap.size + 1 ≤ w3.heap.size) := hid (Nat.le_trans HSZ2.out hb3.size)
            replace HL := hid (HL.out.same hs3)
            replace HBB := hid (HBB.out.trans hb3)
            clear h3 hS3 hb3 hs3 HFm HS2
            have HFm := hid (unframed2_any w3 (w.heap.size + 1) (w.heap.size + 1) (w.heap.size + 1 + 1) T (ps ++ [(g1, unfB l2)]) [(v, l2)] (by simp) l2 v (.slice a2 l2.length c2') HS3.out (fun u h1 h2 => Rd.own (own_same HL.out.own h2)) (fun u h1 h2 => (HF.out u (HBB.out.trans h1)).1) (fun u h1 => (HF.out u (HBB.out.trans h1)).2) HSZ3.out (by have := HLL.out; omega) (by have := HT1.out; first | omega | (simp only [List.length_append, List.length_cons, List.length_nil]; omega)))
            go_wp2_with fail
            refine HFm.out.mono ?_
            rintro e w4 ⟨rfl, h3⟩
            obtain ⟨g2, hS4, hb3, hs3⟩ := h3.out
            have HS4 := hid hS4
            have HSZ4 : Hid (w.heap.size + 1 ≤ w4.heap.size) := hid (Nat.le_trans HSZ3.out hb3.size)
            replace HL := hid (HL.out.same hs3)
            replace HBB := hid (HBB.out.trans hb3)
            clear h3 hS4 hb3 hs3 HFm HS3
            have HIn := hid (intact_any w4 wr.heap.size v _ l2 HL.out (HF.out _ HBB.out).1 HLM.out)
            go_wp2_with fail
            refine HIn.out.mono ?_
            rintro e w5 ⟨rfl, d, hw⟩
            have hb : Below w4.heap.size w4 w5 := by rw [hw]; exact Below.drewN' w4 d
            have HS5 := hid (HS4.out.below hb)
            have HSZ5 : Hid (w.heap.size + 1 ≤ w5.heap.size) := hid (Nat.le_trans HSZ4.out hb.size)
            replace HL := hid (HL.out.below hb)
            replace HBB := hid (HBB.out.trans (hb.mono HSZ4.out))
            clear hb hw HIn HS4
            have HOt := hid (other_any w5 _ l2 (HF.out _ HBB.out).1 HLM.out)
            go_wp2_with fail
            refine HOt.out.mono ?_
            rintro e w6 ⟨ov, rfl, hO⟩
            obtain ⟨l', hl', ho, hb⟩ := hO.out
            have hne : Apart ov v := by
              refine (apart_new (H := w5.heap.size) (fun x hx => own_low HL.out.own x hx) (fun x hx => (ho.lt x hx).1)).symm
            have HS6 := hid (HS5.out.below hb)
            have HSZ6 : Hid (w.heap.size + 1 ≤ w6.heap.size) := hid (Nat.le_trans HSZ5.out hb.size)
            replace HL := hid (HL.out.below hb)
            replace HBB := hid (HBB.out.trans (hb.mono HSZ5.out))
            have HI := hid (into2_any w6 wr.heap.size w5.heap.size v ov l2 l' HL.out ho hne hl' HLM.out)
            have HLE : Hid (l'.length = l2.length) := hid hl'
            have HLB : Hid (∀ q, v.ownBlock = some q → w.heap.size + 1 ≤ q) := hid (fun q hq => Nat.le_trans hBr (HL.out.own.lt q hq).1)
            clear hb hO ho hne hl' HOt HS5
            go_wp2_with fail
            refine HI.out.mono ?_
            rintro e w7 ⟨rfl, hI⟩
            obtain ⟨hL7, hO7, qb, hqb, hbut⟩ := hI.out
            have HO7 := hid hO7
            replace HL := hid hL7
            have HS7 := hid (ST.poke HS6.out (Nat.le_refl _) hqb hbut)
            have HS7n : Hid (ST w7 (w.heap.size + 1) (w.heap.size + 1) (w.heap.size + 1 + 1) T (ps ++ [(g1, unfB l2)] ++ [(g2, unfB l2)] ++ []) (ps ++ [(g1, unfB l2)] ++ [(g2, unfB l2)]).length) := hid (by rw [List.append_nil]; exact HS7.out)
            have HSZ7 : Hid (w.heap.size + 1 ≤ w7.heap.size) := hid (by rw [hbut.size]; exact HSZ6.out)
            replace HBB := hid (HBB.out.trans (hbut.below (HLB.out _ hqb)))
            clear hI hL7 hO7 hqb hbut HI HS6 HS7 HLB
            have HFm := hid (unframed2_any w7 (w.heap.size + 1) (w.heap.size + 1) (w.heap.size + 1 + 1) T (ps ++ [(g1, unfB l2)] ++ [(g2, unfB l2)]) [] (by simp) l' v ov HS7n.out (fun u h1 h2 => Rd.own (own_same HL.out.own h2)) (fun u h1 h2 => Rd.own (own_same HO7.out h2)) (fun u h1 => (HF.out u (HBB.out.trans h1)).2) HSZ7.out (by have := HLL.out; have := HLE.out; omega) (by have := HT1.out; first | omega | (simp only [List.length_append, List.length_cons, List.length_nil]; omega)))
            go_wp2_with fail
            refine HFm.out.mono ?_
            rintro e w8 ⟨rfl, h3⟩
            obtain ⟨g3, hS8, hb3, hs3⟩ := h3.out
            rw [List.append_nil] at hS8
            obtain ⟨P3, HP3⟩ : ∃ P3, Hid (ps ++ [(g1, unfB l2)] ++ [(g2, unfB l2)] ++ [(g3, unfB l')] = P3) := ⟨_, hid rfl⟩
            rw [HP3.out] at hS8
            have HLN : Hid (P3.length = ps.length + 3) := hid (by rw [← HP3.out]; simp only [List.length_append, List.length_cons, List.length_nil])
            have HS8 := hid hS8
            replace HBB := hid (HBB.out.trans hb3)
            clear h3 hS8 hb3 hs3 HFm HS7n HL HO7 HP3
            have HSE := hid (settle_any w8 (w.heap.size + 1) (w.heap.size + 1) (w.heap.size + 1 + 1) T P3 HS8.out (by have := HLN.out; have := HT1.out; omega) (by have := HLN.out; have := HT1.out; omega) 6)
            go_wp2_with fail
            refine HSE.out.mono ?_
            rintro e w9 ⟨rfl, hb, hcase⟩
            have HN9 : Hid (∃ T ps, ST w9 (w.heap.size + 1) (w.heap.size + 1) (w.heap.size + 1 + 1) T ps ps.length ∧ ps.length ≤ 5 ∧ T + ps.length ≤ 400000 + 3 * (j + 1)) := hid (by
              rcases hcase with ⟨h1, h2⟩ | ⟨T2, h1, h2⟩
              · rw [h2]; exact ⟨T, P3, HS8.out, by have := h1.out; omega, by have := HLN.out; have := HT1.out; omega⟩
              · exact ⟨T2, [], h2, by simp, by have := h1.out; have := HLN.out; have := HT1.out; simp only [List.length_nil]; omega⟩)
            replace HBB := hid (HBB.out.trans hb)
            clear hb hcase HSE HS8
            go_wp2
            exact ⟨⟨j + 1, t + x2 + 13, by omega, by omega, by go_num, by go_num, hlt, by omega, by omega, HN9, hid (HB.out.trans HBB.out)⟩, by simp [intOf]; omega⟩
          · as_aux_lemma =>
            have hs2 : 2097152 < t + x2 + 13 := by omega
            clear hs
            go_wp2
            go_meet
            case rel =>
              obtain ⟨T, ps, h1, h2, h3⟩ := HST.out
              exact ⟨hid ⟨T, ps, h1, h2, by omega⟩, HB⟩
        · have hge : (nC : Int) ≤ (j : Int) := by omega
          go_wp2
          go_meet
          case rel =>
            obtain ⟨T, ps, h1, h2, h3⟩ := HST.out
            exact ⟨hid ⟨T, ps, h1, h2, by omega⟩, HB⟩
    case rest =>
      obtain ⟨HSR, HBR⟩ := hcut
      obtain ⟨T, ps, hst, hps, hTT⟩ := HSR.out
      have HT1 : Hid (ps.length ≤ 5 ∧ T + ps.length ≤ 1400000) := hid ⟨hps, hTT⟩
      have HSE := hid (settle_any wc (w.heap.size + 1) (w.heap.size + 1) (w.heap.size + 1 + 1) T ps hst (by omega) (by omega) 0)
      clear hst hps hTT HSR HSQ HBQ
      go_wp2_with fail
      refine HSE.out.mono ?_
      rintro e w4 ⟨rfl, hb, hcase⟩
      have HST4 : Hid (∃ T', ST w4 (w.heap.size + 1) (w.heap.size + 1) (w.heap.size + 1 + 1) T' [] 0) := hid (by
        rcases hcase with ⟨h1, h2⟩ | ⟨T', h1, h2⟩
        · have := h1.out; omega
        · exact ⟨T', h2⟩)
      have HB4 := hid (HBR.out.trans hb)
      clear hb hcase HSE HBR
      obtain ⟨T', hst4⟩ := HST4.out
      have HLK := hid hst4.look
      clear hst4 HST4
      go_wp2_with fail
      refine HLK.out.mono ?_
      rintro e w5 ⟨rfl, hb⟩
      have HB5 := hid (HP.out.1.trans ((HB4.out.trans hb).mono (Nat.le_succ _)))
      have HWk := hid (works_any w5 (HT.out.keep (gof HB5.out none)))
      clear hb HLK HB4
      go_wp2_with fail
      refine HWk.out.mono ?_
      rintro e w6 ⟨rfl, hg⟩
      have HB6 := hid (HB5.out.trans ((gbelow hg).mono HB5.out.size))
      clear hg HWk
      go_wp2
      go_ret
      exact ⟨rfl, HB6.out⟩
end Go.Proofs.YtfalgjdhdgkbfaaGreatDoor.Bk

namespace Go.Proofs.YtfalgjdhdgkbfaaGreatDoor.Bk
open Go Go.RowKit
open Go.RowKit (wrap32 wrap64)

theorem i64_and1 (n : Int) : bits .and .i64 n 1 = n % 2 := by
  have h3 : (BitVec.ofInt 64 1).toNat = 2 ^ 1 - 1 := by decide
  have key : (BitVec.ofInt 64 n &&& BitVec.ofInt 64 1).toNat = (n % ((2 ^ 64 : Nat) : Int)).toNat % 2 ^ 1 := by
    rw [BitVec.toNat_and, BitVec.toNat_ofInt, h3, Nat.and_two_pow_sub_one_eq_mod]
  show IntKind.i64.wrap ((BitVec.ofInt 64 n &&& BitVec.ofInt 64 1).toNat : Nat) = n % 2
  rw [key, IntKind.wrap_i64]
  omega
theorem KB.cell {w w' : World} {B b d : Nat} (h : KB w w' B b d) {p o : Nat} (hp : p < B) (h1 : p ≠ b) (h2 : p ≠ d) : w'.cell? ⟨p, o, none⟩ = w.cell? ⟨p, o, none⟩ := by
  simp only [World.cell?, h.block p hp h1 h2]
theorem KB.range {w w' : World} {B b d : Nat} (h : KB w w' B b d) {p o : Nat} {cs : List Value} (hp : p < B) (h1 : p ≠ b) (h2 : p ≠ d) (hr : w.rangeAt p o cs) : w'.rangeAt p o cs := fun j v hv => by
  rw [h.cell hp h1 h2]; exact hr j v hv
theorem KB.blk {w w' : World} {B b d p : Nat} {cs : List Value} {t : TypeId} (h : KB w w' B b d) (hp : p < B) (h1 : p ≠ b) (h2 : p ≠ d) (hb : Blk w p cs t) : Blk w' p cs t := (h.block p hp h1 h2).trans hb
theorem KB.below {w w' : World} {B b d N : Nat} (h : KB w w' B b d) (hN : N ≤ B) (h1 : N ≤ b) (h2 : N ≤ d) : Below N w w' := ⟨h.os, h.tape, h.output, h.size, fun k hk => h.block k (by omega) (by omega) (by omega)⟩
theorem KB.mono {w w' : World} {B B' b d : Nat} (h : KB w w' B b d) (hB : B' ≤ B) : KB w w' B' b d := ⟨h.os, h.tape, h.output, h.size, fun k h1 h2 h3 => h.block k (by omega) h2 h3⟩
theorem Rd.kb {w w' : World} {B b d : Nat} {F : Nat → Prop} {v : Value} {l : List UInt8} (h : Go.Proofs.YtfalgjdhdgkbfaaGreatDoor.Rd w F v l) (k : KB w w' B b d) (hF : ∀ k, F k → k < B ∧ k ≠ b ∧ k ≠ d) : Go.Proofs.YtfalgjdhdgkbfaaGreatDoor.Rd w' F v l := by
  obtain ⟨a, b', off, c, hv, hc, hn, ha, hcell⟩ := h
  refine ⟨a, b', off, c, hv, hc, hn, fun hl => ⟨(ha hl).1, Nat.lt_of_lt_of_le (ha hl).2.1 k.size, (ha hl).2.2⟩, fun i hi => ?_⟩
  have hFb := hF b' (ha (by omega)).2.2
  rw [k.cell hFb.1 hFb.2.1 hFb.2.2]
  exact hcell i hi
/-- Readers of l, whose blocks lie from lo on, below hi. -/
structure RQ (w : World) (lo hi b d : Nat) (F G : Nat → Prop) (l : List UInt8) (bad : Nat) : Prop where
  r : Rr w b F l bad
  v : Rv w d G l bad
  b1 : lo ≤ b ∧ b < hi
  d1 : lo ≤ d ∧ d < hi
  f : ∀ k, F k → lo ≤ k ∧ k < hi
  g : ∀ k, G k → lo ≤ k ∧ k < hi
  fd : ¬ F d
  gb : ¬ G b
  ne : b ≠ d
theorem RQ.kb {w w' : World} {lo hi b d B x y : Nat} {F G : Nat → Prop} {l : List UInt8} {bad : Nat} (h : RQ w lo hi b d F G l bad) (k : KB w w' B x y) (hB : hi ≤ B) (hx : x < lo ∨ hi ≤ x) (hy : y < lo ∨ hi ≤ y) : RQ w' lo hi b d F G l bad := by
  refine ⟨?_, ?_, h.b1, h.d1, h.f, h.g, h.fd, h.gb, h.ne⟩
  · obtain ⟨v, hh, hv, hF, hl⟩ := h.r
    exact ⟨v, (k.block b (by have := h.b1; omega) (by have := h.b1; omega) (by have := h.b1; omega)).trans hh, Rd.kb hv k (fun q hq => by have := h.f q hq; omega), hF, hl⟩
  · obtain ⟨v, hh, hv, hF, hl⟩ := h.v
    exact ⟨v, (k.block d (by have := h.d1; omega) (by have := h.d1; omega) (by have := h.d1; omega)).trans hh, Rd.kb hv k (fun q hq => by have := h.g q hq; omega), hF, hl⟩
theorem RQ.rp {w : World} {lo hi b d B : Nat} {F G : Nat → Prop} {l : List UInt8} {bad : Nat} (h : RQ w lo hi b d F G l bad) (hB : hi ≤ B) : RP w B b d F G l bad :=
  ⟨h.r, h.v, by have := h.b1; omega, by have := h.d1; omega, fun k hk => by have := h.f k hk; omega, fun k hk => by have := h.g k hk; omega, h.fd, h.gb, h.ne⟩
theorem RQ.of {w : World} {lo hi b d B : Nat} {F G : Nat → Prop} {l : List UInt8} {bad : Nat} {w0 : World} {l0 : List UInt8} {bad0 : Nat} (h0 : RQ w0 lo hi b d F G l0 bad0) (h : RP w B b d F G l bad) : RQ w lo hi b d F G l bad :=
  ⟨h.r, h.v, h0.b1, h0.d1, h0.f, h0.g, h0.fd, h0.gb, h0.ne⟩
end Go.Proofs.YtfalgjdhdgkbfaaGreatDoor.Bk
