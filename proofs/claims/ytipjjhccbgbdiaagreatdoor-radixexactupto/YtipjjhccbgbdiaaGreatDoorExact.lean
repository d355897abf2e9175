/- The walk of the statement RadixExact. -/
import Derived.Test.YtipjjhccbgbdiaaGreatDoorZero
import Derived.Laws.Tables
import Derived.Deep.CutBlock
import Derived.Deep.DeepCutAuto
namespace Go.Proofs.YtipjjhccbgbdiaaGreatDoor
open Go Go.RowKit
open Go.RowKit (wrap32 wrap64)

set_option maxRecDepth 100000 in
set_option maxHeartbeats 8000000 in
theorem exact_walk (w : World) (aB : Option Addr) (bB oB nB cB : Nat) (V : Nat → Value) (L : Nat → List UInt8) (aS : Option Addr) (bS oS nS cS : Nat) (S : Nat → ByteArray) (aN : Option Addr) (bN oN nN cN : Nat) (M : Nat → Int) (aW : Option Addr) (bW oW nW cW : Nat) (N : Nat → Nat) (K : Nat → Int)
    (ht : Tens w) (hnB : nB ≤ 140737488355328) (hnS : nS ≤ 140737488355328) (hnN : nN ≤ 140737488355328) (hnW : nW ≤ 1048576)
    (hB1 : 0 < nB → aB = some ⟨bB, oB, none⟩ ∧ bB < w.heap.size) (hB2 : ∀ i, i < nB → w.cell? ⟨bB, oB + i, none⟩ = some (V i) ∧ Rd w (V i) (L i) ∧ (L i).length ≤ 140737488355328)
    (hS1 : 0 < nS → aS = some ⟨bS, oS, none⟩ ∧ bS < w.heap.size) (hS2 : ∀ i, i < nS → w.cell? ⟨bS, oS + i, none⟩ = some (.string (S i)) ∧ (S i).size ≤ 140737488355328)
    (hN1 : 0 < nN → aN = some ⟨bN, oN, none⟩ ∧ bN < w.heap.size) (hN2 : ∀ i, i < nN → w.cell? ⟨bN, oN + i, none⟩ = some (.int .i64 (M i)) ∧ -9223372036854775808 ≤ M i ∧ M i ≤ 9223372036854775807)
    (hW1 : 0 < nW → aW = some ⟨bW, oW, none⟩ ∧ bW < w.heap.size) (hW2 : ∀ i, i < nW → w.cell? ⟨bW, oW + i * 2, none⟩ = some (.int .u64 (N i)) ∧ w.cell? ⟨bW, oW + i * 2 + 1, none⟩ = some (.int .i64 (K i)) ∧ N i < 18446744073709551616 ∧ -9223372036854775808 ≤ K i ∧ K i ≤ 9223372036854775807) :
    Calls Tryz.prog 3 #[.agg #[.slice aB nB cB, .slice aS nS cS, .slice aN nN cN, .slice aW nW cW]] w fun e w' => e = .returned (.bool true) ∧ Below w.heap.size w w' := by
  have HT := hid ht
  have HB1 := hid hB1
  have HB2 := hid hB2
  have HS1 := hid hS1
  have HS2 := hid hS2
  have HN1 := hid hN1
  have HN2 := hid hN2
  have HW1 := hid hW1
  have HW2 := hid hW2
  clear ht hB1 hB2 hS1 hS2 hN1 hN2 hW1 hW2
  go_enter Tryz.func3, Tryz.ntmps3
  go_upto_block 0 with (first | refine wp_build54 rfl ?_ | refine wp_build57 rfl ?_)
  obtain ⟨W3, HW3⟩ : ∃ W3, Hid (((w.alloc (.cells #[.slice aB nB cB, .slice aS nS cS, .slice aN nN cN, .slice aW nW cW] 27)).alloc (.cells zeroB 54)).alloc (.cells zeroL 57) = W3) := ⟨_, hid rfl⟩
  rw [HW3.out]
  have HP : Hid (Below w.heap.size w W3 ∧ W3.heap.size = w.heap.size + 3 ∧ W3.cell? ⟨w.heap.size, 0, none⟩ = some (.slice aB nB cB) ∧ W3.cell? ⟨w.heap.size, 1, none⟩ = some (.slice aS nS cS) ∧ W3.cell? ⟨w.heap.size, 2, none⟩ = some (.slice aN nN cN) ∧ W3.cell? ⟨w.heap.size, 3, none⟩ = some (.slice aW nW cW)) := hid (by
    rw [← HW3.out]
    have hb : Below (w.alloc (.cells #[.slice aB nB cB, .slice aS nS cS, .slice aN nN cN, .slice aW nW cW] 27)).heap.size (w.alloc (.cells #[.slice aB nB cB, .slice aS nS cS, .slice aN nN cN, .slice aW nW cW] 27)) (((w.alloc (.cells #[.slice aB nB cB, .slice aS nS cS, .slice aN nN cN, .slice aW nW cW] 27)).alloc (.cells zeroB 54)).alloc (.cells zeroL 57)) := ((Below.refl _ _).alloc (Nat.le_refl _) _).alloc (by simp) _
    refine ⟨(((Below.refl _ _).alloc (Nat.le_refl _) _).alloc (by simp) _).alloc (by simp; omega) _, by simp, ?_, ?_, ?_, ?_⟩
    · rw [hb.cell (p := ⟨w.heap.size, 0, none⟩) (by simp)]; exact news_new w _ _ 0 _ rfl
    · rw [hb.cell (p := ⟨w.heap.size, 1, none⟩) (by simp)]; exact news_new w _ _ 1 _ rfl
    · rw [hb.cell (p := ⟨w.heap.size, 2, none⟩) (by simp)]; exact news_new w _ _ 2 _ rfl
    · rw [hb.cell (p := ⟨w.heap.size, 3, none⟩) (by simp)]; exact news_new w _ _ 3 _ rfl)
  have HBK : Hid (Bkc W3 (w.heap.size + 1) (.slice none 0 0) (.slice none 0 0) 0 0 0 0 ∧ W3.rowIs (w.heap.size + 1 + 1) 57 2 (ltF (.slice none 0 0) (.slice none 0 0))) := hid (by
    rw [← HW3.out]
    constructor
    · have h1 := zeroB_row (w.alloc (.cells #[.slice aB nB cB, .slice aS nS cS, .slice aN nN cN, .slice aW nW cW] 27))
      have h2 := bkc_same h1 (Same.alloc 54 _ (.cells zeroL 57))
      simpa using h2
    · have h1 := zeroL_row ((w.alloc (.cells #[.slice aB nB cB, .slice aS nS cS, .slice aN nN cN, .slice aW nW cW] 27)).alloc (.cells zeroB 54))
      simpa using h1)
  clear HW3
  go_cut [5, 6, 7, 8] from 16 to 86 (fun s5 s6 s7 s8 wc => Hid (Below W3.heap.size W3 wc))
  case first =>
    as_aux_lemma =>
    go_wp2_with fail
    go_loopw [5, 6] (fun tv iv wr => ∃ (j : Nat) (t : Int), 0 ≤ t ∧ t ≤ 65536 ∧ tv = .int .i64 t ∧ iv = .int .i64 j ∧ j ≤ nB ∧ Hid (Below W3.heap.size W3 wr)) (fun _ iv _ => nB - (intOf iv).toNat)
    case atStart => exact ⟨0, 0, by omega, by omega, rfl, rfl, Nat.zero_le _, hid (Below.refl _ _)⟩
    case round =>
      as_aux_lemma =>
      obtain ⟨j, t, ht0, ht1, rfl, rfl, hj, HB⟩ := hrel
      have HWR : Hid (Below w.heap.size w wr) := hid (HP.out.1.trans (HB.out.mono HP.out.1.size))
      have c0 : wr.cell? ⟨w.heap.size, 0, none⟩ = some (.slice aB nB cB) := by rw [HB.out.cell (p := ⟨w.heap.size, 0, none⟩) (by show w.heap.size < _; rw [HP.out.2.1]; omega)]; exact HP.out.2.2.1
      have hsz : w.heap.size < wr.heap.size := by have := HB.out.size; have := HP.out.2.1; omega
      by_cases hlt : j < nB
      · have hlt' : (j : Int) < (nB : Int) := by omega
        obtain ⟨rfl, hbB⟩ := HB1.out (by omega)
        obtain ⟨p2, r2, q2⟩ := HB2.out j hlt
        obtain ⟨v2, HV2⟩ : ∃ v, Hid (V j = v) := ⟨_, hid rfl⟩
        obtain ⟨l2, HL2⟩ : ∃ l, Hid (L j = l) := ⟨_, hid rfl⟩
        rw [HV2.out] at p2
        rw [HV2.out, HL2.out] at r2
        rw [HL2.out] at q2
        rw [← HWR.out.cell (p := ⟨bB, oB + j, none⟩) hbB] at p2
        have hbB2 : bB < wr.heap.size := by omega
        have R2 := hid (r2.below HWR.out)
        obtain ⟨a2, c2', e2⟩ : ∃ a c, v2 = .slice a l2.length c := by obtain ⟨a, _, _, c, h, _⟩ := r2; exact ⟨a, c, h⟩
        subst e2
        obtain ⟨x2, hx2⟩ : ∃ x : Int, (l2.length : Int) = x := ⟨_, rfl⟩
        have hx2a : 0 ≤ x2 := by omega
        have hx2b : x2 ≤ 140737488355328 := by omega
        have HX2 := hid hx2
        clear q2 r2
        have HF : Hid (∀ wx, Below wr.heap.size wr wx → wx.cell? ⟨w.heap.size, 0, none⟩ = some (.slice (some ⟨bB, oB, none⟩) nB cB) ∧ wx.cell? ⟨bB, oB + j, none⟩ = some (.slice a2 l2.length c2') ∧ Rd wx (.slice a2 l2.length c2') l2 ∧ w.heap.size < wx.heap.size ∧ bB < wx.heap.size) := hid (fun wx hb =>
          ⟨by rw [hb.cell (p := ⟨w.heap.size, 0, none⟩) hsz]; exact c0, by rw [hb.cell (p := ⟨bB, oB + j, none⟩) hbB2]; exact p2, R2.out.below hb, Nat.lt_of_lt_of_le hsz hb.size, Nat.lt_of_lt_of_le hbB2 hb.size⟩)
        by_cases hs : t + x2 < 65536
        · as_aux_lemma =>
          have hl : l2.length ≤ 1048576 := by have := HX2.out; omega
          have HLL := hid hl
          clear hl
          go_wp2_with fail
          refine (lend_any _ _ l2 R2.out HLL.out).mono ?_
          rintro e w2 ⟨v, rfl, hlent, hb⟩
          have HL := hid hlent
          have HBB := hid hb
          have HC := hid (HF.out w2 hb)
          clear hlent hb c0 p2 hsz hbB2
          have c0 := HC.out.1
          have p2 := HC.out.2.1
          have z1 := HC.out.2.2.2.1
          have z2 := HC.out.2.2.2.2
          go_wp2_with fail
          refine (texts_any _ v _ l2 HL.out.rd HC.out.2.2.1 HLL.out).mono ?_
          rintro e w3 ⟨rfl, hb⟩
          replace HL := hid (HL.out.below hb)
          replace HBB := hid (Below.step HBB.out hb)
          replace HC := hid (HF.out w3 HBB.out)
          clear hb c0 p2 z1 z2
          have c0 := HC.out.1
          have p2 := HC.out.2.1
          have z1 := HC.out.2.2.2.1
          have z2 := HC.out.2.2.2.2
          go_wp2_with fail
          refine (texts_any _ v _ l2 HL.out.rd HC.out.2.2.1 HLL.out).mono ?_
          rintro e w4 ⟨rfl, hb⟩
          replace HL := hid (HL.out.below hb)
          replace HBB := hid (Below.step HBB.out hb)
          replace HC := hid (HF.out w4 HBB.out)
          clear hb c0 p2 z1 z2
          have c0 := HC.out.1
          have p2 := HC.out.2.1
          have z1 := HC.out.2.2.2.1
          have z2 := HC.out.2.2.2.2
          go_wp2_with fail
          refine (intact_any _ wr.heap.size v _ l2 HL.out HC.out.2.2.1 HLL.out).mono ?_
          rintro e w5 ⟨rfl, d, hw⟩
          have hb : Below w4.heap.size w4 w5 := by rw [hw]; exact Below.drewN' w4 d
          replace HL := hid (HL.out.below hb)
          replace HBB := hid (Below.step HBB.out hb)
          replace HC := hid (HF.out w5 HBB.out)
          clear hb hw c0 p2 z1 z2
          have c0 := HC.out.1
          have p2 := HC.out.2.1
          have z1 := HC.out.2.2.2.1
          have z2 := HC.out.2.2.2.2
          go_wp2_with fail
          refine (other_any _ _ l2 HC.out.2.2.1 HLL.out).mono ?_
          rintro e w6 ⟨ov, rfl, hO⟩
          obtain ⟨l', hl', ho, hb⟩ := hO.out
          have hne : Apart ov v := by
            refine (apart_new (H := w5.heap.size) (fun x hx => ?_) (fun x hx => (ho.lt x hx).1)).symm
            obtain ⟨b9, c9, rfl, _, cs9, hcs9, _⟩ := HL.out
            have h9 : b9 = x := by simpa [Value.ownBlock] using hx
            rw [← h9]
            exact (Array.getElem?_eq_some_iff.1 hcs9).1
          replace HL := hid (HL.out.below hb)
          replace HBB := hid (Below.step HBB.out hb)
          have HI := hid (into_any w6 wr.heap.size w5.heap.size v ov l2 l' HL.out ho hne hl' HLL.out)
          have HL9 : Hid (l'.length ≤ 1048576) := hid (by have := HLL.out; omega)
          clear hb hO ho hne hl' c0 p2 z1 z2 HC
          go_wp2_with fail
          refine HI.out.mono ?_
          rintro e w7 ⟨rfl, hI⟩
          replace HL := hid hI.out.1
          have HO := hid (Rd.own hI.out.2.1)
          replace HBB := hid (HBB.out.trans hI.out.2.2.1)
          clear hI HI
          go_wp2_with fail
          refine (texts_any _ v ov l' HL.out.rd HO.out HL9.out).mono ?_
          rintro e w8 ⟨rfl, hb⟩
          replace HL := hid (HL.out.below hb)
          replace HO := hid (HO.out.below hb)
          replace HBB := hid (Below.step HBB.out hb)
          clear hb
          go_wp2_with fail
          refine (intact_any _ wr.heap.size v ov l' HL.out HO.out HL9.out).mono ?_
          rintro e w9 ⟨rfl, d9, hw⟩
          have hb : Below w8.heap.size w8 w9 := by rw [hw]; exact Below.drewN' w8 d9
          replace HBB := hid (Below.step HBB.out hb)
          clear hb hw
          go_wp2
          exact ⟨⟨j + 1, t + x2 + 1, by omega, by omega, by go_num, by go_num, hlt, hid (Below.step HB.out HBB.out)⟩, by simp [intOf]; omega⟩
        · as_aux_lemma =>
          have hs2 : 65536 ≤ t + x2 := by omega
          clear hs
          go_wp2
          go_meet
          case rel => exact HB
      · have hge : (nB : Int) ≤ (j : Int) := by omega
        go_wp2
        go_meet
        case rel => exact HB
  case rest =>
    have HB : Hid (Below (w.heap.size + 1) W3 wc) := hid (hcut.out.mono (by have := HP.out.2.1; omega))
    have HST : Hid (ST wc (w.heap.size + 1) (w.heap.size + 1) (w.heap.size + 1 + 1) 0 [] 0) := hid (ST.new (bkc_same HBK.out.1 (Same.below hcut.out)) (lt_same HBK.out.2 (Same.below hcut.out)) (Nat.le_refl _) (by omega) (by have := hcut.out.size; have := HP.out.2.1; omega))
    clear hcut HBK HB1 HB2
    go_upto_block 2 with fail
    go_cut [5, 9] from 87 to 128 (fun s5 s9 wq => Hid (∃ T ps, ST wq (w.heap.size + 1) (w.heap.size + 1) (w.heap.size + 1 + 1) T ps ps.length ∧ ps.length ≤ 11 ∧ T + ps.length ≤ 400000) ∧ Hid (Below (w.heap.size + 1) W3 wq))
    case first =>
      as_aux_lemma =>
      go_wp2_with fail
      go_loopw [5, 9] (fun tv iv wr => ∃ (j : Nat) (t : Int), 0 ≤ t ∧ t ≤ 65536 ∧ tv = .int .i64 t ∧ iv = .int .i64 j ∧ j ≤ nS ∧ (j : Int) ≤ t ∧ Hid (∃ T ps, ST wr (w.heap.size + 1) (w.heap.size + 1) (w.heap.size + 1 + 1) T ps ps.length ∧ ps.length ≤ 11 ∧ T + ps.length ≤ 6 * j) ∧ Hid (Below (w.heap.size + 1) W3 wr)) (fun _ iv _ => nS - (intOf iv).toNat)
      case atStart => exact ⟨0, 0, by omega, by omega, rfl, rfl, Nat.zero_le _, by omega, hid ⟨0, [], HST.out, by simp, by simp⟩, HB⟩
      case round =>
        as_aux_lemma =>
        clear HB HST
        obtain ⟨j, t, ht0, ht1, rfl, rfl, hj, hjt, HST, HB⟩ := hrel
        have HWR : Hid (Below w.heap.size w wr) := hid (HP.out.1.trans (HB.out.mono (by omega)))
        have c1 : wr.cell? ⟨w.heap.size, 1, none⟩ = some (.slice aS nS cS) := by rw [HB.out.cell (p := ⟨w.heap.size, 1, none⟩) (by show w.heap.size < _; omega)]; exact HP.out.2.2.2.1
        have hsz : w.heap.size + 1 ≤ wr.heap.size := by have := HB.out.size; have := HP.out.2.1; omega
        by_cases hlt : j < nS
        · have hlt' : (j : Int) < (nS : Int) := by omega
          obtain ⟨rfl, hbS⟩ := HS1.out (by omega)
          obtain ⟨p2, q2⟩ := HS2.out j hlt
          obtain ⟨s, HSS⟩ : ∃ s, Hid (S j = s) := ⟨_, hid rfl⟩
          rw [HSS.out] at p2 q2
          rw [← HWR.out.cell (p := ⟨bS, oS + j, none⟩) hbS] at p2
          have hbS2 : bS < wr.heap.size := by omega
          have hsz1 : w.heap.size < wr.heap.size := by omega
          obtain ⟨x, hx⟩ : ∃ x : Int, (s.size : Int) = x := ⟨_, rfl⟩
          have hx0 : 0 ≤ x := by omega
          have hx1 : x ≤ 140737488355328 := by omega
          have HX := hid hx
          clear q2
          have HF : Hid (∀ wx, Below (w.heap.size + 1) wr wx → wx.cell? ⟨w.heap.size, 1, none⟩ = some (.slice (some ⟨bS, oS, none⟩) nS cS) ∧ wx.cell? ⟨bS, oS + j, none⟩ = some (.string s) ∧ w.heap.size < wx.heap.size ∧ bS < wx.heap.size) := hid (fun wx hb =>
            ⟨by rw [hb.cell (p := ⟨w.heap.size, 1, none⟩) (by show w.heap.size < _; omega)]; exact c1, by rw [hb.cell (p := ⟨bS, oS + j, none⟩) (by show bS < _; omega)]; exact p2, Nat.lt_of_lt_of_le hsz1 hb.size, Nat.lt_of_lt_of_le hbS2 hb.size⟩)
          by_cases hs : t + x < 65536
          · as_aux_lemma =>
            have HLL : Hid (s.data.toList.length ≤ 1048576) := hid (by rw [size_list]; have := HX.out; omega)
            obtain ⟨T, ps, hst, hps, hT⟩ := HST.out
            have HT1 := hid (And.intro hps hT)
            have HST1 := hid hst
            clear hst hps hT HST
            go_wp2_with fail
            refine (reads_any s s.data.toList wr (w.heap.size + 1) (w.heap.size + 1) (w.heap.size + 1 + 1) T ps rfl HLL.out HST1.out (by have := HT1.out; omega) hsz).mono ?_
            rintro e w2 ⟨rfl, q, hq, hst, hb⟩
            have HQ := hid hq
            have e1 : ps.length + 3 = (ps ++ q).length := by rw [List.length_append, hq]
            rw [e1] at hst
            have HST2 := hid hst
            have HBB := hid hb
            have HC := hid (HF.out w2 hb)
            have hsz2 : w.heap.size + 1 ≤ w2.heap.size := Nat.le_trans hsz hb.size
            clear hq e1 hst hb c1 p2 hsz1 hbS2 HST1
            have c1 := HC.out.1
            have p2 := HC.out.2.1
            have z1 := HC.out.2.2.1
            have z2 := HC.out.2.2.2
            go_wp2_with fail
            refine (reads_any s s.data.toList w2 (w.heap.size + 1) (w.heap.size + 1) (w.heap.size + 1 + 1) T (ps ++ q) rfl HLL.out HST2.out (by have := HT1.out; have := HQ.out; rw [List.length_append]; omega) hsz2).mono ?_
            rintro e w3 ⟨rfl, q2, hq2, hst, hb⟩
            have HQ2 := hid hq2
            have e1 : (ps ++ q).length + 3 = (ps ++ q ++ q2).length := by simp only [List.length_append]; omega
            rw [e1] at hst
            have HLN : Hid ((ps ++ q ++ q2).length = ps.length + 6) := hid (by rw [List.length_append, List.length_append, hq2, HQ.out])
            have HST3 := hid hst
            replace HBB := hid (HBB.out.trans hb)
            clear hq2 e1 hst hb c1 p2 z1 z2 HST2 HC hsz2
            have HSE := hid (settle_any w3 (w.heap.size + 1) (w.heap.size + 1) (w.heap.size + 1 + 1) T (ps ++ q ++ q2) HST3.out (by have := HLN.out; have := HT1.out; omega) (by have := HLN.out; have := HT1.out; omega) 12)
            go_wp2_with fail
            refine HSE.out.mono ?_
            rintro e w4 ⟨rfl, hb, hcase⟩
            have HN4 : Hid (∃ T ps, ST w4 (w.heap.size + 1) (w.heap.size + 1) (w.heap.size + 1 + 1) T ps ps.length ∧ ps.length ≤ 11 ∧ T + ps.length ≤ 6 * (j + 1)) := hid (by
              rcases hcase with ⟨h1, h2⟩ | ⟨T', h1, h2⟩
              · rw [h2]
                exact ⟨T, ps ++ q ++ q2, HST3.out, by have := h1.out; omega, by have := HLN.out; have := HT1.out; omega⟩
              · exact ⟨T', [], h2, by simp, by have := h1.out; have := HLN.out; have := HT1.out; simp; omega⟩)
            replace HBB := hid (HBB.out.trans hb)
            clear hb hcase HSE HST3
            go_wp2
            exact ⟨⟨j + 1, t + x + 1, by omega, by omega, by go_num, by go_num, hlt, by omega, HN4, hid (HB.out.trans HBB.out)⟩, by simp [intOf]; omega⟩
          · as_aux_lemma =>
            have hs2 : 65536 ≤ t + x := by omega
            clear hs
            go_wp2
            go_meet
            case rel =>
              refine ⟨hid ?_, HB⟩
              obtain ⟨T, ps, h1, h2, h3⟩ := HST.out
              exact ⟨T, ps, h1, h2, by omega⟩
        · have hge : (nS : Int) ≤ (j : Int) := by omega
          go_wp2
          go_meet
          case rel =>
            refine ⟨hid ?_, HB⟩
            obtain ⟨T, ps, h1, h2, h3⟩ := HST.out
            exact ⟨T, ps, h1, h2, by omega⟩
    case rest =>
      have HSQ := hcut.1
      have HBQ := hcut.2
      clear hcut HB HST HS1 HS2
      go_wp2
      go_loopw [10] (fun iv wr => ∃ j : Nat, iv = .int .i64 j ∧ j ≤ nN ∧ Hid (∃ T ps, ST wr (w.heap.size + 1) (w.heap.size + 1) (w.heap.size + 1 + 1) T ps ps.length ∧ ps.length ≤ 11 ∧ T + ps.length ≤ 400000) ∧ Hid (Below (w.heap.size + 1) W3 wr)) (fun iv _ => nN - (intOf iv).toNat)
      case atStart => exact ⟨0, rfl, Nat.zero_le _, HSQ, HBQ⟩
      case round =>
        as_aux_lemma =>
        clear HSQ HBQ
        obtain ⟨j, rfl, hj, HST, HB⟩ := hrel
        have HWR : Hid (Below w.heap.size w wr) := hid (HP.out.1.trans (HB.out.mono (by omega)))
        have c2 : wr.cell? ⟨w.heap.size, 2, none⟩ = some (.slice aN nN cN) := by rw [HB.out.cell (p := ⟨w.heap.size, 2, none⟩) (by show w.heap.size < _; omega)]; exact HP.out.2.2.2.2.1
        have hsz : w.heap.size < wr.heap.size := by have := HB.out.size; have := HP.out.2.1; omega
        by_cases hlt : j < nN
        · as_aux_lemma =>
          have hlt' : (j : Int) < (nN : Int) := by omega
          obtain ⟨rfl, hbN⟩ := HN1.out (by omega)
          obtain ⟨p2, m0, m1⟩ := HN2.out j hlt
          obtain ⟨m, HM⟩ : ∃ m, Hid (M j = m) := ⟨_, hid rfl⟩
          rw [HM.out] at p2 m0 m1
          rw [← HWR.out.cell (p := ⟨bN, oN + j, none⟩) hbN] at p2
          have hbN2 : bN < wr.heap.size := by omega
          obtain ⟨s, HSS⟩ : ∃ s : ByteArray, Hid ((⟨(Lib.itoa m).toArray⟩ : ByteArray) = s) := ⟨_, hid rfl⟩
          have G1 : Hid (∀ wx, Below wr.heap.size wr wx → Calls Tryz.prog 11 #[.int .i64 m] wx fun e w' => e = .returned (.string s) ∧ Below wr.heap.size wr w') := hid (fun wx hb => (text10_any m wx m0 m1 ((HT.out.below HWR.out).below hb)).mono (by rintro e w' ⟨rfl, h⟩; rw [HSS.out]; exact ⟨rfl, Below.step hb h⟩))
          have G2 : Hid (∀ wx, Below wr.heap.size wr wx → Calls Tryz.prog 12 #[.int .i64 m] wx fun e w' => e = .returned (.string s) ∧ Below wr.heap.size wr w') := hid (fun wx hb => (refText10_any m wx m0 m1).mono (by rintro e w' ⟨rfl, h⟩; rw [HSS.out]; exact ⟨rfl, Below.step hb h⟩))
          have SO : Hid (∀ wx, Below wr.heap.size wr wx → wx.cell? ⟨w.heap.size, 2, none⟩ = some (.slice (some ⟨bN, oN, none⟩) nN cN) ∧ wx.cell? ⟨bN, oN + j, none⟩ = some (.int .i64 m)) := hid (fun wx hx => ⟨by rw [hx.cell (p := ⟨w.heap.size, 2, none⟩) hsz]; exact c2, by rw [hx.cell (p := ⟨bN, oN + j, none⟩) hbN2]; exact p2⟩)
          have i1 : (0 : Int) ≤ (j : Int) := by omega
          have hself : (s.toList == s.toList) = true := beq_self_eq_true _
          go_wp2
          go_region_held3 (fun wx => wx.cell? ⟨w.heap.size, 2, none⟩ = some (.slice (some ⟨bN, oN, none⟩) nN cN) ∧ wx.cell? ⟨bN, oN + j, none⟩ = some (.int .i64 m))
            (exact SO.out _ (by first | assumption | exact ⟨rfl, rfl, rfl, Nat.le_refl _, fun _ _ => rfl⟩))
            (first | (go_at_call 11; refine (G1.out _ (by first | assumption | exact ⟨rfl, rfl, rfl, Nat.le_refl _, fun _ _ => rfl⟩)).mono ?_; rintro e wx ⟨rfl, hbx⟩) | (go_at_call 12; refine (G2.out _ (by first | assumption | exact ⟨rfl, rfl, rfl, Nat.le_refl _, fun _ _ => rfl⟩)).mono ?_; rintro e wx ⟨rfl, hbx⟩))
          all_goals
            have HBX := hid hbx
            clear hbx
            go_wp2
            refine ⟨⟨j + 1, by go_num, hlt, hid ?_, hid (HB.out.trans (HBX.out.mono (by omega)))⟩, by simp [intOf]; omega⟩
            obtain ⟨T, ps, h1, h2, h3⟩ := HST.out
            exact ⟨T, ps, h1.below HBX.out, h2, h3⟩
        · as_aux_lemma =>
          have hge : (nN : Int) ≤ (j : Int) := by omega
          go_wp2
          clear c2 hsz HWR
          go_loopw [11] (fun iv wr => ∃ j : Nat, iv = .int .i64 j ∧ j ≤ nW ∧ Hid (∃ T ps, ST wr (w.heap.size + 1) (w.heap.size + 1) (w.heap.size + 1 + 1) T ps ps.length ∧ ps.length ≤ 11 + 2 * j ∧ T + ps.length ≤ 400000 + 2 * j) ∧ Hid (Below (w.heap.size + 1) W3 wr)) (fun iv _ => nW - (intOf iv).toNat)
          case atStart => exact ⟨0, rfl, Nat.zero_le _, HST, HB⟩
          case round =>
            as_aux_lemma =>
            clear HST HB hge hlt hj
            obtain ⟨i, rfl, hi, HST, HB⟩ := hrel
            have HWR : Hid (Below w.heap.size w wr) := hid (HP.out.1.trans (HB.out.mono (by omega)))
            have c3 : wr.cell? ⟨w.heap.size, 3, none⟩ = some (.slice aW nW cW) := by rw [HB.out.cell (p := ⟨w.heap.size, 3, none⟩) (by show w.heap.size < _; omega)]; exact HP.out.2.2.2.2.2
            have hsz : w.heap.size + 1 ≤ wr.heap.size := by have := HB.out.size; have := HP.out.2.1; omega
            have hsz1 : w.heap.size < wr.heap.size := by omega
            by_cases hlt : i < nW
            · as_aux_lemma =>
              have hlt' : (i : Int) < (nW : Int) := by omega
              obtain ⟨rfl, hbW⟩ := HW1.out (by omega)
              obtain ⟨p1, p2, n1, k0, k1⟩ := HW2.out i hlt
              rw [← HWR.out.cell (p := ⟨bW, oW + i * 2, none⟩) hbW] at p1
              rw [← HWR.out.cell (p := ⟨bW, oW + i * 2 + 1, none⟩) hbW] at p2
              have hbW2 : bW < wr.heap.size := by omega
              have HF : Hid (∀ wx, Below (w.heap.size + 1) wr wx → wx.cell? ⟨w.heap.size, 3, none⟩ = some (.slice (some ⟨bW, oW, none⟩) nW cW) ∧ wx.cell? ⟨bW, oW + i * 2, none⟩ = some (.int .u64 (N i)) ∧ wx.cell? ⟨bW, oW + i * 2 + 1, none⟩ = some (.int .i64 (K i)) ∧ w.heap.size < wx.heap.size ∧ bW < wx.heap.size) := hid (fun wx hb =>
                ⟨by rw [hb.cell (p := ⟨w.heap.size, 3, none⟩) (by show w.heap.size < _; omega)]; exact c3, by rw [hb.cell (p := ⟨bW, oW + i * 2, none⟩) (by show bW < _; omega)]; exact p1, by rw [hb.cell (p := ⟨bW, oW + i * 2 + 1, none⟩) (by show bW < _; omega)]; exact p2, Nat.lt_of_lt_of_le hsz1 hb.size, Nat.lt_of_lt_of_le hbW2 hb.size⟩)
              obtain ⟨T, ps, hst, hps, hT⟩ := HST.out
              have HT1 := hid (And.intro hps hT)
              have HL1 := hid (lies_any wr (w.heap.size + 1) (w.heap.size + 1) (w.heap.size + 1 + 1) T ps (N i) (K i) n1 k0 k1 hst (by omega) hsz)
              have HL2 := hid (fun w2 T ps (h : ST w2 (w.heap.size + 1) (w.heap.size + 1) (w.heap.size + 1 + 1) T ps ps.length) (h2 : ps.length ≤ 8388607) (h3 : w.heap.size + 1 ≤ w2.heap.size) => lies_any w2 (w.heap.size + 1) (w.heap.size + 1) (w.heap.size + 1 + 1) T ps (N i) (K i) n1 k0 k1 h h2 h3)
              clear hst hps hT HST n1 k0 k1
              go_wp2_with fail
              refine HL1.out.mono ?_
              rintro e w2 ⟨rfl, v, hst, hb⟩
              obtain ⟨r1, HR1⟩ : ∃ r1 : Item, Hid ((v, (layOut (N i) (K i)).1) = r1) := ⟨_, hid rfl⟩
              rw [HR1.out] at hst
              have e1 : ps.length + 1 = (ps ++ [r1]).length := by simp
              rw [e1] at hst
              have HST2 := hid hst
              have HBB := hid hb
              have HC := hid (HF.out w2 hb)
              have hsz2 : w.heap.size + 1 ≤ w2.heap.size := Nat.le_trans hsz hb.size
              clear hst hb e1 c3 p1 p2 hsz1 hbW2 HL1
              have c3 := HC.out.1
              have p1 := HC.out.2.1
              have p2 := HC.out.2.2.1
              have z1 := HC.out.2.2.2.1
              have z2 := HC.out.2.2.2.2
              go_wp2_with fail
              refine (HL2.out w2 T (ps ++ [r1]) HST2.out (by have := HT1.out; rw [List.length_append]; simp; omega) hsz2).mono ?_
              rintro e w3 ⟨rfl, v', hst, hb⟩
              obtain ⟨r2, HR2⟩ : ∃ r2 : Item, Hid ((v', (layOut (N i) (K i)).1) = r2) := ⟨_, hid rfl⟩
              rw [HR2.out] at hst
              have e1 : (ps ++ [r1]).length + 1 = (ps ++ [r1] ++ [r2]).length := by simp
              rw [e1] at hst
              have HLN : Hid ((ps ++ [r1] ++ [r2]).length = ps.length + 2) := hid (by simp)
              have HST3 := hid hst
              replace HBB := hid (HBB.out.trans hb)
              clear hst hb e1 c3 p1 p2 z1 z2 HST2 HC hsz2 HL2
              by_cases h2000 : i < 2000
              · have h2000' : (i : Int) < 2000 := by omega
                have HSE := hid (settle_any w3 (w.heap.size + 1) (w.heap.size + 1) (w.heap.size + 1 + 1) T (ps ++ [r1] ++ [r2]) HST3.out (by have := HLN.out; have := HT1.out; omega) (by have := HLN.out; have := HT1.out; omega) 12)
                go_wp2_with fail
                refine HSE.out.mono ?_
                rintro e w4 ⟨rfl, hb, hcase⟩
                have HN4 : Hid (∃ T ps, ST w4 (w.heap.size + 1) (w.heap.size + 1) (w.heap.size + 1 + 1) T ps ps.length ∧ ps.length ≤ 11 + 2 * (i + 1) ∧ T + ps.length ≤ 400000 + 2 * (i + 1)) := hid (by
                  rcases hcase with ⟨h1, h2⟩ | ⟨T', h1, h2⟩
                  · rw [h2]
                    exact ⟨T, ps ++ [r1] ++ [r2], HST3.out, by have := HLN.out; have := HT1.out; omega, by have := HLN.out; have := HT1.out; omega⟩
                  · exact ⟨T', [], h2, by simp, by have := h1.out; have := HLN.out; have := HT1.out; simp; omega⟩)
                replace HBB := hid (HBB.out.trans hb)
                clear hb hcase HSE HST3
                go_wp2
                exact ⟨⟨i + 1, by go_num, hlt, HN4, hid (HB.out.trans HBB.out)⟩, by simp [intOf]; omega⟩
              · have h2000' : (2000 : Int) ≤ (i : Int) := by omega
                go_wp2
                exact ⟨⟨i + 1, by go_num, hlt, hid ⟨T, ps ++ [r1] ++ [r2], HST3.out, by have := HLN.out; have := HT1.out; omega, by have := HLN.out; have := HT1.out; omega⟩, hid (HB.out.trans HBB.out)⟩, by simp [intOf]; omega⟩
            · as_aux_lemma =>
              have hge : (nW : Int) ≤ (i : Int) := by omega
              obtain ⟨T, ps, hst, hps, hT⟩ := HST.out
              have HT1 := hid (And.intro hps hT)
              have HST1 := hid hst
              have HLY := hid (lays_any wr (HT.out.below HWR.out))
              clear hst hps hT HST
              go_wp2_with fail
              refine HLY.out.mono ?_
              rintro e w2 ⟨rfl, hb⟩
              have HST2 := hid (HST1.out.below hb)
              have HB2 := hid (HB.out.trans (hb.mono hsz))
              clear hb HST1 HLY
              have HSE := hid (settle_any w2 (w.heap.size + 1) (w.heap.size + 1) (w.heap.size + 1 + 1) T ps HST2.out (by have := HT1.out; omega) (by have := HT1.out; omega) 0)
              go_wp2_with fail
              refine HSE.out.mono ?_
              rintro e w4 ⟨rfl, hb, hcase⟩
              have HST4 : Hid (∃ T', ST w4 (w.heap.size + 1) (w.heap.size + 1) (w.heap.size + 1 + 1) T' [] 0) := hid (by
                rcases hcase with ⟨h1, h2⟩ | ⟨T', h1, h2⟩
                · have := h1.out; omega
                · exact ⟨T', h2⟩)
              have HB4 := hid (HB2.out.trans hb)
              clear hb hcase HSE HST2 HB2
              obtain ⟨T', hst4⟩ := HST4.out
              have HLK := hid hst4.look
              clear hst4 HST4
              go_wp2_with fail
              refine HLK.out.mono ?_
              rintro e w5 ⟨rfl, hb⟩
              have HB5 := hid (HP.out.1.trans ((HB4.out.trans hb).mono (by omega)))
              clear hb HLK
              go_wp2
              go_ret
              exact ⟨rfl, HB5.out⟩
end Go.Proofs.YtipjjhccbgbdiaaGreatDoor
