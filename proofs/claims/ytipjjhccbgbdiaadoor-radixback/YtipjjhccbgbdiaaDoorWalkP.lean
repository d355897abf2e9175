/- The walk of the statement RadixBack. -/
import Derived.Test.YtipjjhccbgbdiaaDoorWalkO
import Derived.Test.YtipjjhccbgbdiaaDoorWalkM
import Derived.Lib.ItoaLen
namespace Go.Proofs.YtipjjhccbgbdiaaDoor
open Go Go.RowKit
open Go.RowKit (wrap32 wrap64)

theorem str_mk (l : List UInt8) : (⟨l.toArray⟩ : ByteArray).size = l.length := by rw [← size_list]

/-- Of two rows the one is the beginning of the other just if their texts of base 16 are. -/
theorem pre_eq (l m : List UInt8) (a b s t : ByteArray) (ha : a.data.toList = l) (hb : b.data.toList = m.take l.length) (hs : s.data.toList = enc16 l) (ht : t.data.toList = enc16 m) :
    (s.toList == (t.extract 0 s.size).toList) = (a.toList == b.toList) := by
  have e1 : (t.extract 0 s.size).toList = enc16 (m.take l.length) := by
    have hsz : s.size = 2 * l.length := by rw [← size_list, hs, enc16_length]
    rw [Lib.toList_data, ByteArray.data_extract, Array.toList_extract, hsz]
    simp only [List.extract_eq_take_drop, List.drop_zero, Nat.sub_zero]
    rw [ht, enc16_take]
  rw [e1, Lib.toList_data, Lib.toList_data, Lib.toList_data, hs, ha, hb]
  by_cases h : l = m.take l.length
  · rw [← h]; simp
  · rw [beq_eq_false_iff_ne.2 h, beq_eq_false_iff_ne.2 (fun k => h (enc16_inj _ _ k))]

theorem itoa_le (n : Int) (h0 : -9223372036854775808 ≤ n) (h1 : n ≤ 9223372036854775807) : (Lib.itoa n).length ≤ 1048576 := by
  unfold Lib.itoa
  split
  · have := Lib.nDigits_le20 n.natAbs (by omega)
    rw [List.length_cons, Lib.decDigits_length]
    omega
  · have := Lib.nDigits_le20 n.toNat (by omega)
    rw [Lib.decDigits_length]
    omega

theorem wide7 (n : Nat) (h : n < 18446744073709551616) : ((n : Int) / 2 ^ (8 * (7 + 1)) != 0) = false := by
  have e : (2 : Int) ^ (8 * (7 + 1)) = 18446744073709551616 := by decide
  rw [e, Int.ediv_eq_zero_of_lt (by omega) (by omega)]
  rfl

/-- A number's text: what the walk asks of it. -/
theorem itoa_facts (m : Int) (s : ByteArray) (h0 : -9223372036854775808 ≤ m) (h1 : m ≤ 9223372036854775807) (hs : (⟨(Lib.itoa m).toArray⟩ : ByteArray) = s) :
    ∃ hs0 : 0 < s.size, ¬ s.toList = [] ∧ s.toList.isEmpty = false ∧ (Lib.itoa m).length ≤ 1048576 ∧ ((s[0].toNat : Int) == 45) = decide (m < 0) := by
  have hl : s.data.toList = Lib.itoa m := by rw [← hs]
  obtain ⟨k1, k2⟩ := itoa_head m
  have hsz : s.size = (Lib.itoa m).length := by rw [← size_list, hl]
  have hs0 : 0 < s.size := by omega
  have hne : ¬ s.toList = [] := by
    rw [Lib.toList_data, hl]
    intro k
    rw [k] at k1
    simp at k1
  refine ⟨hs0, hne, by simp [hne], itoa_le m h0 h1, ?_⟩
  · rw [at_list s 0 hs0, hl]
    by_cases hm : m < 0
    · rw [decide_eq_true hm, k2.2 hm]; rfl
    · rw [decide_eq_false hm, beq_eq_false_iff_ne]
      intro k
      exact hm (k2.1 (UInt8.toNat_inj.1 (by simpa using (by omega : ((Lib.itoa m).getD 0 0).toNat = 45))))

set_option maxRecDepth 100000 in
set_option maxHeartbeats 8000000 in
theorem back_walk (w : World) (aB : Option Addr) (bB oB nB cB : Nat) (V : Nat → Value) (L : Nat → List UInt8) (aN : Option Addr) (bN oN nN cN : Nat) (M : Nat → Int) (aW : Option Addr) (bW oW nW cW : Nat) (N : Nat → Nat) (K : Nat → Int) (vS : Value)
    (ht : Tens w) (hnB : nB ≤ 140737488355328) (hnN : nN ≤ 140737488355328) (hnW : nW ≤ 140737488355328) (hB1 : 0 < nB → aB = some ⟨bB, oB, none⟩ ∧ bB < w.heap.size) (hB2 : ∀ i, i < nB → w.cell? ⟨bB, oB + i, none⟩ = some (V i) ∧ Rd w (V i) (L i) ∧ (L i).length ≤ 140737488355328)
    (hN1 : 0 < nN → aN = some ⟨bN, oN, none⟩ ∧ bN < w.heap.size) (hN2 : ∀ i, i < nN → w.cell? ⟨bN, oN + i, none⟩ = some (.int .i64 (M i)) ∧ -9223372036854775808 ≤ M i ∧ M i ≤ 9223372036854775807)
    (hW1 : 0 < nW → aW = some ⟨bW, oW, none⟩ ∧ bW < w.heap.size) (hW2 : ∀ i, i < nW → w.cell? ⟨bW, oW + i * 2, none⟩ = some (.int .u64 (N i)) ∧ w.cell? ⟨bW, oW + i * 2 + 1, none⟩ = some (.int .i64 (K i)) ∧ N i < 18446744073709551616) :
    Calls Tryd.prog 3 #[.agg #[.slice aB nB cB, vS, .slice aN nN cN, .slice aW nW cW]] w fun e w' => e = .returned (.bool true) ∧ Below w.heap.size w w' := by
  have HT := hid ht
  have HB1 := hid hB1
  have HB2 := hid hB2
  have HN1 := hid hN1
  have HN2 := hid hN2
  have HW1 := hid hW1
  have HW2 := hid hW2
  clear ht hB1 hB2 hN1 hN2 hW1 hW2
  go_enter Tryd.func3, Tryd.ntmps3
  go_wp2
  go_loopw [3, 4] (fun tv iv wr => ∃ (j : Nat) (t z : Int), 0 ≤ t ∧ t ≤ 524288 ∧ tv = .int .i64 t ∧ iv = .int .i64 z ∧ z = (j : Int) ∧ j ≤ nB ∧ Hid (0 < j → (L (j - 1)).length ≤ 524288) ∧ Below (w.heap.size + 1) (w.alloc (.cells #[.slice aB nB cB, vS, .slice aN nN cN, .slice aW nW cW] 27)) wr) (fun _ iv _ => nB - (intOf iv).toNat)
  case atStart => exact ⟨0, 0, 0, by omega, by omega, rfl, rfl, rfl, Nat.zero_le _, hid (fun h => by omega), Below.refl _ _⟩
  case round =>
    obtain ⟨j, t, z, ht0, ht1, rfl, rfl, hz, hj, HLJ, hbel⟩ := hrel
    have hw : Below w.heap.size w wr := ((Below.refl w.heap.size w).alloc (Nat.le_refl _) _).trans (hbel.mono (by omega))
    have c0 : wr.cell? ⟨w.heap.size, 0, none⟩ = some (.slice aB nB cB) := by rw [hbel.cell (p := ⟨w.heap.size, 0, none⟩) (by simp)]; simp
    have c2 : wr.cell? ⟨w.heap.size, 2, none⟩ = some (.slice aN nN cN) := by rw [hbel.cell (p := ⟨w.heap.size, 2, none⟩) (by simp)]; simp
    have hsz : w.heap.size < wr.heap.size := by have := hbel.size; simp at this; omega
    have HBEL := hid hbel
    have HW := hid hw
    clear hbel hw
    by_cases hlt : j < nB
    · have hlt' : (j : Int) < (nB : Int) := by omega
      obtain ⟨rfl, hbB⟩ := HB1.out (by omega)
      obtain ⟨p2, r2, q2⟩ := HB2.out j hlt
      have R2 := hid (r2.below HW.out)
      rw [← HW.out.cell (p := ⟨bB, oB + j, none⟩) hbB] at p2
      have hbB2 : bB < wr.heap.size := by omega
      clear r2
      obtain ⟨v2, HV2⟩ : ∃ v, Hid (V j = v) := ⟨_, hid rfl⟩
      obtain ⟨l2, HL2⟩ : ∃ l, Hid (L j = l) := ⟨_, hid rfl⟩
      rw [HV2.out] at p2
      rw [HV2.out, HL2.out] at R2
      rw [HL2.out] at q2
      obtain ⟨a2, c2', e2⟩ : ∃ a c, v2 = .slice a l2.length c := by obtain ⟨a, _, _, c, h, _⟩ := R2.out; exact ⟨a, c, h⟩
      subst e2
      obtain ⟨x2, hx2⟩ : ∃ x : Int, (l2.length : Int) = x := ⟨_, rfl⟩
      have hx2a : 0 ≤ x2 := by omega
      have hx2b : x2 ≤ 140737488355328 := by omega
      have HX2 := hid hx2
      clear q2 c2
      by_cases hs : t + x2 < 524288
      · as_aux_lemma =>
        have HC0 := hid c0
        have HP2 := hid p2
        have hcap := R2.out.cap
        cases j with
        | zero =>
          obtain rfl : z = 0 := hz
          have p2 : wr.cell? ⟨bB, oB, none⟩ = some (.slice a2 l2.length c2') := HP2.out
          go_wp2_with fail
          refine (back_any l2 _ _ R2.out (by have := HX2.out; omega)).mono ?_
          rintro e w3 ⟨rfl, hb3⟩
          have HB3 := hid hb3
          clear hb3 c0 p2
          go_wp2
          exact ⟨⟨1, t + x2 + 1, 1, by omega, by omega, rfl, rfl, rfl, hlt, hid (fun _ => by show (L 0).length ≤ _; rw [HL2.out]; have := HX2.out; omega), HBEL.out.trans (HB3.out.mono hsz)⟩, by simp [intOf]; omega⟩
        | succ k =>
          obtain rfl : z = (k : Int) + 1 := hz
          obtain ⟨p1, r1, q1⟩ := HB2.out k (by omega)
          rw [← HW.out.cell (p := ⟨bB, oB + k, none⟩) hbB] at p1
          have q3 : (L k).length ≤ 524288 := HLJ.out (by omega)
          have R1 := hid (r1.below HW.out)
          clear r1 q1
          generalize V k = v1 at p1 R1
          generalize L k = l1 at R1 q3
          obtain ⟨a1, c1, e1⟩ : ∃ a c, v1 = .slice a l1.length c := by obtain ⟨a, _, _, c, h, _⟩ := R1.out; exact ⟨a, c, h⟩
          subst e1
          have HP1 := hid p1
          have HQ3 := hid q3
          clear p1 q3
          go_wp2_with fail
          refine (back_any l2 _ _ R2.out (by have := HX2.out; omega)).mono ?_
          rintro e w3 ⟨rfl, hb3⟩
          have HB3 := hid hb3
          have c03 := HC0.out
          have p13 := HP1.out
          rw [← hb3.cell (p := ⟨w.heap.size, 0, none⟩) hsz] at c03
          rw [← hb3.cell (p := ⟨bB, oB + k, none⟩) hbB2] at p13
          clear hb3 c0 p2
          go_wp2_with fail
          refine ((R1.out.below HB3.out).text16 (by have := HQ3.out; omega)).mono ?_
          rintro e w4 ⟨rfl, hb4⟩
          obtain ⟨s, HS⟩ : ∃ s : ByteArray, Hid ((⟨(enc16 l1).toArray⟩ : ByteArray) = s) := ⟨_, hid rfl⟩
          rw [HS.out]
          have HB4 := hid (Below.step HB3.out hb4)
          clear hb4 c03 p13 HB3
          go_wp2_with fail
          refine ((R2.out.below HB4.out).text16 (by have := HX2.out; omega)).mono ?_
          rintro e w5 ⟨rfl, hb5⟩
          obtain ⟨u, HU⟩ : ∃ s : ByteArray, Hid ((⟨(enc16 l2).toArray⟩ : ByteArray) = s) := ⟨_, hid rfl⟩
          rw [HU.out]
          have HB5 := hid (Below.step HB4.out hb5)
          clear hb5 HB4
          have hss : s.size = 2 * l1.length := by rw [← HS.out, str_mk, enc16_length]
          have hus : u.size = 2 * l2.length := by rw [← HU.out, str_mk, enc16_length]
          have hsn : s.size ≤ 4194304 := by have := HQ3.out; omega
          have hun : u.size ≤ 4194304 := by have := HX2.out; omega
          have HSS := hid hss
          have HUS := hid hus
          clear hx2 hss hus
          by_cases hle : l1.length ≤ l2.length
          · have hle1 : (l1.length : Int) ≤ (l2.length : Int) := by omega
            have hle2 : (s.size : Int) ≤ (u.size : Int) := by have := HSS.out; have := HUS.out; omega
            have hle3 : (l1.length : Int) ≤ (c2' : Int) := by omega
            obtain ⟨A, HA⟩ : ∃ s : ByteArray, Hid ((⟨l1.toArray⟩ : ByteArray) = s) := ⟨_, hid rfl⟩
            obtain ⟨B, HBy⟩ : ∃ s : ByteArray, Hid ((⟨(l2.take l1.length).toArray⟩ : ByteArray) = s) := ⟨_, hid rfl⟩
            have k1 : ∀ n, (convert 28 9 (.slice a1 l1.length c1)).run Tryd.prog (w5.drewN n) = .ok (.string A) (w5.drewN n) := fun n => by rw [← HA.out]; exact ((R1.out.below HB5.out).drewN n).convert
            have k2 : ∀ n, (convert 28 9 (.slice a2 l1.length c2')).run Tryd.prog (w5.drewN n) = .ok (.string B) (w5.drewN n) := fun n => by rw [← HBy.out]; exact (((R2.out.below HB5.out).drewN n).take l1.length hle).convert
            obtain ⟨q, hq1⟩ : ∃ q : Bool, (A.toList == B.toList) = q := ⟨_, rfl⟩
            have hq2 : (s.toList == (u.extract 0 s.size).toList) = q := by
              rw [← hq1]
              exact pre_eq l1 l2 A B s u (by rw [← HA.out]) (by rw [← HBy.out]) (by rw [← HS.out]) (by rw [← HU.out])
            cases q
            all_goals
              go_wp2_with fail
              go_quiet (fail)
              rename_i nq
              have HB6 : Hid (Below wr.heap.size wr (w5.drewN nq)) := hid (HB5.out.trans ⟨rfl, rfl, rfl, Nat.le_refl _, fun _ _ => rfl⟩)
              clear HB5 k1 k2
              generalize w5.drewN nq = w6 at HB6 ⊢
              go_wp2
              exact ⟨⟨k + 2, t + x2 + 1, (k : Int) + 1 + 1, by omega, by omega, rfl, by go_num, by omega, hlt, hid (fun _ => by show (L (k + 1)).length ≤ _; rw [HL2.out]; have := HX2.out; omega), HBEL.out.trans (HB6.out.mono hsz)⟩, by simp [intOf]; omega⟩
          · have hle1 : decide ((l1.length : Int) ≤ (l2.length : Int)) = false := decide_eq_false (by omega)
            have hle2 : decide ((s.size : Int) ≤ (u.size : Int)) = false := decide_eq_false (by have := HSS.out; have := HUS.out; omega)
            have hle4 : ¬ s.size ≤ u.size := by have := HSS.out; have := HUS.out; omega
            go_wp2_with fail
            go_quiet (fail)
            rename_i nq
            have HB6 : Hid (Below wr.heap.size wr (w5.drewN nq)) := hid (HB5.out.trans ⟨rfl, rfl, rfl, Nat.le_refl _, fun _ _ => rfl⟩)
            clear HB5
            generalize w5.drewN nq = w6 at HB6 ⊢
            go_wp2
            exact ⟨⟨k + 2, t + x2 + 1, (k : Int) + 1 + 1, by omega, by omega, rfl, by go_num, by omega, hlt, hid (fun _ => by show (L (k + 1)).length ≤ _; rw [HL2.out]; have := HX2.out; omega), HBEL.out.trans (HB6.out.mono hsz)⟩, by simp [intOf]; omega⟩
      · have hs2 : 524288 ≤ t + x2 := by omega
        have c2 : wr.cell? ⟨w.heap.size, 2, none⟩ = some (.slice aN nN cN) := by rw [HBEL.out.cell (p := ⟨w.heap.size, 2, none⟩) (by simp)]; simp
        clear hs
        obtain rfl := hz
        go_wp2
        clear c0 HB1 HB2
        go_loopw [9] (fun iv wq => ∃ i : Nat, iv = .int .i64 i ∧ i ≤ nN ∧ Below (w.heap.size + 1) (w.alloc (.cells #[.slice (some ⟨bB, oB, none⟩) nB cB, vS, .slice aN nN cN, .slice aW nW cW] 27)) wq) (fun iv _ => nN - (intOf iv).toNat)
        case atStart => exact ⟨0, rfl, Nat.zero_le _, HBEL.out⟩
        case round =>
          as_aux_lemma =>
          clear HBEL HW c2 hsz hj HLJ hlt
          obtain ⟨i, rfl, hi, hbel⟩ := hrel
          have hw : Below w.heap.size w wr := ((Below.refl w.heap.size w).alloc (Nat.le_refl _) _).trans (hbel.mono (by omega))
          have c2 : wr.cell? ⟨w.heap.size, 2, none⟩ = some (.slice aN nN cN) := by rw [hbel.cell (p := ⟨w.heap.size, 2, none⟩) (by simp)]; simp
          have hsz : w.heap.size < wr.heap.size := by have := hbel.size; simp at this; omega
          have HBEL := hid hbel
          have HW := hid hw
          clear hbel hw
          by_cases hlt : i < nN
          · as_aux_lemma =>
            have hlt' : (i : Int) < (nN : Int) := by omega
            obtain ⟨rfl, hbN⟩ := HN1.out (by omega)
            obtain ⟨p2, m0, m1⟩ := HN2.out i hlt
            rw [← HW.out.cell (p := ⟨bN, oN + i, none⟩) hbN] at p2
            have hbN2 : bN < wr.heap.size := by omega
            obtain ⟨m, HM⟩ : ∃ m, Hid (M i = m) := ⟨_, hid rfl⟩
            rw [HM.out] at p2 m0 m1
            have HC2 := hid c2
            have HP2 := hid p2
            go_wp2_with fail
            refine (text10_any m _ m0 m1 (HT.out.below HW.out)).mono ?_
            rintro e w2 ⟨rfl, hb2⟩
            obtain ⟨s, HS⟩ : ∃ s : ByteArray, Hid ((⟨(Lib.itoa m).toArray⟩ : ByteArray) = s) := ⟨_, hid rfl⟩
            rw [HS.out]
            have HB2 := hid hb2
            have c22 := HC2.out
            have p22 := HP2.out
            rw [← hb2.cell (p := ⟨w.heap.size, 2, none⟩) hsz] at c22
            rw [← hb2.cell (p := ⟨bN, oN + i, none⟩) hbN2] at p22
            clear hb2 c2 p2
            obtain ⟨hs0, hq1, hq5, hq2, hq3⟩ := itoa_facts m s m0 m1 HS.out
            obtain ⟨q, hq4⟩ : ∃ q : Bool, decide (m < 0) = q := ⟨_, rfl⟩
            rw [hq4] at hq3
            have hs0' : (0 : Int) < (s.size : Int) := by omega
            go_wp2_with fail
            refine (number10_any s (Lib.itoa m) _ (by rw [← HS.out]) hq2).mono ?_
            rintro e w3 ⟨rfl, hw⟩
            have hw' := hw.symm
            clear hw
            subst hw'
            rw [num_itoa m m0 m1]
            have HM0 := hid (And.intro m0 m1)
            have HQ2 := hid hq2
            clear hq2
            go_wp2_with (go_at_call 10; refine (num_any _ _).mono ?_; rintro e wz ⟨rfl, hw⟩; have hw' := hw.symm; clear hw; subst hw')
            go_cut [165] (fun s165 wc => s165 = .bool false ∧ Below wr.heap.size wr wc)
            case first =>
              as_aux_lemma =>
              clear hq1 hq5 hq3 hq4 hs0'
              cases i with
              | zero =>
                rw [show ((0 : Nat) : Int) = (0 : Int) from rfl]
                go_quiet (fail)
                rename_i nq
                have HB4 : Hid (Below wr.heap.size wr (w2.drewN nq)) := hid (HB2.out.trans ⟨rfl, rfl, rfl, Nat.le_refl _, fun _ _ => rfl⟩)
                clear HB2
                go_wp2
                go_meet
                case rel => exact ⟨rfl, HB4.out⟩
              | succ k =>
                rw [show ((k + 1 : Nat) : Int) = (k : Int) + 1 from rfl]
                have hlt2 : (k : Int) + 1 < (nN : Int) := by omega
                obtain ⟨p1, n0, n1⟩ := HN2.out k (by omega)
                rw [← HW.out.cell (p := ⟨bN, oN + k, none⟩) hbN, ← HB2.out.cell (p := ⟨bN, oN + k, none⟩) hbN2] at p1
                generalize M k = m' at p1 n0 n1
                by_cases g1 : m' ≤ m
                · by_cases g2 : 0 ≤ m'
                  · obtain ⟨s', HS'⟩ : ∃ s : ByteArray, Hid ((⟨(Lib.itoa m').toArray⟩ : ByteArray) = s) := ⟨_, hid rfl⟩
                    have G : Hid (Gives w2 8 (.int .i64 m') s') := hid (gives10 (HT.out.below (Below.step HW.out HB2.out)) n0 n1 rfl (by rw [← HS'.out]))
                    have g3 : ¬ s.size < s'.size := by
                      have := itoa_len_mono m' m g2 g1
                      rw [← HS.out, ← HS'.out, str_mk, str_mk]
                      omega
                    have SO : Hid (∀ wx, Below w2.heap.size w2 wx → wx.cell? ⟨w.heap.size, 2, none⟩ = some (.slice (some ⟨bN, oN, none⟩) nN cN) ∧ wx.cell? ⟨bN, oN + (k + 1), none⟩ = some (.int .i64 m) ∧ wx.cell? ⟨bN, oN + k, none⟩ = some (.int .i64 m')) := hid (fun wx hx => ⟨by rw [hx.cell (p := ⟨w.heap.size, 2, none⟩) (Nat.lt_of_lt_of_le hsz HB2.out.size)]; exact c22, by rw [hx.cell (p := ⟨bN, oN + (k + 1), none⟩) (Nat.lt_of_lt_of_le hbN2 HB2.out.size)]; exact p22, by rw [hx.cell (p := ⟨bN, oN + k, none⟩) (Nat.lt_of_lt_of_le hbN2 HB2.out.size)]; exact p1⟩)
                    have i0 : (0 : Int) ≤ (k : Int) + 1 := by omega
                    have i1 : (0 : Int) ≤ (k : Int) := by omega
                    have i2 : (k : Int) < (nN : Int) := by omega
                    have i3 : IntKind.i64.wrap ((k : Int) + 1 - 1) = (k : Int) := by rw [IntKind.wrap_i64]; omega
                    have i4 : IntKind.i64.wrap (k : Int) = (k : Int) := by rw [IntKind.wrap_i64]; omega
                    go_region_held3 (fun wx => wx.cell? ⟨w.heap.size, 2, none⟩ = some (.slice (some ⟨bN, oN, none⟩) nN cN) ∧ wx.cell? ⟨bN, oN + (k + 1), none⟩ = some (.int .i64 m) ∧ wx.cell? ⟨bN, oN + k, none⟩ = some (.int .i64 m'))
                      (exact SO.out _ (by first | assumption | exact ⟨rfl, rfl, rfl, Nat.le_refl _, fun _ _ => rfl⟩))
                      (first | (go_at_call 8; refine (G.out _ (by first | assumption | exact ⟨rfl, rfl, rfl, Nat.le_refl _, fun _ _ => rfl⟩)).mono ?_; rintro e wx ⟨rfl, hbx⟩))
                    all_goals
                      have HBX := hid (Below.step HB2.out hbx)
                      clear hbx
                      go_wp2
                      go_meet
                    case rel => exact ⟨rfl, HBX.out⟩
                  · have g3 : decide (0 ≤ m') = false := decide_eq_false g2
                    go_quiet (fail)
                    rename_i nq
                    have HB4 : Hid (Below wr.heap.size wr (w2.drewN nq)) := hid (HB2.out.trans ⟨rfl, rfl, rfl, Nat.le_refl _, fun _ _ => rfl⟩)
                    clear HB2
                    go_wp2
                    go_meet
                    case rel => exact ⟨rfl, HB4.out⟩
                · have g3 : decide (m' ≤ m) = false := decide_eq_false g1
                  go_quiet (fail)
                  rename_i nq
                  have HB4 : Hid (Below wr.heap.size wr (w2.drewN nq)) := hid (HB2.out.trans ⟨rfl, rfl, rfl, Nat.le_refl _, fun _ _ => rfl⟩)
                  clear HB2
                  go_wp2
                  go_meet
                  case rel => exact ⟨rfl, HB4.out⟩
            case rest =>
              obtain ⟨rfl, hbc⟩ := hcut
              have HBC := hid hbc
              clear hbc
              go_wp2
              exact ⟨⟨i + 1, by go_num, hlt, HBEL.out.trans (HBC.out.mono hsz)⟩, by simp [intOf]; omega⟩
          · have hge : (nN : Int) ≤ (i : Int) := by omega
            have c3 : wr.cell? ⟨w.heap.size, 3, none⟩ = some (.slice aW nW cW) := by rw [HBEL.out.cell (p := ⟨w.heap.size, 3, none⟩) (by simp)]; simp
            go_wp2
            clear c2 hge
            go_loopw [13] (fun iv wq => ∃ i : Nat, iv = .int .i64 i ∧ i ≤ nW ∧ Below (w.heap.size + 1) (w.alloc (.cells #[.slice (some ⟨bB, oB, none⟩) nB cB, vS, .slice aN nN cN, .slice aW nW cW] 27)) wq) (fun iv _ => nW - (intOf iv).toNat)
            case atStart => exact ⟨0, rfl, Nat.zero_le _, HBEL.out⟩
            case round =>
              as_aux_lemma =>
              clear HBEL HW c3 hsz hi hlt HN1 HN2
              obtain ⟨i, rfl, hi, hbel⟩ := hrel
              have hw : Below w.heap.size w wr := ((Below.refl w.heap.size w).alloc (Nat.le_refl _) _).trans (hbel.mono (by omega))
              have c3 : wr.cell? ⟨w.heap.size, 3, none⟩ = some (.slice aW nW cW) := by rw [hbel.cell (p := ⟨w.heap.size, 3, none⟩) (by simp)]; simp
              have hsz : w.heap.size < wr.heap.size := by have := hbel.size; simp at this; omega
              have HBEL := hid hbel
              have HW := hid hw
              clear hbel hw
              by_cases hlt : i < nW
              · have hlt' : (i : Int) < (nW : Int) := by omega
                obtain ⟨rfl, hbW⟩ := HW1.out (by omega)
                obtain ⟨p2, p3, hn⟩ := HW2.out i hlt
                rw [← HW.out.cell (p := ⟨bW, oW + i * 2, none⟩) hbW] at p2
                rw [← HW.out.cell (p := ⟨bW, oW + i * 2 + 1, none⟩) hbW] at p3
                generalize N i = n at p2 hn
                generalize K i = kk at p3
                have hbw2 : bW < wr.heap.size := by omega
                have HP2 := hid p2
                have HC3 := hid c3
                have HN := hid hn
                clear hn
                go_wp2_with fail
                refine (within_any _ _).mono ?_
                rintro e w' ⟨⟨r, hr, rfl⟩, hww⟩
                have hww' := hww.symm
                clear hww
                subst hww'
                go_wp2_with fail
                refine (lay_all n r hr _).mono ?_
                clear p2 p3 c3
                rintro e w2 (⟨va, rfl, f1, ra, hb2⟩ | ⟨rfl, f1, hw2⟩)
                · have c32 := HC3.out
                  have p22 := HP2.out
                  rw [← hb2.cell (p := ⟨w.heap.size, 3, none⟩) hsz] at c32
                  rw [← hb2.cell (p := ⟨bW, oW + i * 2, none⟩) hbw2] at p22
                  have HB2 := hid hb2
                  have RA := hid ra
                  have HF1 := hid f1
                  clear hb2 ra f1
                  have fl := fit_lt n (r + 1) HF1.out
                  have hbv := beVal_lay n (r + 1) fl
                  have f1' : ((n : Int) / 2 ^ (8 * (1 + r)) != 0) = false := by rw [Nat.add_comm 1 r]; exact HF1.out
                  obtain ⟨av, cv, ev⟩ : ∃ a c, va = .slice a (r + 1) c := by obtain ⟨a, _, _, c, h, _⟩ := RA.out; exact ⟨a, c, by rw [h, layL_length]⟩
                  subst ev
                  have HBV := hid hbv
                  clear fl hbv
                  have hlay := layL_length n (r + 1)
                  have HLAY := hid hlay
                  clear hlay
                  by_cases hr7 : r < 7
                  · have hr7' : 1 + (r : Int) < 8 := by omega
                    go_wp2_with fail
                    refine (RA.out.read (by rw [HLAY.out]; omega) (by rw [HLAY.out]; omega)).mono ?_
                    rintro e w4 ⟨rfl, hw4⟩
                    have hw4' := hw4.symm
                    clear hw4
                    subst hw4'
                    rw [HBV.out]
                    go_wp2_with (go_at_call 10; refine (num_any _ _).mono ?_; rintro e wz ⟨rfl, hw⟩; have hw' := hw.symm; clear hw; subst hw')
                    exact ⟨⟨i + 1, by go_num, hlt, HBEL.out.trans (HB2.out.mono hsz)⟩, by simp [intOf]; omega⟩
                  · have hr7' : (8 : Int) ≤ 1 + (r : Int) := by omega
                    go_wp2_with fail
                    refine (RA.out.read (by rw [HLAY.out]; omega) (by rw [HLAY.out]; omega)).mono ?_
                    rintro e w4 ⟨rfl, hw4⟩
                    have hw4' := hw4.symm
                    clear hw4
                    subst hw4'
                    rw [HBV.out]
                    go_wp2_with (go_at_call 10; refine (num_any _ _).mono ?_; rintro e wz ⟨rfl, hw⟩; have hw' := hw.symm; clear hw; subst hw')
                    exact ⟨⟨i + 1, by go_num, hlt, HBEL.out.trans (HB2.out.mono hsz)⟩, by simp [intOf]; omega⟩
                · have hw2' := hw2.symm
                  clear hw2
                  subst hw2'
                  have c3 := HC3.out
                  have p2 := HP2.out
                  have hr7 : r < 7 := by
                    apply Nat.lt_of_not_le
                    intro hge
                    obtain rfl : r = 7 := by omega
                    rw [wide7 n HN.out] at f1
                    exact absurd f1 (by decide)
                  have f1' : ((n : Int) / 2 ^ (8 * (1 + r)) != 0) = true := by rw [Nat.add_comm 1 r]; exact f1
                  clear f1
                  have hr7' : 1 + (r : Int) < 8 := by omega
                  go_wp2_with (go_at_call 10; refine (num_any _ _).mono ?_; rintro e wz ⟨rfl, hw⟩; have hw' := hw.symm; clear hw; subst hw')
                  exact ⟨⟨i + 1, by go_num, hlt, HBEL.out⟩, by simp [intOf]; omega⟩
              · have hge : (nW : Int) ≤ (i : Int) := by omega
                go_wp2_with fail
                refine (lays_any _ (HT.out.below HW.out)).mono ?_
                rintro e w2 ⟨rfl, hb2⟩
                have HB2 := hid (Below.step HW.out hb2)
                clear hb2
                go_wp2
                go_ret
                exact ⟨rfl, HB2.out⟩
    · have hge : (nB : Int) ≤ (j : Int) := by omega
      obtain rfl := hz
      go_wp2
      clear c0 HB1 HB2
      go_loopw [9] (fun iv wq => ∃ i : Nat, iv = .int .i64 i ∧ i ≤ nN ∧ Below (w.heap.size + 1) (w.alloc (.cells #[.slice aB nB cB, vS, .slice aN nN cN, .slice aW nW cW] 27)) wq) (fun iv _ => nN - (intOf iv).toNat)
      case atStart => exact ⟨0, rfl, Nat.zero_le _, HBEL.out⟩
      case round =>
        as_aux_lemma =>
        clear HBEL HW c2 hsz hj HLJ hlt
        obtain ⟨i, rfl, hi, hbel⟩ := hrel
        have hw : Below w.heap.size w wr := ((Below.refl w.heap.size w).alloc (Nat.le_refl _) _).trans (hbel.mono (by omega))
        have c2 : wr.cell? ⟨w.heap.size, 2, none⟩ = some (.slice aN nN cN) := by rw [hbel.cell (p := ⟨w.heap.size, 2, none⟩) (by simp)]; simp
        have hsz : w.heap.size < wr.heap.size := by have := hbel.size; simp at this; omega
        have HBEL := hid hbel
        have HW := hid hw
        clear hbel hw
        by_cases hlt : i < nN
        · as_aux_lemma =>
          have hlt' : (i : Int) < (nN : Int) := by omega
          obtain ⟨rfl, hbN⟩ := HN1.out (by omega)
          obtain ⟨p2, m0, m1⟩ := HN2.out i hlt
          rw [← HW.out.cell (p := ⟨bN, oN + i, none⟩) hbN] at p2
          have hbN2 : bN < wr.heap.size := by omega
          obtain ⟨m, HM⟩ : ∃ m, Hid (M i = m) := ⟨_, hid rfl⟩
          rw [HM.out] at p2 m0 m1
          have HC2 := hid c2
          have HP2 := hid p2
          go_wp2_with fail
          refine (text10_any m _ m0 m1 (HT.out.below HW.out)).mono ?_
          rintro e w2 ⟨rfl, hb2⟩
          obtain ⟨s, HS⟩ : ∃ s : ByteArray, Hid ((⟨(Lib.itoa m).toArray⟩ : ByteArray) = s) := ⟨_, hid rfl⟩
          rw [HS.out]
          have HB2 := hid hb2
          have c22 := HC2.out
          have p22 := HP2.out
          rw [← hb2.cell (p := ⟨w.heap.size, 2, none⟩) hsz] at c22
          rw [← hb2.cell (p := ⟨bN, oN + i, none⟩) hbN2] at p22
          clear hb2 c2 p2
          obtain ⟨hs0, hq1, hq5, hq2, hq3⟩ := itoa_facts m s m0 m1 HS.out
          obtain ⟨q, hq4⟩ : ∃ q : Bool, decide (m < 0) = q := ⟨_, rfl⟩
          rw [hq4] at hq3
          have hs0' : (0 : Int) < (s.size : Int) := by omega
          go_wp2_with fail
          refine (number10_any s (Lib.itoa m) _ (by rw [← HS.out]) hq2).mono ?_
          rintro e w3 ⟨rfl, hw⟩
          have hw' := hw.symm
          clear hw
          subst hw'
          rw [num_itoa m m0 m1]
          have HM0 := hid (And.intro m0 m1)
          have HQ2 := hid hq2
          clear hq2
          go_wp2_with (go_at_call 10; refine (num_any _ _).mono ?_; rintro e wz ⟨rfl, hw⟩; have hw' := hw.symm; clear hw; subst hw')
          go_cut [165] (fun s165 wc => s165 = .bool false ∧ Below wr.heap.size wr wc)
          case first =>
            as_aux_lemma =>
            clear hq1 hq5 hq3 hq4 hs0'
            cases i with
            | zero =>
              rw [show ((0 : Nat) : Int) = (0 : Int) from rfl]
              go_quiet (fail)
              rename_i nq
              have HB4 : Hid (Below wr.heap.size wr (w2.drewN nq)) := hid (HB2.out.trans ⟨rfl, rfl, rfl, Nat.le_refl _, fun _ _ => rfl⟩)
              clear HB2
              go_wp2
              go_meet
              case rel => exact ⟨rfl, HB4.out⟩
            | succ k =>
              rw [show ((k + 1 : Nat) : Int) = (k : Int) + 1 from rfl]
              have hlt2 : (k : Int) + 1 < (nN : Int) := by omega
              obtain ⟨p1, n0, n1⟩ := HN2.out k (by omega)
              rw [← HW.out.cell (p := ⟨bN, oN + k, none⟩) hbN, ← HB2.out.cell (p := ⟨bN, oN + k, none⟩) hbN2] at p1
              generalize M k = m' at p1 n0 n1
              by_cases g1 : m' ≤ m
              · by_cases g2 : 0 ≤ m'
                · obtain ⟨s', HS'⟩ : ∃ s : ByteArray, Hid ((⟨(Lib.itoa m').toArray⟩ : ByteArray) = s) := ⟨_, hid rfl⟩
                  have G : Hid (Gives w2 8 (.int .i64 m') s') := hid (gives10 (HT.out.below (Below.step HW.out HB2.out)) n0 n1 rfl (by rw [← HS'.out]))
                  have g3 : ¬ s.size < s'.size := by
                    have := itoa_len_mono m' m g2 g1
                    rw [← HS.out, ← HS'.out, str_mk, str_mk]
                    omega
                  have SO : Hid (∀ wx, Below w2.heap.size w2 wx → wx.cell? ⟨w.heap.size, 2, none⟩ = some (.slice (some ⟨bN, oN, none⟩) nN cN) ∧ wx.cell? ⟨bN, oN + (k + 1), none⟩ = some (.int .i64 m) ∧ wx.cell? ⟨bN, oN + k, none⟩ = some (.int .i64 m')) := hid (fun wx hx => ⟨by rw [hx.cell (p := ⟨w.heap.size, 2, none⟩) (Nat.lt_of_lt_of_le hsz HB2.out.size)]; exact c22, by rw [hx.cell (p := ⟨bN, oN + (k + 1), none⟩) (Nat.lt_of_lt_of_le hbN2 HB2.out.size)]; exact p22, by rw [hx.cell (p := ⟨bN, oN + k, none⟩) (Nat.lt_of_lt_of_le hbN2 HB2.out.size)]; exact p1⟩)
                  have i0 : (0 : Int) ≤ (k : Int) + 1 := by omega
                  have i1 : (0 : Int) ≤ (k : Int) := by omega
                  have i2 : (k : Int) < (nN : Int) := by omega
                  have i3 : IntKind.i64.wrap ((k : Int) + 1 - 1) = (k : Int) := by rw [IntKind.wrap_i64]; omega
                  have i4 : IntKind.i64.wrap (k : Int) = (k : Int) := by rw [IntKind.wrap_i64]; omega
                  go_region_held3 (fun wx => wx.cell? ⟨w.heap.size, 2, none⟩ = some (.slice (some ⟨bN, oN, none⟩) nN cN) ∧ wx.cell? ⟨bN, oN + (k + 1), none⟩ = some (.int .i64 m) ∧ wx.cell? ⟨bN, oN + k, none⟩ = some (.int .i64 m'))
                    (exact SO.out _ (by first | assumption | exact ⟨rfl, rfl, rfl, Nat.le_refl _, fun _ _ => rfl⟩))
                    (first | (go_at_call 8; refine (G.out _ (by first | assumption | exact ⟨rfl, rfl, rfl, Nat.le_refl _, fun _ _ => rfl⟩)).mono ?_; rintro e wx ⟨rfl, hbx⟩))
                  all_goals
                    have HBX := hid (Below.step HB2.out hbx)
                    clear hbx
                    go_wp2
                    go_meet
                  case rel => exact ⟨rfl, HBX.out⟩
                · have g3 : decide (0 ≤ m') = false := decide_eq_false g2
                  go_quiet (fail)
                  rename_i nq
                  have HB4 : Hid (Below wr.heap.size wr (w2.drewN nq)) := hid (HB2.out.trans ⟨rfl, rfl, rfl, Nat.le_refl _, fun _ _ => rfl⟩)
                  clear HB2
                  go_wp2
                  go_meet
                  case rel => exact ⟨rfl, HB4.out⟩
              · have g3 : decide (m' ≤ m) = false := decide_eq_false g1
                go_quiet (fail)
                rename_i nq
                have HB4 : Hid (Below wr.heap.size wr (w2.drewN nq)) := hid (HB2.out.trans ⟨rfl, rfl, rfl, Nat.le_refl _, fun _ _ => rfl⟩)
                clear HB2
                go_wp2
                go_meet
                case rel => exact ⟨rfl, HB4.out⟩
          case rest =>
            obtain ⟨rfl, hbc⟩ := hcut
            have HBC := hid hbc
            clear hbc
            go_wp2
            exact ⟨⟨i + 1, by go_num, hlt, HBEL.out.trans (HBC.out.mono hsz)⟩, by simp [intOf]; omega⟩
        · have hge : (nN : Int) ≤ (i : Int) := by omega
          have c3 : wr.cell? ⟨w.heap.size, 3, none⟩ = some (.slice aW nW cW) := by rw [HBEL.out.cell (p := ⟨w.heap.size, 3, none⟩) (by simp)]; simp
          go_wp2
          clear c2 hge
          go_loopw [13] (fun iv wq => ∃ i : Nat, iv = .int .i64 i ∧ i ≤ nW ∧ Below (w.heap.size + 1) (w.alloc (.cells #[.slice aB nB cB, vS, .slice aN nN cN, .slice aW nW cW] 27)) wq) (fun iv _ => nW - (intOf iv).toNat)
          case atStart => exact ⟨0, rfl, Nat.zero_le _, HBEL.out⟩
          case round =>
            as_aux_lemma =>
            clear HBEL HW c3 hsz hi hlt HN1 HN2
            obtain ⟨i, rfl, hi, hbel⟩ := hrel
            have hw : Below w.heap.size w wr := ((Below.refl w.heap.size w).alloc (Nat.le_refl _) _).trans (hbel.mono (by omega))
            have c3 : wr.cell? ⟨w.heap.size, 3, none⟩ = some (.slice aW nW cW) := by rw [hbel.cell (p := ⟨w.heap.size, 3, none⟩) (by simp)]; simp
            have hsz : w.heap.size < wr.heap.size := by have := hbel.size; simp at this; omega
            have HBEL := hid hbel
            have HW := hid hw
            clear hbel hw
            by_cases hlt : i < nW
            · have hlt' : (i : Int) < (nW : Int) := by omega
              obtain ⟨rfl, hbW⟩ := HW1.out (by omega)
              obtain ⟨p2, p3, hn⟩ := HW2.out i hlt
              rw [← HW.out.cell (p := ⟨bW, oW + i * 2, none⟩) hbW] at p2
              rw [← HW.out.cell (p := ⟨bW, oW + i * 2 + 1, none⟩) hbW] at p3
              generalize N i = n at p2 hn
              generalize K i = kk at p3
              have hbw2 : bW < wr.heap.size := by omega
              have HP2 := hid p2
              have HC3 := hid c3
              have HN := hid hn
              clear hn
              go_wp2_with fail
              refine (within_any _ _).mono ?_
              rintro e w' ⟨⟨r, hr, rfl⟩, hww⟩
              have hww' := hww.symm
              clear hww
              subst hww'
              go_wp2_with fail
              refine (lay_all n r hr _).mono ?_
              clear p2 p3 c3
              rintro e w2 (⟨va, rfl, f1, ra, hb2⟩ | ⟨rfl, f1, hw2⟩)
              · have c32 := HC3.out
                have p22 := HP2.out
                rw [← hb2.cell (p := ⟨w.heap.size, 3, none⟩) hsz] at c32
                rw [← hb2.cell (p := ⟨bW, oW + i * 2, none⟩) hbw2] at p22
                have HB2 := hid hb2
                have RA := hid ra
                have HF1 := hid f1
                clear hb2 ra f1
                have fl := fit_lt n (r + 1) HF1.out
                have hbv := beVal_lay n (r + 1) fl
                have f1' : ((n : Int) / 2 ^ (8 * (1 + r)) != 0) = false := by rw [Nat.add_comm 1 r]; exact HF1.out
                obtain ⟨av, cv, ev⟩ : ∃ a c, va = .slice a (r + 1) c := by obtain ⟨a, _, _, c, h, _⟩ := RA.out; exact ⟨a, c, by rw [h, layL_length]⟩
                subst ev
                have HBV := hid hbv
                clear fl hbv
                have hlay := layL_length n (r + 1)
                have HLAY := hid hlay
                clear hlay
                by_cases hr7 : r < 7
                · have hr7' : 1 + (r : Int) < 8 := by omega
                  go_wp2_with fail
                  refine (RA.out.read (by rw [HLAY.out]; omega) (by rw [HLAY.out]; omega)).mono ?_
                  rintro e w4 ⟨rfl, hw4⟩
                  have hw4' := hw4.symm
                  clear hw4
                  subst hw4'
                  rw [HBV.out]
                  go_wp2_with (go_at_call 10; refine (num_any _ _).mono ?_; rintro e wz ⟨rfl, hw⟩; have hw' := hw.symm; clear hw; subst hw')
                  exact ⟨⟨i + 1, by go_num, hlt, HBEL.out.trans (HB2.out.mono hsz)⟩, by simp [intOf]; omega⟩
                · have hr7' : (8 : Int) ≤ 1 + (r : Int) := by omega
                  go_wp2_with fail
                  refine (RA.out.read (by rw [HLAY.out]; omega) (by rw [HLAY.out]; omega)).mono ?_
                  rintro e w4 ⟨rfl, hw4⟩
                  have hw4' := hw4.symm
                  clear hw4
                  subst hw4'
                  rw [HBV.out]
                  go_wp2_with (go_at_call 10; refine (num_any _ _).mono ?_; rintro e wz ⟨rfl, hw⟩; have hw' := hw.symm; clear hw; subst hw')
                  exact ⟨⟨i + 1, by go_num, hlt, HBEL.out.trans (HB2.out.mono hsz)⟩, by simp [intOf]; omega⟩
              · have hw2' := hw2.symm
                clear hw2
                subst hw2'
                have c3 := HC3.out
                have p2 := HP2.out
                have hr7 : r < 7 := by
                  apply Nat.lt_of_not_le
                  intro hge
                  obtain rfl : r = 7 := by omega
                  rw [wide7 n HN.out] at f1
                  exact absurd f1 (by decide)
                have f1' : ((n : Int) / 2 ^ (8 * (1 + r)) != 0) = true := by rw [Nat.add_comm 1 r]; exact f1
                clear f1
                have hr7' : 1 + (r : Int) < 8 := by omega
                go_wp2_with (go_at_call 10; refine (num_any _ _).mono ?_; rintro e wz ⟨rfl, hw⟩; have hw' := hw.symm; clear hw; subst hw')
                exact ⟨⟨i + 1, by go_num, hlt, HBEL.out⟩, by simp [intOf]; omega⟩
            · have hge : (nW : Int) ≤ (i : Int) := by omega
              go_wp2_with fail
              refine (lays_any _ (HT.out.below HW.out)).mono ?_
              rintro e w2 ⟨rfl, hb2⟩
              have HB2 := hid (Below.step HW.out hb2)
              clear hb2
              go_wp2
              go_ret
              exact ⟨rfl, HB2.out⟩
end Go.Proofs.YtipjjhccbgbdiaaDoor
