/- The walk of the statement RadixOne. -/
import Derived.Test.YtipjjhccbgbdiaaDoorTexts
import Derived.Deep.DeepCutAuto
namespace Go.Proofs.YtipjjhccbgbdiaaDoor
open Go Go.RowKit
open Go.RowKit (wrap32 wrap64)

/-- In whatever world behind w: the call answers the string s, and nothing of w has turned. -/
def Gives (w : World) (f : FuncId) (v : Value) (s : ByteArray) : Prop := ∀ wx, Below w.heap.size w wx → Calls Tryd.prog f #[v] wx fun e w' => e = .returned (.string s) ∧ Below w.heap.size w w'

theorem str_of (s : ByteArray) (l : List UInt8) (h : s.data.toList = l) : (⟨l.toArray⟩ : ByteArray) = s := by rw [← h]

theorem gives64 {w : World} {v : Value} {l d : List UInt8} {s : ByteArray} (hr : Rd w v d) (hd : d.length ≤ 1048576) (he : enc urlL d = l) (hs : s.data.toList = l) : Gives w 18 v s := by
  intro wx hb
  refine ((hr.below hb).text64 hd).mono ?_
  rintro e w' ⟨rfl, h⟩
  rw [he, str_of s l hs]
  exact ⟨rfl, Below.step hb h⟩

theorem givesPad {w : World} {v : Value} {l d : List UInt8} {s : ByteArray} (hr : Rd w v d) (hd : d.length ≤ 1048576) (he : encPad d = l) (hs : s.data.toList = l) : Gives w 19 v s := by
  intro wx hb
  refine ((hr.below hb).textPad hd).mono ?_
  rintro e w' ⟨rfl, h⟩
  rw [he, str_of s l hs]
  exact ⟨rfl, Below.step hb h⟩

theorem gives16 {w : World} {v : Value} {l d : List UInt8} {s : ByteArray} (hr : Rd w v d) (hd : d.length ≤ 1048576) (he : enc16 d = l) (hs : s.data.toList = l) : Gives w 7 v s := by
  intro wx hb
  refine ((hr.below hb).text16 hd).mono ?_
  rintro e w' ⟨rfl, h⟩
  rw [he, str_of s l hs]
  exact ⟨rfl, Below.step hb h⟩

theorem gives10 {w : World} {n : Int} {l : List UInt8} {s : ByteArray} (ht : Tens w) (h0 : -9223372036854775808 ≤ n) (h1 : n ≤ 9223372036854775807) (he : Lib.itoa n = l) (hs : s.data.toList = l) : Gives w 8 (.int .i64 n) s := by
  intro wx hb
  refine (text10_any n wx h0 h1 (ht.below hb)).mono ?_
  rintro e w' ⟨rfl, h⟩
  rw [he, str_of s l hs]
  exact ⟨rfl, Below.step hb h⟩

set_option maxRecDepth 100000 in
set_option maxHeartbeats 1000000 in
theorem one_walk (w : World) (aS : Option Addr) (bS oS nS cS : Nat) (S : Nat → ByteArray)
    (ht : Tens w) (hnS : nS ≤ 140737488355328) (hS1 : 0 < nS → aS = some ⟨bS, oS, none⟩ ∧ bS < w.heap.size) (hS2 : ∀ i, i < nS → w.cell? ⟨bS, oS + i, none⟩ = some (.string (S i)) ∧ (S i).size ≤ 140737488355328) :
    Calls Tryd.prog 4 #[.slice aS nS cS] w fun e w' => e = .returned (.bool true) ∧ Below w.heap.size w w' := by
  have HT := hid ht
  have HS1 := hid hS1
  have HS2 := hid hS2
  clear ht hS1 hS2
  go_enter Tryd.func4, Tryd.ntmps4
  go_wp2
  go_loopw [3, 4] (fun tv iv wr => ∃ (j : Nat) (t : Int), 0 ≤ t ∧ t ≤ 524288 ∧ tv = .int .i64 t ∧ iv = .int .i64 j ∧ j ≤ nS ∧ Below w.heap.size w wr) (fun _ iv _ => nS - (intOf iv).toNat)
  case atStart => exact ⟨0, 0, by omega, by omega, rfl, rfl, Nat.zero_le _, Below.refl _ _⟩
  case round =>
    obtain ⟨j, t, ht0, ht1, rfl, rfl, hj, hbel⟩ := hrel
    have HW := hid hbel
    clear hbel
    by_cases hlt : j < nS
    · have hlt' : (j : Int) < (nS : Int) := by omega
      obtain ⟨rfl, hbS⟩ := HS1.out (by omega)
      obtain ⟨p1, q1⟩ := HS2.out j hlt
      rw [← HW.out.cell (p := ⟨bS, oS + j, none⟩) hbS] at p1
      generalize S j = s at p1 q1
      obtain ⟨x, hx⟩ : ∃ x : Int, (s.size : Int) = x := ⟨_, rfl⟩
      have hxa : 0 ≤ x := by omega
      have hxb : x ≤ 140737488355328 := by omega
      have HX := hid hx
      clear q1
      by_cases hs : t + x < 524288
      · obtain ⟨l, HL⟩ : ∃ l, Hid (s.data.toList = l) := ⟨_, hid rfl⟩
        have hll : l.length ≤ 524288 := by rw [← HL.out, size_list]; have := HX.out; omega
        have HLL := hid hll
        clear hll
        go_wp2_with fail
        refine (bytes64_any s l _ HL.out (by have := HLL.out; omega)).mono ?_
        rintro e w1 ⟨v1, rfl, hb1, ho1, -⟩
        obtain ⟨k1, HK1⟩ : ∃ k1 : Int, Hid ((code64 l : Int) = k1) := ⟨_, hid rfl⟩
        rw [HK1.out]
        have HB1 := hid hb1
        have HO1 := hid ho1
        clear hb1 ho1
        go_wp2_with fail
        refine (bytesPad_any s l _ HL.out (by have := HLL.out; omega)).mono ?_
        rintro e w2 ⟨n2, v2, hp2, rfl, hb2, ho2, -⟩
        obtain ⟨k2, HK2⟩ : ∃ k2 : Int, Hid ((codePad l (l.take (l.length - n2)) : Int) = k2) := ⟨_, hid rfl⟩
        rw [HK2.out]
        have HB12 := hid hb2
        have HO2 := hid ho2
        have HP2 := hid hp2
        clear hb2 ho2 hp2
        go_wp2_with fail
        refine (bytes16_any s l _ HL.out (by have := HLL.out; omega)).mono ?_
        rintro e w3 ⟨v3, rfl, hb3, ho3, -⟩
        obtain ⟨k3, HK3⟩ : ∃ k3 : Int, Hid ((code16 l : Int) = k3) := ⟨_, hid rfl⟩
        rw [HK3.out]
        have HB23 := hid hb3
        have HO3 := hid ho3
        clear hb3 ho3
        go_wp2_with fail
        refine (number10_any s l _ HL.out (by have := HLL.out; omega)).mono ?_
        rintro e w4 ⟨rfl, hw⟩
        have hw' := hw.symm
        clear hw
        subst hw'
        obtain ⟨m4, HM4⟩ : ∃ m : Int, Hid ((num10 (Lib.hasPrefix l [45]) (Lib.trimPrefix l [45])).1 = m) := ⟨_, hid rfl⟩
        obtain ⟨k4, HK4⟩ : ∃ k : Int, Hid (((num10 (Lib.hasPrefix l [45]) (Lib.trimPrefix l [45])).2 : Int) = k) := ⟨_, hid rfl⟩
        rw [HM4.out, HK4.out]
        have HB3 := hid (Below.step (Below.step HB1.out HB12.out) HB23.out)
        have A1 : ((k1 == 0) = true ∧ Hid (Gives w3 18 v1 s)) ∨ (k1 == 0) = false := by
          cases h : (k1 == 0) with
          | false => exact .inr rfl
          | true =>
            have h0 : code64 l = 0 := by have := beq_iff_eq.1 h; have := HK1.out; omega
            exact .inl ⟨rfl, hid (gives64 (((Rd.own (HO1.out h0)).below HB12.out).below HB23.out) (by rw [dec_length]; have := HLL.out; omega) (one64 l h0) HL.out)⟩
        have A2 : ((k2 == 0) = true ∧ Hid (Gives w3 19 v2 s)) ∨ (k2 == 0) = false := by
          cases h : (k2 == 0) with
          | false => exact .inr rfl
          | true =>
            have h0 : codePad l (l.take (l.length - n2)) = 0 := by have := beq_iff_eq.1 h; have := HK2.out; omega
            exact .inl ⟨rfl, hid (givesPad ((Rd.own (HO2.out h0)).below HB23.out) (by rw [dec_length, List.length_take]; have := HLL.out; omega) (onePad l n2 HP2.out h0) HL.out)⟩
        have A3 : ((k3 == 0) = true ∧ Hid (Gives w3 7 v3 s)) ∨ (k3 == 0) = false := by
          cases h : (k3 == 0) with
          | false => exact .inr rfl
          | true =>
            have h0 : code16 l = 0 := by have := beq_iff_eq.1 h; have := HK3.out; omega
            exact .inl ⟨rfl, hid (gives16 (Rd.own (HO3.out h0)) (by rw [dec16_length]; have := HLL.out; omega) (one16 l h0) HL.out)⟩
        have A4 : ((k4 == 0) = true ∧ Hid (Gives w3 8 (.int .i64 m4) s)) ∨ (k4 == 0) = false := by
          cases h : (k4 == 0) with
          | false => exact .inr rfl
          | true =>
            have h0 : (num10 (Lib.hasPrefix l [45]) (Lib.trimPrefix l [45])).2 = 0 := by have := beq_iff_eq.1 h; have := HK4.out; omega
            obtain ⟨g1, g2, g3⟩ := one10 l h0
            rw [HM4.out] at g1 g2 g3
            exact .inl ⟨rfl, hid (gives10 (HT.out.below (Below.step HW.out HB3.out)) g2 g3 g1 HL.out)⟩
        have hb0 : Below w3.heap.size w3 w3 := Below.refl _ _
        clear HO1 HO2 HO3 HP2 HK1 HK2 HK3 HK4 HM4 HB1 HB12 HB23
        have HA1 := hid A1
        have HA2 := hid A2
        have HA3 := hid A3
        have HA4 := hid A4
        clear A1 A2 A3 A4
        go_upto_region 12 with fail
        go_cut [96] (fun s96 wc => s96 = .bool false ∧ Below w3.heap.size w3 wc)
        case first =>
          clear HT HS2 HW HL HLL HB3 HX
          rcases HA1.out with ⟨z1, C1⟩ | z1 <;> rcases HA2.out with ⟨z2, C2⟩ | z2 <;> rcases HA3.out with ⟨z3, C3⟩ | z3 <;> rcases HA4.out with ⟨z4, C4⟩ | z4
          all_goals
            clear HA1 HA2 HA3 HA4
            go_wp2_with (first | (go_at_call 10; refine (num_any _ _).mono ?_; rintro e wz ⟨rfl, hw⟩; have hw' := hw.symm; clear hw; subst hw') | (go_at_call 18; refine (C1.out _ (by assumption)).mono ?_; rintro e wz ⟨rfl, hbz⟩) | (go_at_call 19; refine (C2.out _ (by assumption)).mono ?_; rintro e wz ⟨rfl, hbz⟩) | (go_at_call 7; refine (C3.out _ (by assumption)).mono ?_; rintro e wz ⟨rfl, hbz⟩) | (go_at_call 8; refine (C4.out _ (by assumption)).mono ?_; rintro e wz ⟨rfl, hbz⟩))
            go_meet
            case rel => exact ⟨rfl, by assumption⟩
        case rest =>
          obtain ⟨rfl, hbc⟩ := hcut
          have HBC := hid (Below.step HB3.out hbc)
          clear hbc hb0 HA1 HA2 HA3 HA4 HB3
          have hsn : s.size ≤ 4194304 := by have := HX.out; omega
          have hy1 : (s ++ ⟨#[10]⟩ : ByteArray).data.toList = l ++ [10] := by rw [ByteArray.data_append, Array.toList_append, HL.out]
          have hy2 : ((⟨#[32]⟩ : ByteArray) ++ s).data.toList = 32 :: l := by rw [ByteArray.data_append, Array.toList_append, HL.out]; rfl
          have HY1 := hid hy1
          have HY2 := hid hy2
          clear hy1 hy2
          go_wp2_with fail
          refine (bytes64_any _ (l ++ [10]) _ HY1.out (by rw [List.length_append]; have := HLL.out; simp; omega)).mono ?_
          rintro e wd ⟨vd, rfl, hbd, -, -⟩
          rw [bad64]
          have HBD := hid (Below.step HBC.out hbd)
          clear hbd HBC
          go_wp2_with fail
          refine (bytesPad_any _ (32 :: l) _ HY2.out (by have := HLL.out; simp; omega)).mono ?_
          rintro e we ⟨ne, ve, hpe, rfl, hbe, -, -⟩
          rw [badPad l ne hpe]
          have HBE := hid (Below.step HBD.out hbe)
          clear hbe hpe HBD
          go_wp2_with fail
          refine (bytes16_any _ (l ++ [10]) _ HY1.out (by rw [List.length_append]; have := HLL.out; simp; omega)).mono ?_
          rintro e wf ⟨vf, rfl, hbf, -, -⟩
          rw [bad16]
          have HBF := hid (Below.step HBE.out hbf)
          clear hbf HBE
          go_wp2_with fail
          refine (number10_any _ (l ++ [10]) _ HY1.out (by rw [List.length_append]; have := HLL.out; simp; omega)).mono ?_
          rintro e wg ⟨rfl, hw⟩
          have hw' := hw.symm
          clear hw
          subst hw'
          rw [bad10]
          go_wp2_with (go_at_call 10; refine (num_any _ _).mono ?_; rintro e wz ⟨rfl, hw⟩; have hw' := hw.symm; clear hw; subst hw')
          exact ⟨⟨j + 1, t + x + 1, by omega, by omega, rfl, by go_num, hlt, Below.step HW.out HBF.out⟩, by simp [intOf]; omega⟩
      · have hs2 : 524288 ≤ t + x := by omega
        clear hs
        go_wp2_with fail
        refine (lays_any _ (HT.out.below HW.out)).mono ?_
        rintro e wz ⟨rfl, hbz⟩
        have HBZ := hid (Below.step HW.out hbz)
        clear hbz
        go_wp2
        go_ret
        exact ⟨rfl, HBZ.out⟩
    · have hge : (nS : Int) ≤ (j : Int) := by omega
      go_wp2_with fail
      refine (lays_any _ (HT.out.below HW.out)).mono ?_
      rintro e wz ⟨rfl, hbz⟩
      have HBZ := hid (Below.step HW.out hbz)
      clear hbz
      go_wp2
      go_ret
      exact ⟨rfl, HBZ.out⟩
end Go.Proofs.YtipjjhccbgbdiaaDoor
