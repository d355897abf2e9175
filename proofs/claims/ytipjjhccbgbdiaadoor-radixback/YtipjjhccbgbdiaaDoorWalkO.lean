/- The walk of the law's back. -/
import Derived.Test.YtipjjhccbgbdiaaDoorWalkN
namespace Go.Proofs.YtipjjhccbgbdiaaDoor
open Go Go.RowKit
open Go.RowKit (wrap32 wrap64)

theorem in_set (base l : List UInt8) (s set : ByteArray) (hs : s.data.toList = l) (hset : set.data.toList = base) (hall : allIn base l = true) : ∀ i (h : i < s.size), ∃ j, ∃ h' : j < set.size, set[j] = s[i] := by
  intro i h
  have hl : l.length = s.size := by rw [← hs, size_list]
  have hb : base.length = set.size := by rw [← hset, size_list]
  have hi : i < l.length := by omega
  have h0 := (allIn_iff _ _).1 hall l[i] (List.getElem_mem hi)
  have h1 := index_lt base l[i]
  have h2 := (Lib.indexByte_some (val_eq base l[i] h0)).1
  have hv : val base l[i] < set.size := by have := val_eq base l[i] h0; omega
  refine ⟨val base l[i], hv, ?_⟩
  rw [at_list set _ hv, at_list s i h, hset, hs, List.getD, h2, List.getD, List.getElem?_eq_getElem hi]

theorem pad_at (l : List UInt8) (s t : ByteArray) (hs : s.data.toList = enc urlL l) (ht : t.data.toList = encPad l) (i : Nat) (h : i < t.size) :
    (∀ h' : i < s.size, ((s[i].toNat : Int) = 45 ∧ (t[i].toNat : Int) = 43) ∨ ((s[i].toNat : Int) ≠ 45 ∧ (s[i].toNat : Int) = 95 ∧ (t[i].toNat : Int) = 47) ∨ ((s[i].toNat : Int) ≠ 45 ∧ (s[i].toNat : Int) ≠ 95 ∧ (t[i].toNat : Int) = (s[i].toNat : Int))) ∧ (¬ i < s.size → (t[i].toNat : Int) = 61) := by
  have hsl : s.size = (enc urlL l).length := by rw [← size_list, hs]
  have htl : t.size = (encPad l).length := by rw [← size_list, ht]
  have h1 := encPad_at l i (by omega)
  have h2 : t[i] = (encPad l)[i]'(by omega) := by
    rw [at_list t i h, ht, List.getD, List.getElem?_eq_getElem (by omega)]; rfl
  rw [h2, h1]
  constructor
  · intro h'
    have h3 : s[i] = (enc urlL l)[i]'(by omega) := by
      rw [at_list s i h', hs, List.getD, List.getElem?_eq_getElem (by omega)]; rfl
    rw [dif_pos (by omega), ← h3]
    generalize s[i] = c
    revert c
    intro c
    by_cases c45 : c = 45
    · subst c45; left; decide
    · have e1 : (c.toNat : Int) ≠ 45 := fun k => c45 (UInt8.toNat_inj.1 (by simpa using (by omega : c.toNat = 45)))
      by_cases c95 : c = 95
      · subst c95; right; left; decide
      · have e2 : (c.toNat : Int) ≠ 95 := fun k => c95 (UInt8.toNat_inj.1 (by simpa using (by omega : c.toNat = 95)))
        right; right
        exact ⟨e1, e2, by simp [swapC, c45, c95]⟩
  · intro h'
    rw [dif_neg (by omega)]
    decide

set_option maxRecDepth 100000 in
set_option maxHeartbeats 1000000 in
/-- back: bytes are read out of each of their texts. -/
theorem back_any (l : List UInt8) (v : Value) (w : World) (hr : Rd w v l) (hl : l.length ≤ 524288) : Calls Tryd.prog 6 #[v] w fun e w' => e = .returned (.bool true) ∧ Below w.heap.size w w' := by
  obtain ⟨a, c, e1⟩ : ∃ a c, v = .slice a l.length c := by obtain ⟨a, _, _, c, h, _⟩ := hr; exact ⟨a, c, h⟩
  subst e1
  have HR := hid hr
  have HL := hid hl
  clear hr hl
  obtain ⟨x, hx⟩ : ∃ x : Int, (l.length : Int) = x := ⟨_, rfl⟩
  have hx0 : 0 ≤ x := by omega
  have hx1 : x ≤ 1000000 := by have := HL.out; omega
  have HX := hid hx
  go_enter Tryd.func6, Tryd.ntmps6
  go_wp2_with fail
  refine (HR.out.text64 (by have := HL.out; omega)).mono ?_
  rintro e w1 ⟨rfl, hb1⟩
  obtain ⟨s, HS⟩ : ∃ s : ByteArray, Hid ((⟨(enc urlL l).toArray⟩ : ByteArray) = s) := ⟨_, hid rfl⟩
  rw [HS.out]
  have HB1 := hid hb1
  clear hb1
  go_wp2_with fail
  refine ((HR.out.below HB1.out).textPad (by have := HL.out; omega)).mono ?_
  rintro e w2 ⟨rfl, hb2⟩
  obtain ⟨t, HT⟩ : ∃ s : ByteArray, Hid ((⟨(encPad l).toArray⟩ : ByteArray) = s) := ⟨_, hid rfl⟩
  rw [HT.out]
  have HB2 := hid (Below.step HB1.out hb2)
  clear hb2 HB1
  go_wp2_with fail
  refine ((HR.out.below HB2.out).text16 (by have := HL.out; omega)).mono ?_
  rintro e w3 ⟨rfl, hb3⟩
  obtain ⟨h, HH⟩ : ∃ s : ByteArray, Hid ((⟨(enc16 l).toArray⟩ : ByteArray) = s) := ⟨_, hid rfl⟩
  rw [HH.out]
  have HB3 := hid (Below.step HB2.out hb3)
  clear hb3 HB2
  have HSd : Hid (s.data.toList = enc urlL l) := hid (by rw [← HS.out])
  have HTd : Hid (t.data.toList = encPad l) := hid (by rw [← HT.out])
  have HHd : Hid (h.data.toList = enc16 l) := hid (by rw [← HH.out])
  clear HS HT HH
  go_wp2_with fail
  refine (bytes64_any s (enc urlL l) _ HSd.out (by rw [enc_length]; have := HL.out; omega)).mono ?_
  rintro e w4 ⟨v4, rfl, hb4, ho4, -⟩
  have ho4' := ho4 (code64_enc l)
  rw [dec_enc baseUrl] at ho4'
  rw [code64_enc]
  have R4 := hid (Rd.own ho4')
  have HB4 := hid (Below.step HB3.out hb4)
  clear hb4 ho4 ho4' HB3
  go_wp2_with fail
  refine (bytesPad_any t (encPad l) _ HTd.out (by rw [encPad_len]; have := HL.out; omega)).mono ?_
  rintro e w5 ⟨n5, v5, hp5, rfl, hb5, ho5, -⟩
  rw [take_encPad l n5 hp5] at ho5 ⊢
  have ho5' := ho5 (codePad_enc l)
  rw [dec_enc basePad] at ho5'
  rw [codePad_enc]
  have R5 := hid (Rd.own ho5')
  have R45 := hid (R4.out.below hb5)
  have HB5 := hid (Below.step HB4.out hb5)
  clear hb5 ho5 ho5' hp5 HB4 R4
  go_wp2_with fail
  refine (bytes16_any h (enc16 l) _ HHd.out (by rw [enc16_length]; have := HL.out; omega)).mono ?_
  rintro e w6 ⟨v6, rfl, hb6, ho6, -⟩
  have ho6' := ho6 (code16_enc l)
  rw [dec16_enc16] at ho6'
  rw [code16_enc]
  have c6 := (Rd.own ho6').convert
  have c5 := (R5.out.below hb6).convert
  have c4 := (R45.out.below hb6).convert
  have HB6 := hid (Below.step HB5.out hb6)
  have c0 := (HR.out.below HB6.out).convert
  clear hb6 ho6 ho6' HB5 R5 R45
  have hs1 : (s.size : Int) = (4 * x + 2) / 3 := by rw [← size_list, HSd.out, enc_length]; have := HX.out; omega
  have ht1 : (t.size : Int) = (x + 2) / 3 * 4 := by rw [← size_list, HTd.out, encPad_len]; have := HX.out; omega
  have hh1 : (h.size : Int) = 2 * x := by rw [← size_list, HHd.out, enc16_length]; have := HX.out; omega
  go_wp2_with (go_at_call 10; refine (num_any _ _).mono ?_; rintro e wz ⟨rfl, hw⟩; have hw' := hw.symm; clear hw; subst hw')
  have hsb : s.size ≤ 4194304 := by omega
  have hhb : h.size ≤ 4194304 := by omega
  have htb : t.size ≤ 4194304 := by omega
  clear c0 c4 c5 c6
  refine (letters21 s _ _ hsb (by decide +kernel) (in_set urlL (enc urlL l) s _ HSd.out (by decide +kernel) (enc_all baseUrl l))).mono ?_
  rintro e w7 ⟨rfl, hb7⟩
  have HB7 := hid (Below.step HB6.out hb7)
  clear hb7 HB6
  go_wp2_with fail
  refine (letters21 h _ _ hhb (by decide +kernel) (in_set hexL (enc16 l) h _ HHd.out (by decide +kernel) (enc16_all l))).mono ?_
  rintro e w8 ⟨rfl, hb8⟩
  have HB8 := hid (Below.step HB7.out hb8)
  clear hb8 HB7 hhb hh1 HHd HR
  have HS1 := hid hs1
  have HT1 := hid ht1
  clear hs1 ht1
  go_wp2
  go_loop [13, 14] (fun iv cv => ∃ i : Nat, i ≤ t.size ∧ iv = .int .i64 i) (fun iv _ => t.size - (intOf iv).toNat)
  case atStart => exact ⟨0, Nat.zero_le _, rfl⟩
  case round =>
    obtain ⟨i, hi, rfl⟩ := hrel
    by_cases hlt : i < t.size
    · have hlt' : (i : Int) < (t.size : Int) := by omega
      have PA := hid (pad_at l s t HSd.out HTd.out i hlt)
      go_wp2
      all_goals go_show
      all_goals first
        | exact ⟨⟨i + 1, hlt, by go_num⟩, by simp [intOf]; omega⟩
        | (exfalso
           have k := PA.out
           clear PA HSd HTd HB8 HS1 HT1 HL HX
           simp_all
           try omega)
    · have hge : (t.size : Int) ≤ (i : Int) := by omega
      go_wp2
      go_ret
      exact ⟨rfl, HB8.out⟩
end Go.Proofs.YtipjjhccbgbdiaaDoor
