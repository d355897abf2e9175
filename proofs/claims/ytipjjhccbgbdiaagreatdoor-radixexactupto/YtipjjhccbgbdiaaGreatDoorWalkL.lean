/- The walks of radix's BytesPad and Bytes16. -/
import Derived.Test.YtipjjhccbgbdiaaGreatDoorWalkJ
import Derived.Deep.RegionHeld3
namespace Go.Proofs.YtipjjhccbgbdiaaGreatDoor
open Go Go.RowKit
open Go.RowKit (wrap32 wrap64)

/-- What BytesPad answers beside the bytes: of a text, and what is ahead of its pads. -/
def codePad (l a : List UInt8) : Nat := if allIn padL a = true then (if l.length % 4 = 0 then (if spare padL a = 0 then 0 else 12) else 11) else 10

set_option maxRecDepth 100000 in
set_option maxHeartbeats 400000 in
/-- BytesPad at every text. -/
theorem bytesPad_any (s : ByteArray) (l : List UInt8) (w : World) (hl : s.data.toList = l) (hll : l.length ≤ 1048576) :
    Calls Tryz.prog 28 #[.string s] w fun e w' => ∃ n v, PadsIs l n ∧ e = .returned (.tuple #[v, .int .i64 (codePad l (l.take (l.length - n)))]) ∧ Below w.heap.size w w' ∧ (codePad l (l.take (l.length - n)) = 0 → w'.ownsRow w.heap.size 5 1 v (dec padL (l.take (l.length - n))).length (cb (dec padL (l.take (l.length - n))))) ∧ (codePad l (l.take (l.length - n)) ≠ 0 → v = .slice none 0 0) := by
  have hsz : s.size = l.length := by rw [← hl, size_list]
  have hsm' : s.size ≤ 1048576 := by omega
  have HL := hid hl
  have HSZ := hid hsz
  clear hl hsz
  go_enter Tryz.func28, Tryz.ntmps28
  go_wp2_with fail
  refine (pads_any s w hsm').mono ?_
  rintro e w' ⟨⟨n, rfl, hp⟩, hw⟩
  have hw' := hw.symm
  clear hw
  subst hw'
  rw [HL.out] at hp
  have HP := hid hp
  have hn : (n : Int) ≤ (s.size : Int) := by have := hp.2.1; have := HSZ.out; omega
  have hn2 : (n : Int) ≤ 2 := by have := hp.1; omega
  clear hp
  obtain ⟨k, hk⟩ : ∃ k : Nat, (s.size : Int) - (n : Int) = (k : Int) := ⟨s.size - n, by omega⟩
  have hk0 : (k : Int) ≤ (s.size : Int) := by omega
  have hk1 : k ≤ s.size := by omega
  have ha : (s.extract 0 k).data.toList = l.take (l.length - n) := by rw [Lib.extract_data, HL.out, List.drop_zero]; congr 1; have := HSZ.out; omega
  obtain ⟨A, HA⟩ : ∃ A, Hid (l.take (l.length - n) = A) := ⟨_, hid rfl⟩
  rw [HA.out] at ha
  have hAl : A.length + n = l.length := by rw [← HA.out, List.length_take]; have := HSZ.out; omega
  have HAL := hid hAl
  have HAA := hid ha
  clear ha hAl
  have hexs : (s.extract 0 k).size = A.length := by rw [← HAA.out, size_list]
  have HXS := hid hexs
  have hxm : (s.extract 0 k).size ≤ maxLen := by unfold maxLen; rw [hexs]; have := HAL.out; omega
  clear hexs
  have hall := allOf_any (s.extract 0 k) ⟨padL.toArray⟩ w hxm
  rw [HAA.out] at hall
  have HALL := hid (show Calls Tryz.prog 46 #[.string (s.extract 0 k), .string ⟨padL.toArray⟩] w fun e w' => e = .returned (.bool (allIn padL A)) ∧ w' = w from hall)
  clear hall
  by_cases h1 : allIn padL A = true
  · rw [h1] at HALL
    by_cases h2 : l.length % 4 = 0
    · have q : ((s.size : Int) % 4 != 0) = false := by rw [bne_eq_false_iff_eq]; have := HSZ.out; omega
      by_cases h3 : spare padL A = 0
      · have HC : Hid (codePad l A = 0) := by unfold codePad; rw [if_pos h1, if_pos h2, if_pos h3]; exact rfl
        have HG := hid (readGroups_ok (s.extract 0 k) ⟨padL.toArray⟩ A w HAA.out (by have := HAL.out; omega) (by have := HAL.out; omega) rfl h1 h3)
        clear h1 h2 h3
        go_wp2_with (first | (go_at_call 46; refine HALL.out.mono ?_; rintro e w' ⟨rfl, hw⟩; have hw' := hw.symm; clear hw; subst hw') | (go_at_call 47; refine HG.out.mono ?_; rintro e w2 ⟨v, rfl, hown, hbel⟩))
        go_ret2
        refine ⟨n, v, HP.out, ?_, ?_, ?_, ?_⟩
        · rw [HA.out, HC.out]; rfl
        · exact hbel
        · rw [HA.out]; exact fun _ => hown
        · rw [HA.out, HC.out]; exact fun h => absurd rfl h
      · have HC : Hid (codePad l A = 12) := by unfold codePad; rw [if_pos h1, if_pos h2, if_neg h3]; exact rfl
        have HG := hid (readGroups_no (s.extract 0 k) ⟨padL.toArray⟩ w hxm rfl (by rw [HAA.out]; exact h1) (by rw [HAA.out]; exact h3))
        clear h1 h2 h3
        go_wp2_with (first | (go_at_call 46; refine HALL.out.mono ?_; rintro e w' ⟨rfl, hw⟩; have hw' := hw.symm; clear hw; subst hw') | (go_at_call 47; refine HG.out.mono ?_; rintro e w2 ⟨rfl, hw⟩; have hw' := hw.symm; clear hw; subst hw'))
        go_ret2
        refine ⟨n, _, HP.out, ?_, Below.refl _ _, ?_, fun _ => rfl⟩
        · rw [HA.out, HC.out]; rfl
        · rw [HA.out, HC.out]; exact fun h => by cases h
    · have q : ((s.size : Int) % 4 != 0) = true := by rw [bne_iff_ne]; have := HSZ.out; omega
      have HC : Hid (codePad l A = 11) := by unfold codePad; rw [if_pos h1, if_neg h2]; exact rfl
      clear h1 h2
      go_wp2_with (go_at_call 46; refine HALL.out.mono ?_; rintro e w' ⟨rfl, hw⟩; have hw' := hw.symm; clear hw; subst hw')
      go_ret2
      refine ⟨n, _, HP.out, ?_, Below.refl _ _, ?_, fun _ => rfl⟩
      · rw [HA.out, HC.out]; rfl
      · rw [HA.out, HC.out]; exact fun h => by cases h
  · have h1' : allIn padL A = false := by simpa using h1
    rw [h1'] at HALL
    have HC : Hid (codePad l A = 10) := by unfold codePad; rw [if_neg h1]; exact rfl
    clear h1 h1'
    go_wp2_with (go_at_call 46; refine HALL.out.mono ?_; rintro e w' ⟨rfl, hw⟩; have hw' := hw.symm; clear hw; subst hw')
    go_ret2
    refine ⟨n, _, HP.out, ?_, Below.refl _ _, ?_, fun _ => rfl⟩
    · rw [HA.out, HC.out]; rfl
    · rw [HA.out, HC.out]; exact fun h => by cases h

/-- The bytes of pairs of digits. -/
def dec16 : List UInt8 → List UInt8
  | a :: b :: r => UInt8.ofNat (val hexL a * 16 + val hexL b) :: dec16 r
  | _ => []

theorem dec16_length : ∀ l, (dec16 l).length = l.length / 2
  | a :: b :: r => by simp [dec16, dec16_length r]; omega
  | [a] => by simp [dec16]
  | [] => by simp [dec16]

theorem dec16_append : ∀ l m : List UInt8, l.length % 2 = 0 → dec16 (l ++ m) = dec16 l ++ dec16 m
  | a :: b :: r, m, h => by simp only [List.cons_append, dec16]; rw [dec16_append r m (by simp at h; omega)]
  | [a], m, h => by simp at h
  | [], m, _ => by simp [dec16]

def b16J (l : List UInt8) (B : Nat) (w : World) (a' : Act) (w' : World) : Prop :=
  Below B w w' ∧ ∃ (k : Nat) (r : ByteArray) (n : Nat) (ov u5 u6 u7 u8 u9 u10 u11 u12 u13 u14 u15 u16 u17 u18 u19 u20 u21 u22 u23 u24 u25 u26 u27 u28 u29 u30 u31 u32 u33 : Value), a' = { tmps := #[.string r, undef, .slice none 0 0, .int .i64 0, ov, u5, u6, u7, u8, u9, u10, u11, u12, u13, u14, u15, u16, u17, u18, u19, u20, u21, u22, u23, u24, u25, u26, u27, u28, u29, u30, u31, u32, u33], defers := [] } ∧ k ≤ l.length ∧ k % 2 = 0 ∧ r.data.toList = l.drop k ∧ n = (dec16 (l.take k)).length ∧ w'.ownsRow B 5 1 ov n (cb (dec16 (l.take k)))

/-- What Bytes16 answers beside the bytes. -/
def code16 (l : List UInt8) : Nat := if allIn hexL l = true then (if l.length % 2 = 0 then 0 else 11) else 10

theorem val_hex (c : UInt8) : val hexL c < 16 := by have := index_lt hexL c; have h : hexL.length = 16 := rfl; unfold val; omega

set_option maxRecDepth 100000 in
set_option maxHeartbeats 400000 in
/-- Bytes16 at every text. -/
theorem bytes16_any (s : ByteArray) (l : List UInt8) (w : World) (hl : s.data.toList = l) (hll : l.length ≤ 1048576) :
    Calls Tryz.prog 30 #[.string s] w fun e w' => ∃ v, e = .returned (.tuple #[v, .int .i64 (code16 l)]) ∧ Below w.heap.size w w' ∧ (code16 l = 0 → w'.ownsRow w.heap.size 5 1 v (dec16 l).length (cb (dec16 l))) ∧ (code16 l ≠ 0 → v = .slice none 0 0) := by
  have hsz : s.size = l.length := by rw [← hl, size_list]
  have hsm : s.size ≤ maxLen := by unfold maxLen; omega
  have hsm' : s.size ≤ 1048576 := by omega
  have HL := hid hl
  have HSZ := hid hsz
  clear hl hsz
  have ha : ∀ w, Calls Tryz.prog 46 #[.string s, .string ⟨hexL.toArray⟩] w fun e w' => e = .returned (.bool (allIn hexL l)) ∧ w' = w := fun w => by have := allOf_any s ⟨hexL.toArray⟩ w hsm; rwa [HL.out] at this
  by_cases h1 : allIn hexL l = true
  · rw [h1] at ha
    have HA := hid ha
    clear ha
    by_cases h2 : l.length % 2 = 0
    · have q : ((s.size : Int) % 2 != 0) = false := by rw [bne_eq_false_iff_eq]; have := HSZ.out; omega
      have hc : code16 l = 0 := by unfold code16; rw [if_pos h1, if_pos h2]
      rw [hc]
      have H1 := hid h1
      clear hc h1
      obtain ⟨inf, hi, hz0, hz1, hz2⟩ := info_parts Tryz.info5
      go_enter Tryz.func30, Tryz.ntmps30
      go_wp2
      refine wp_scope_label 0 (b16J l w.heap.size w) (fun a' _ => strlen (a'.tmps.getD 0 undef)) rfl ?first ?pass
      case first =>
        intro hy
        go_wp2_with (first | (go_at_call 46; refine (HA.out _).mono ?_; rintro e w' ⟨rfl, hw⟩; have hw' := hw.symm; clear hw; subst hw') | (at_make; refine wpList_make_own _ rfl _ _ 58 rfl w.heap.size 5 inf (.int .u8 0) 1 Tryz.underlying58 hi hz0 hz1 _ _ _ (s.size / 2) rfl rfl (by omega) (by rw [hz2]; omega) (by unfold maxLen; omega) (Nat.le_refl _) ?_))
        intro w1 hown1 hg1
        go_wp2
        go_step3
        simp only [Exit.then]
        refine (‹∀ a w, Code.wp _ _ _ a w → _› : ∀ a w, Code.wp Tryz.prog _ _ a w → _) _ _ (hy _ _ ⟨(Below.refl _ _).grown hg1 (Nat.le_refl _) (fun k h => by cases h), 0, _, 0, _, _, _, _, _, _, _, _, _, _, _, _, _, _, _, _, _, _, _, _, _, _, _, _, _, _, _, _, _, _, rfl, Nat.zero_le _, rfl, HL.out, ?_, ?_⟩)
        · simp [dec16]
        · simpa [dec16, cb] using hown1
      case pass =>
        rintro a' w' ⟨hbel, k, r, n, ov, u5, u6, u7, u8, u9, u10, u11, u12, u13, u14, u15, u16, u17, u18, u19, u20, u21, u22, u23, u24, u25, u26, u27, u28, u29, u30, u31, u32, u33, rfl, hk, hk2, hr, hn, hown⟩
        have hrs : r.size = l.length - k := by
          have := congrArg List.length hr
          rw [List.length_drop] at this
          rw [← this, size_list]
        have HR := hid hr
        have HRS := hid hrs
        have HN := hid hn
        clear hr hrs hn
        by_cases hlt : k < l.length
        · have hr2 : 2 ≤ r.size := by rw [HRS.out]; omega
          have hr2a : (0 : Int) < (r.size : Int) := by omega
          have hr2b : (1 : Int) < (r.size : Int) := by omega
          have hr2c : (2 : Int) ≤ (r.size : Int) := by omega
          have hrb : r.size ≤ 1048576 := by rw [HRS.out]; omega
          have hne0 : ((r.size : Int) == 0) = false := beq_eq_false_iff_ne.2 (by omega)
          have hx0 : r[0] = l[k] := by
            rw [at_list r 0 (by omega), HR.out]
            simp [List.getD, List.getElem?_drop, List.getElem?_eq_getElem hlt]
          have hx1 : r[1] = l[k + 1]'(by have := HRS.out; omega) := by
            rw [at_list r 1 (by omega), HR.out]
            simp [List.getD, List.getElem?_drop, List.getElem?_eq_getElem (show k + 1 < l.length by have := HRS.out; omega)]
          have hin : ∀ c ∈ l, 0 ≤ Lib.indexByte hexL c := by
            have := H1.out
            unfold allIn at this
            rw [List.all_eq_true] at this
            exact fun c hc => by simpa using this c hc
          obtain ⟨c0, HC0⟩ : ∃ c, Hid (l[k] = c) := ⟨_, hid rfl⟩
          obtain ⟨c1, HC1⟩ : ∃ c, Hid (l[k + 1]'(by have := HRS.out; omega) = c) := ⟨_, hid rfl⟩
          have e0 := val_eq hexL c0 (by rw [← HC0.out]; exact hin _ (List.getElem_mem _))
          have e1 := val_eq hexL c1 (by rw [← HC1.out]; exact hin _ (List.getElem_mem _))
          have b0 := val_hex c0
          have b1 := val_hex c1
          rw [HC0.out] at hx0
          rw [HC1.out] at hx1
          obtain ⟨x0, HX0⟩ : ∃ x : Int, Hid ((val hexL c0 : Int) = x) := ⟨_, hid rfl⟩
          obtain ⟨x1, HX1⟩ : ∃ x : Int, Hid ((val hexL c1 : Int) = x) := ⟨_, hid rfl⟩
          rw [HX0.out] at e0
          rw [HX1.out] at e1
          have g0 : 0 ≤ x0 := by have := HX0.out; omega
          have g1 : x0 < 16 := by have := HX0.out; omega
          have g2 : 0 ≤ x1 := by have := HX1.out; omega
          have g3 : x1 < 16 := by have := HX1.out; omega
          have hor : bits .or .i64 (x0 * 16) x1 = x0 * 16 + x1 := or4r _ _ (by omega) (by omega) (by omega) (by omega) (by omega)
          have e0' : Lib.indexByte [48, 49, 50, 51, 52, 53, 54, 55, 56, 57, 97, 98, 99, 100, 101, 102] c0 = x0 := e0
          have e1' : Lib.indexByte [48, 49, 50, 51, 52, 53, 54, 55, 56, 57, 97, 98, 99, 100, 101, 102] c1 = x1 := e1
          obtain ⟨y, hy⟩ : ∃ y : UInt8, x0 * 16 + x1 = (y.toNat : Int) := ⟨UInt8.ofNat (val hexL c0 * 16 + val hexL c1), by rw [ofNat_toNat _ (by omega)]; have := HX0.out; have := HX1.out; omega⟩
          have HYV : Hid (y = UInt8.ofNat (val hexL c0 * 16 + val hexL c1)) := by
            apply UInt8.toNat_inj.1
            have := ofNat_toNat (val hexL c0 * 16 + val hexL c1) (by omega)
            have := HX0.out
            have := HX1.out
            omega
          have hwr : IntKind.i64.wrap (x0 * 16) = x0 * 16 := by rw [IntKind.wrap_i64]; omega
          have hwy : IntKind.u8.wrap (x0 * 16 + x1) = (y.toNat : Int) := by rw [IntKind.wrap_u8]; omega
          clear e0 e1 b0 b1 hin hy
          have hnb : n ≤ 1099511627776 := by rw [HN.out, dec16_length]; have := List.length_take_le k l; omega
          have hsz := hbel.size
          go_wp2
          go_region_held3 (fun _ => True) (trivial)
            ((first | (go_at_call 50; refine (worth_any _ _ _).mono ?_; rintro e wx ⟨rfl, hw⟩; have hw' := hw.symm; clear hw; subst hw') | (refine step_append_lies _ (by rfl) _ _ 58 (by rfl) w.heap.size 5 inf (.int .u8 0) 1 1 Tryz.underlying58 hi hz0 hz1 hz2 rfl (by decide) ov n _ (by rfl) (by exact hown.alloc _) ⟨w'.heap.size, 0, none⟩ 1 1 [.int .u8 (y.toNat : Int)] (by rfl) rfl (by exact fun j u hu => news_new w' _ _ j u hu) (ints_oneCell .u8 [(y.toNat : Int)]) (by decide) (by unfold maxLen; omega) (by omega) (by simp; omega) (w'.heap.size + 1) (by simp) ?_; intro g cap w2 hown2 hg2 hat hlt2)))
          all_goals
            have HG2 := hid hg2
            have HO2 := hid hown2
            clear hg2 hown2 hat hlt2
            go_wp2
            go_step3
            refine ⟨rfl, ⟨(hbel.alloc hsz _).drew.grown HG2.out (by simp; omega) (fun j hj => (hown.lt j hj).1), k + 2, _, n + 1, _, _, _, _, _, _, _, _, _, _, _, _, _, _, _, _, _, _, _, _, _, _, _, _, _, _, _, _, _, _, rfl, by have := HRS.out; omega, by omega, ?_, ?_, ?_⟩, ?_⟩
            · rw [Lib.extract_to_end, HR.out, List.drop_drop]
            · rw [take_more, dec16_append _ _ (by rw [List.length_take]; omega), List.length_append, ← HN.out, dec16_length (List.take 2 _), List.length_take, List.length_drop, Nat.min_eq_left (by have := HRS.out; omega)]
            · have e2 : (l.drop k).take 2 = [c0, c1] := by
                rw [List.drop_eq_getElem_cons hlt, List.drop_eq_getElem_cons (show k + 1 < l.length by have := HRS.out; omega), HC0.out, HC1.out]
                rfl
              rw [take_more, dec16_append _ _ (by rw [List.length_take]; omega), cb_append, e2]
              rw [show dec16 [c0, c1] = [y] by rw [HYV.out]; rfl]
              exact HO2.out
            · simp [strlen, ByteArray.size_extract]
              omega
        · have he : k = l.length := by omega
          subst he
          have h0 : ((r.size : Int) == 0) = true := beq_iff_eq.2 (by have := HRS.out; omega)
          go_wp2
          simp only [Exit.jump]
          go_ret2
          refine ⟨ov, rfl, hbel, fun _ => ?_, fun h => absurd rfl h⟩
          have := hown
          rw [HN.out, List.take_length] at this
          exact this
    · have q : ((s.size : Int) % 2 != 0) = true := by rw [bne_iff_ne]; have := HSZ.out; omega
      have hc : code16 l = 11 := by unfold code16; rw [if_pos h1, if_neg h2]
      rw [hc]
      clear hc h1
      go_enter Tryz.func30, Tryz.ntmps30
      go_wp2
      go_step3
      go_wp2_with (go_at_call 46; refine (HA.out _).mono ?_; rintro e w' ⟨rfl, hw⟩; have hw' := hw.symm; clear hw; subst hw')
      rw [Exit.noGoto_ret]
      go_ret2
      exact ⟨_, rfl, Below.refl _ _, (fun h => by cases h), fun _ => rfl⟩
  · have hc : code16 l = 10 := by unfold code16; rw [if_neg h1]
    rw [hc]
    have h1' : allIn hexL l = false := by simpa using h1
    rw [h1'] at ha
    have HA := hid ha
    clear ha hc
    go_enter Tryz.func30, Tryz.ntmps30
    go_wp2
    go_step3
    go_wp2_with (go_at_call 46; refine (HA.out _).mono ?_; rintro e w' ⟨rfl, hw⟩; have hw' := hw.symm; clear hw; subst hw')
    rw [Exit.noGoto_ret]
    go_ret2
    exact ⟨_, rfl, Below.refl _ _, (fun h => by cases h), fun _ => rfl⟩
end Go.Proofs.YtipjjhccbgbdiaaGreatDoor
