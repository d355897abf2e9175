/- The walks of radix's Bytes64, pads and BytesPad. -/
import Derived.Test.YtipjjhccbgbdiaaGreatDoorWalkG
namespace Go.Proofs.YtipjjhccbgbdiaaGreatDoor
open Go Go.RowKit
open Go.RowKit (wrap32 wrap64)

theorem size_list (s : ByteArray) : s.data.toList.length = s.size := by rw [Array.length_toList]; rfl

/-- What Bytes64 answers beside the bytes. -/
def code64 (l : List UInt8) : Nat := if allIn urlL l = true then (if l.length % 4 = 1 then 11 else if spare urlL l = 0 then 0 else 12) else 10

set_option maxRecDepth 100000 in
set_option maxHeartbeats 400000 in
/-- Bytes64 at every text. -/
theorem bytes64_any (s : ByteArray) (l : List UInt8) (w : World) (hl : s.data.toList = l) (hll : l.length ≤ 1048576) :
    Calls Tryz.prog 26 #[.string s] w fun e w' => ∃ v, e = .returned (.tuple #[v, .int .i64 (code64 l)]) ∧ Below w.heap.size w w' ∧ (code64 l = 0 → w'.ownsRow w.heap.size 5 1 v (dec urlL l).length (cb (dec urlL l))) ∧ (code64 l ≠ 0 → v = .slice none 0 0) := by
  have hsz : s.size = l.length := by rw [← hl, size_list]
  have hsm : s.size ≤ maxLen := by unfold maxLen; omega
  have hsm' : s.size ≤ 1048576 := by omega
  have HL := hid hl
  have HSZ := hid hsz
  clear hl hsz
  have ha : ∀ w, Calls Tryz.prog 46 #[.string s, .string ⟨urlL.toArray⟩] w fun e w' => e = .returned (.bool (allIn urlL l)) ∧ w' = w := fun w => by have := allOf_any s ⟨urlL.toArray⟩ w hsm; rwa [HL.out] at this
  by_cases h1 : allIn urlL l = true
  · by_cases h2 : l.length % 4 = 1
    · have hc : code64 l = 11 := by unfold code64; rw [if_pos h1, if_pos h2]
      have q : ((s.size : Int) % 4 == 1) = true := beq_iff_eq.2 (by have := HSZ.out; omega)
      rw [hc]
      rw [h1] at ha
      have HA := hid ha
      clear ha hc
      go_enter Tryz.func26, Tryz.ntmps26
      go_wp2_with (go_at_call 46; refine (HA.out _).mono ?_; rintro e w' ⟨rfl, hw⟩; have hw' := hw.symm; clear hw; subst hw')
      go_ret2
      exact ⟨_, rfl, Below.refl _ _, (fun h => by cases h), fun _ => rfl⟩
    · have q : ((s.size : Int) % 4 == 1) = false := beq_eq_false_iff_ne.2 (by have := HSZ.out; omega)
      rw [h1] at ha
      have HA := hid ha
      clear ha
      by_cases h3 : spare urlL l = 0
      · have hc : code64 l = 0 := by unfold code64; rw [if_pos h1, if_neg h2, if_pos h3]
        rw [hc]
        have HG := hid (fun w => readGroups_ok s ⟨urlL.toArray⟩ l w HL.out hll h2 rfl h1 h3)
        clear hc
        go_enter Tryz.func26, Tryz.ntmps26
        go_wp2_with (first | (go_at_call 46; refine (HA.out _).mono ?_; rintro e w' ⟨rfl, hw⟩; have hw' := hw.symm; clear hw; subst hw') | (go_at_call 47; refine (HG.out _).mono ?_; rintro e w2 ⟨v, rfl, hown, hbel⟩))
        go_ret2
        exact ⟨v, rfl, hbel, fun _ => hown, fun h => absurd rfl h⟩
      · have hc : code64 l = 12 := by unfold code64; rw [if_pos h1, if_neg h2, if_neg h3]
        rw [hc]
        have HG := hid (fun w => readGroups_no s ⟨urlL.toArray⟩ w hsm rfl (by rw [HL.out]; exact h1) (by rw [HL.out]; exact h3))
        clear hc
        go_enter Tryz.func26, Tryz.ntmps26
        go_wp2_with (first | (go_at_call 46; refine (HA.out _).mono ?_; rintro e w' ⟨rfl, hw⟩; have hw' := hw.symm; clear hw; subst hw') | (go_at_call 47; refine (HG.out _).mono ?_; rintro e w2 ⟨rfl, hw⟩; have hw' := hw.symm; clear hw; subst hw'))
        go_ret2
        exact ⟨_, rfl, Below.refl _ _, (fun h => by cases h), fun _ => rfl⟩
  · have hc : code64 l = 10 := by unfold code64; rw [if_neg h1]
    rw [hc]
    have h1' : allIn urlL l = false := by simpa using h1
    rw [h1'] at ha
    have HA := hid ha
    clear ha hc
    go_enter Tryz.func26, Tryz.ntmps26
    go_wp2_with (go_at_call 46; refine (HA.out _).mono ?_; rintro e w' ⟨rfl, hw⟩; have hw' := hw.symm; clear hw; subst hw')
    go_ret2
    exact ⟨_, rfl, Below.refl _ _, (fun h => by cases h), fun _ => rfl⟩

/-- How many pads a text has: what is at its end, two at most. -/
def PadsIs (l : List UInt8) (n : Nat) : Prop := n ≤ 2 ∧ n ≤ l.length ∧ (∀ i, i < n → l.getD (l.length - 1 - i) 0 = 61) ∧ (n = 2 ∨ n = l.length ∨ l.getD (l.length - 1 - n) 0 ≠ 61)

def padsJ (s : ByteArray) (w : World) (a' : Act) (w' : World) : Prop :=
  w' = w ∧ ∃ (k : Nat) (u4 u5 u6 u7 u8 u9 u10 u11 u12 u13 u14 u15 u16 u17 u18 u19 u20 u21 u22 u23 u24 : Value), a' = { tmps := #[.string s, undef, .int .i64 0, .int .i64 k, u4, u5, u6, u7, u8, u9, u10, u11, u12, u13, u14, u15, u16, u17, u18, u19, u20, u21, u22, u23, u24], defers := [] } ∧ k ≤ 2 ∧ k ≤ s.size ∧ (∀ i, i < k → s.data.toList.getD (s.size - 1 - i) 0 = 61)

theorem at_list (s : ByteArray) (k : Nat) (h : k < s.size) : s[k] = s.data.toList.getD k 0 := at_base s k h

set_option maxRecDepth 100000 in
set_option maxHeartbeats 400000 in
theorem pads_any (s : ByteArray) (w : World) (hs : s.size ≤ 1048576) : Calls Tryz.prog 49 #[.string s] w fun e w' => (∃ n : Nat, e = .returned (.int .i64 n) ∧ PadsIs s.data.toList n) ∧ w' = w := by
  go_enter Tryz.func49, Tryz.ntmps49
  go_wp2
  refine wp_scope_label 0 (padsJ s w) (fun a' _ => 2 - (intOf (a'.tmps.getD 3 undef)).toNat) rfl ?first ?pass
  case first =>
    intro hy
    go_wp2
    go_step3
    simp only [Exit.then]
    exact (‹∀ a w, Code.wp _ _ _ a w → _› : ∀ a w, Code.wp Tryz.prog _ _ a w → _) _ _ (hy _ _ ⟨rfl, 0, _, _, _, _, _, _, _, _, _, _, _, _, _, _, _, _, _, _, _, _, _, rfl, by omega, by omega, fun i hi => absurd hi (by omega)⟩)
  case pass =>
    rintro a' w' ⟨rfl, k, u4, u5, u6, u7, u8, u9, u10, u11, u12, u13, u14, u15, u16, u17, u18, u19, u20, u21, u22, u23, u24, rfl, hk2, hks, hall⟩
    have HALL := hid hall
    clear hall
    by_cases h2 : k = 2
    · have q : ((k : Int) == 2) = true := beq_iff_eq.2 (by omega)
      have H2 := hid h2
      clear h2
      go_wp2
      simp only [Exit.jump]
      go_ret
      exact ⟨⟨k, rfl, hk2, by rw [size_list]; exact hks, by rw [size_list]; exact HALL.out, .inl H2.out⟩, rfl⟩
    · have q : ((k : Int) == 2) = false := beq_eq_false_iff_ne.2 (by omega)
      by_cases h3 : k = s.size
      · have q3 : ((k : Int) == (s.size : Int)) = true := beq_iff_eq.2 (by omega)
        have H3 := hid h3
        clear h3
        go_wp2
        simp only [Exit.jump]
        go_ret
        exact ⟨⟨k, rfl, hk2, by rw [size_list]; exact hks, by rw [size_list]; exact HALL.out, .inr (.inl (by rw [size_list]; exact H3.out))⟩, rfl⟩
      · have q3 : ((k : Int) == (s.size : Int)) = false := beq_eq_false_iff_ne.2 (by omega)
        have hlt : s.size - 1 - k < s.size := by omega
        have hx := at_list s (s.size - 1 - k) hlt
        obtain ⟨c, HC⟩ : ∃ c, Hid (s.data.toList.getD (s.size - 1 - k) 0 = c) := ⟨_, hid rfl⟩
        rw [HC.out] at hx
        by_cases h4 : c = 61
        · have q4 : ((c.toNat : Int) != 61) = false := by rw [h4]; rfl
          have H4 := hid h4
          clear h4
          go_wp2
          go_step3
          refine ⟨rfl, ⟨rfl, k + 1, _, _, _, _, _, _, _, _, _, _, _, _, _, _, _, _, _, _, _, _, _, rfl, by omega, by omega, fun i hi => ?_⟩, by simp [intOf]; omega⟩
          by_cases hik : i < k
          · exact HALL.out i hik
          · rw [show i = k by omega, HC.out, H4.out]
        · have q4 : ((c.toNat : Int) != 61) = true := by
            rw [bne_iff_ne]; intro h; apply h4; apply UInt8.toNat_inj.1; show c.toNat = 61; omega
          have H4 := hid h4
          clear h4
          go_wp2
          simp only [Exit.jump]
          go_ret
          exact ⟨⟨k, rfl, hk2, by rw [size_list]; exact hks, by rw [size_list]; exact HALL.out, .inr (.inr (by rw [size_list, HC.out]; exact H4.out))⟩, rfl⟩
end Go.Proofs.YtipjjhccbgbdiaaGreatDoor
