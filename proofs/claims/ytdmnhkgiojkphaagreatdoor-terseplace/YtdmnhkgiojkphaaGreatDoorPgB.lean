/- The reference's One and Good, walked. -/
import Derived.Test.YtdmnhkgiojkphaaGreatDoorX22
import Derived.Test.YtdmnhkgiojkphaaGreatDoorX01
import Derived.Test.YtdmnhkgiojkphaaGreatDoorTree
namespace Go.Proofs.YtdmnhkgiojkphaaGreatDoor
open Go Go.RowKit
open Go.RowKit (wrap32 wrap64)

theorem get_from (s : ByteArray) (k : Nat) (h : k < s.size) : s.data.toList.getD k 0 = s[k] := by
  rw [List.getD_eq_getElem?_getD, List.getElem?_eq_getElem (by rw [length_data]; exact h)]
  rfl
theorem one_zero {s : ByteArray} {n lo hi : Nat} (h0 : 0 < s.size) (hc : ¬ s[0].toNat < 128) (hn : leadN s[0].toNat = n) (hlo : leadLo s[0].toNat = lo) (hhi : leadHi s[0].toNat = hi)
    (hb : n = 0 ∨ s.size < n ∨ (∃ h : 1 < s.size, s[1].toNat < lo ∨ hi < s[1].toNat) ∨ (∃ (j : Nat) (h : j < s.size), 2 ≤ j ∧ j < n ∧ (s[j].toNat < 128 ∨ 191 < s[j].toNat))) : oneR s.data.toList = 0 := by
  have hne : s.data.toList ≠ [] := by intro e; have := length_data s; rw [e] at this; simp at this; omega
  unfold oneR
  rw [if_neg hne, get_from s 0 h0, if_neg hc, hn, hlo, hhi, length_data]
  by_cases q : n = 0 ∨ s.size < n ∨ (s.data.toList.getD 1 0).toNat < lo ∨ hi < (s.data.toList.getD 1 0).toNat
  · rw [if_pos q]
  · rw [if_neg q]
    have hn4 : n ≤ 4 := by rw [← hn]; exact lead_le _
    rcases hb with h | h | ⟨h1, h⟩ | ⟨j, hj, h2, h3, h⟩
    · exact absurd (.inl h) q
    · exact absurd (.inr (.inl h)) q
    · rw [get_from s 1 h1] at q
      exact absurd (.inr (.inr h)) q
    · rw [← get_from s j hj] at h
      have : j = 2 ∨ j = 3 := by omega
      rcases this with rfl | rfl
      · rw [if_pos (.inl ⟨by omega, h⟩)]
      · rw [if_pos (.inr ⟨by omega, h⟩)]
theorem one_full {s : ByteArray} {n lo hi : Nat} (h0 : 0 < s.size) (hc : ¬ s[0].toNat < 128) (hn : leadN s[0].toNat = n) (hlo : leadLo s[0].toNat = lo) (hhi : leadHi s[0].toNat = hi) (h2 : 2 ≤ n) (hs : n ≤ s.size)
    (h1 : 1 < s.size) (hb : lo ≤ s[1].toNat ∧ s[1].toNat ≤ hi) (ht : ∀ (j : Nat) (h : j < s.size), 2 ≤ j → j < n → 128 ≤ s[j].toNat ∧ s[j].toNat ≤ 191) : oneR s.data.toList = n := by
  have hne : s.data.toList ≠ [] := by intro e; have := length_data s; rw [e] at this; simp at this; omega
  unfold oneR
  rw [if_neg hne, get_from s 0 h0, if_neg hc, hn, hlo, hhi, length_data, get_from s 1 h1, if_neg (by omega), if_neg]
  rintro (⟨h3, h⟩ | ⟨h3, h⟩)
  · rw [get_from s 2 (by omega)] at h
    have := ht 2 (by omega) (by omega) (by omega)
    omega
  · rw [get_from s 3 (by omega)] at h
    have := ht 3 (by omega) (by omega) (by omega)
    omega

set_option maxRecDepth 100000 in
set_option maxHeartbeats 2000000 in
theorem one_a (s : ByteArray) (w : World) (hs : s.size ≤ 1099511627776) (h0 : 0 < s.size) (hcl : 128 ≤ s[0].toNat ∧ s[0].toNat < 194) : Calls Tryz.prog 59 #[.string s] w fun e w' => e = .returned (.int .i64 (oneR s.data.toList : Nat)) ∧ w' = w := by
  have l0 : (0 : Int) < (s.size : Int) := by omega
  have z0 : ((s.size : Int) == 0) = false := by rw [beq_eq_false_iff_ne]; omega
  have hb0 := u8_bd s[0]
  have hc : ¬ s[0].toNat < 128 := by omega
  have hci : ¬ (s[0].toNat : Int) < 128 := by omega
  have hn : leadN s[0].toNat = 0 := by unfold leadN; rw [if_neg (by omega), if_neg (by omega), if_neg (by omega)]
  have hlo : leadLo s[0].toNat = 128 := by unfold leadLo; rw [if_neg (by omega), if_neg (by omega)]
  have hhi : leadHi s[0].toNat = 191 := by unfold leadHi; rw [if_neg (by omega), if_neg (by omega)]
  have q194 : ¬ (194 : Int) ≤ (s[0].toNat : Int) := by omega
  have q224 : ¬ (224 : Int) ≤ (s[0].toNat : Int) := by omega
  have q240 : ¬ (240 : Int) ≤ (s[0].toNat : Int) := by omega
  have e224 : ((s[0].toNat : Int) == 224) = false := by rw [beq_eq_false_iff_ne]; omega
  have e237 : ((s[0].toNat : Int) == 237) = false := by rw [beq_eq_false_iff_ne]; omega
  have e240 : ((s[0].toNat : Int) == 240) = false := by rw [beq_eq_false_iff_ne]; omega
  have e244 : ((s[0].toNat : Int) == 244) = false := by rw [beq_eq_false_iff_ne]; omega
  have HZ := hid (fun hb => one_zero (s := s) h0 hc hn hlo hhi hb)
  clear hcl hn hlo hhi hc
  obtain ⟨R, HR⟩ : ∃ R, Hid (oneR s.data.toList = R) := ⟨_, hid rfl⟩
  rw [HR.out]
  have HE : Hid (R = 0) := hid (by rw [← HR.out]; exact HZ.out (.inl rfl))
  go_enter Tryz.func59, Tryz.ntmps59
  go_wp2_with fail
  go_ret
  exact ⟨by rw [HE.out]; rfl, rfl⟩
set_option maxRecDepth 100000 in
set_option maxHeartbeats 2000000 in
theorem one_b (s : ByteArray) (w : World) (hs : s.size ≤ 1099511627776) (h0 : 0 < s.size) (hcl : 194 ≤ s[0].toNat ∧ s[0].toNat ≤ 223) : Calls Tryz.prog 59 #[.string s] w fun e w' => e = .returned (.int .i64 (oneR s.data.toList : Nat)) ∧ w' = w := by
  have l0 : (0 : Int) < (s.size : Int) := by omega
  have z0 : ((s.size : Int) == 0) = false := by rw [beq_eq_false_iff_ne]; omega
  have hb0 := u8_bd s[0]
  have hc : ¬ s[0].toNat < 128 := by omega
  have hci : ¬ (s[0].toNat : Int) < 128 := by omega
  have hn : leadN s[0].toNat = 2 := by unfold leadN; rw [if_pos (by omega)]
  have hlo : leadLo s[0].toNat = 128 := by unfold leadLo; rw [if_neg (by omega), if_neg (by omega)]
  have hhi : leadHi s[0].toNat = 191 := by unfold leadHi; rw [if_neg (by omega), if_neg (by omega)]
  have q194 : (194 : Int) ≤ (s[0].toNat : Int) := by omega
  have r223 : (s[0].toNat : Int) ≤ 223 := by omega
  have e224 : ((s[0].toNat : Int) == 224) = false := by rw [beq_eq_false_iff_ne]; omega
  have e237 : ((s[0].toNat : Int) == 237) = false := by rw [beq_eq_false_iff_ne]; omega
  have e240 : ((s[0].toNat : Int) == 240) = false := by rw [beq_eq_false_iff_ne]; omega
  have e244 : ((s[0].toNat : Int) == 244) = false := by rw [beq_eq_false_iff_ne]; omega
  have HZ := hid (fun hb => one_zero (s := s) h0 hc hn hlo hhi hb)
  have HF := hid (fun (h1 : 1 < s.size) hs' hb ht => one_full (s := s) h0 hc hn hlo hhi (by omega) hs' h1 hb ht)
  clear hcl hn hlo hhi hc
  obtain ⟨R, HR⟩ : ∃ R, Hid (oneR s.data.toList = R) := ⟨_, hid rfl⟩
  rw [HR.out]
  by_cases hL : s.size < 2
  · have hLi : (s.size : Int) < 2 := by omega
    have HE : Hid (R = 0) := hid (by rw [← HR.out]; exact HZ.out (.inr (.inl hL)))
    clear HZ HF
    go_enter Tryz.func59, Tryz.ntmps59
    go_wp2_with fail
    go_ret
    exact ⟨by rw [HE.out]; rfl, rfl⟩
  · have hLi : ¬ (s.size : Int) < 2 := by omega
    have h1 : 1 < s.size := by omega
    have l1 : (1 : Int) < (s.size : Int) := by omega
    have hb1 := u8_bd s[1]
    by_cases hA : s[1].toNat < 128
    · have hAi : (s[1].toNat : Int) < 128 := by omega
      have HE : Hid (R = 0) := hid (by rw [← HR.out]; exact HZ.out (.inr (.inr (.inl ⟨h1, .inl hA⟩))))
      clear HZ HF
      go_enter Tryz.func59, Tryz.ntmps59
      go_wp2_with fail
      go_ret
      exact ⟨by rw [HE.out]; rfl, rfl⟩
    · have hAi : ¬ (s[1].toNat : Int) < 128 := by omega
      by_cases hB : 191 < s[1].toNat
      · have hBi : (191 : Int) < (s[1].toNat : Int) := by omega
        have HE : Hid (R = 0) := hid (by rw [← HR.out]; exact HZ.out (.inr (.inr (.inl ⟨h1, .inr hB⟩))))
        clear HZ HF
        go_enter Tryz.func59, Tryz.ntmps59
        go_wp2_with fail
        go_ret
        exact ⟨by rw [HE.out]; rfl, rfl⟩
      · have hBi : ¬ (191 : Int) < (s[1].toNat : Int) := by omega
        have HLE := hid (show 2 ≤ s.size by omega)
        have HAB := hid (show 128 ≤ s[1].toNat ∧ s[1].toNat ≤ 191 by omega)
        clear hA hB hL
        go_enter Tryz.func59, Tryz.ntmps59
        go_wp2_with fail
        go_loop [7] (fun i => ∃ k : Nat, 2 ≤ k ∧ k ≤ 2 ∧ i = .int .i64 k ∧ Hid (∀ (j : Nat) (h : j < s.size), 2 ≤ j → j < k → 128 ≤ s[j].toNat ∧ s[j].toNat ≤ 191)) (fun i => 2 - (intOf i).toNat)
        case atStart => exact ⟨2, by omega, by omega, rfl, hid (fun j h h2 h3 => by omega)⟩
        case round =>
          obtain ⟨k, hk2, hkn, rfl, HT⟩ := hrel
          by_cases hlt : k < 2
          · have hlti : (k : Int) < 2 := by omega
            have hks : k < s.size := by have := HLE.out; omega
            have hksi : (k : Int) < (s.size : Int) := by omega
            have hk0 : ¬ (k : Int) < 0 := by omega
            have hbk := u8_bd s[k]
            by_cases hC : s[k].toNat < 128
            · have hCi : (s[k].toNat : Int) < 128 := by omega
              have HE : Hid (R = 0) := hid (by rw [← HR.out]; exact HZ.out (.inr (.inr (.inr ⟨k, hks, hk2, hlt, .inl hC⟩))))
              clear HZ HF
              go_wp2_with fail
              go_ret
              exact ⟨by rw [HE.out]; rfl, rfl⟩
            · have hCi : ¬ (s[k].toNat : Int) < 128 := by omega
              by_cases hD : 191 < s[k].toNat
              · have hDi : (191 : Int) < (s[k].toNat : Int) := by omega
                have HE : Hid (R = 0) := hid (by rw [← HR.out]; exact HZ.out (.inr (.inr (.inr ⟨k, hks, hk2, hlt, .inr hD⟩))))
                clear HZ HF
                go_wp2_with fail
                go_ret
                exact ⟨by rw [HE.out]; rfl, rfl⟩
              · have hDi : ¬ (191 : Int) < (s[k].toNat : Int) := by omega
                have HT' : Hid (∀ (j : Nat) (h : j < s.size), 2 ≤ j → j < k + 1 → 128 ≤ s[j].toNat ∧ s[j].toNat ≤ 191) := hid (fun j h h2 h3 => by
                  by_cases e : j = k
                  · subst e; omega
                  · exact HT.out j h h2 (by omega))
                clear HZ HF hC hD
                go_wp2_with fail
                go_round
                case rel => exact ⟨k + 1, by omega, by omega, by go_num, HT'⟩
                case measure => simp [intOf]; omega
          · have hlti : ¬ (k : Int) < 2 := by omega
            have hke : k = 2 := by omega
            have HE : Hid (R = 2) := hid (by rw [← HR.out]; exact HF.out h1 HLE.out HAB.out (fun j h h2 h3 => HT.out j h h2 (by omega)))
            clear HZ HF
            go_wp2_with fail
            go_ret
            exact ⟨by rw [HE.out]; rfl, rfl⟩
set_option maxRecDepth 100000 in
set_option maxHeartbeats 2000000 in
theorem one_c (s : ByteArray) (w : World) (hs : s.size ≤ 1099511627776) (h0 : 0 < s.size) (hcl : s[0].toNat = 224) : Calls Tryz.prog 59 #[.string s] w fun e w' => e = .returned (.int .i64 (oneR s.data.toList : Nat)) ∧ w' = w := by
  have l0 : (0 : Int) < (s.size : Int) := by omega
  have z0 : ((s.size : Int) == 0) = false := by rw [beq_eq_false_iff_ne]; omega
  have hb0 := u8_bd s[0]
  have hc : ¬ s[0].toNat < 128 := by omega
  have hci : ¬ (s[0].toNat : Int) < 128 := by omega
  have hn : leadN s[0].toNat = 3 := by unfold leadN; rw [if_neg (by omega), if_pos (by omega)]
  have hlo : leadLo s[0].toNat = 160 := by unfold leadLo; rw [if_neg (by omega), if_pos (by omega)]
  have hhi : leadHi s[0].toNat = 191 := by unfold leadHi; rw [if_neg (by omega), if_neg (by omega)]
  have q194 : (194 : Int) ≤ (s[0].toNat : Int) := by omega
  have r223 : ¬ (s[0].toNat : Int) ≤ 223 := by omega
  have q224 : (224 : Int) ≤ (s[0].toNat : Int) := by omega
  have r239 : (s[0].toNat : Int) ≤ 239 := by omega
  have e224 : ((s[0].toNat : Int) == 224) = true := by rw [beq_iff_eq]; omega
  have e237 : ((s[0].toNat : Int) == 237) = false := by rw [beq_eq_false_iff_ne]; omega
  have e240 : ((s[0].toNat : Int) == 240) = false := by rw [beq_eq_false_iff_ne]; omega
  have e244 : ((s[0].toNat : Int) == 244) = false := by rw [beq_eq_false_iff_ne]; omega
  have HZ := hid (fun hb => one_zero (s := s) h0 hc hn hlo hhi hb)
  have HF := hid (fun (h1 : 1 < s.size) hs' hb ht => one_full (s := s) h0 hc hn hlo hhi (by omega) hs' h1 hb ht)
  clear hcl hn hlo hhi hc
  obtain ⟨R, HR⟩ : ∃ R, Hid (oneR s.data.toList = R) := ⟨_, hid rfl⟩
  rw [HR.out]
  by_cases hL : s.size < 3
  · have hLi : (s.size : Int) < 3 := by omega
    have HE : Hid (R = 0) := hid (by rw [← HR.out]; exact HZ.out (.inr (.inl hL)))
    clear HZ HF
    go_enter Tryz.func59, Tryz.ntmps59
    go_wp2_with fail
    go_ret
    exact ⟨by rw [HE.out]; rfl, rfl⟩
  · have hLi : ¬ (s.size : Int) < 3 := by omega
    have h1 : 1 < s.size := by omega
    have l1 : (1 : Int) < (s.size : Int) := by omega
    have hb1 := u8_bd s[1]
    by_cases hA : s[1].toNat < 160
    · have hAi : (s[1].toNat : Int) < 160 := by omega
      have HE : Hid (R = 0) := hid (by rw [← HR.out]; exact HZ.out (.inr (.inr (.inl ⟨h1, .inl hA⟩))))
      clear HZ HF
      go_enter Tryz.func59, Tryz.ntmps59
      go_wp2_with fail
      go_ret
      exact ⟨by rw [HE.out]; rfl, rfl⟩
    · have hAi : ¬ (s[1].toNat : Int) < 160 := by omega
      by_cases hB : 191 < s[1].toNat
      · have hBi : (191 : Int) < (s[1].toNat : Int) := by omega
        have HE : Hid (R = 0) := hid (by rw [← HR.out]; exact HZ.out (.inr (.inr (.inl ⟨h1, .inr hB⟩))))
        clear HZ HF
        go_enter Tryz.func59, Tryz.ntmps59
        go_wp2_with fail
        go_ret
        exact ⟨by rw [HE.out]; rfl, rfl⟩
      · have hBi : ¬ (191 : Int) < (s[1].toNat : Int) := by omega
        have HLE := hid (show 3 ≤ s.size by omega)
        have HAB := hid (show 160 ≤ s[1].toNat ∧ s[1].toNat ≤ 191 by omega)
        clear hA hB hL
        go_enter Tryz.func59, Tryz.ntmps59
        go_wp2_with fail
        go_loop [7] (fun i => ∃ k : Nat, 2 ≤ k ∧ k ≤ 3 ∧ i = .int .i64 k ∧ Hid (∀ (j : Nat) (h : j < s.size), 2 ≤ j → j < k → 128 ≤ s[j].toNat ∧ s[j].toNat ≤ 191)) (fun i => 3 - (intOf i).toNat)
        case atStart => exact ⟨2, by omega, by omega, rfl, hid (fun j h h2 h3 => by omega)⟩
        case round =>
          obtain ⟨k, hk2, hkn, rfl, HT⟩ := hrel
          by_cases hlt : k < 3
          · have hlti : (k : Int) < 3 := by omega
            have hks : k < s.size := by have := HLE.out; omega
            have hksi : (k : Int) < (s.size : Int) := by omega
            have hk0 : ¬ (k : Int) < 0 := by omega
            have hbk := u8_bd s[k]
            by_cases hC : s[k].toNat < 128
            · have hCi : (s[k].toNat : Int) < 128 := by omega
              have HE : Hid (R = 0) := hid (by rw [← HR.out]; exact HZ.out (.inr (.inr (.inr ⟨k, hks, hk2, hlt, .inl hC⟩))))
              clear HZ HF
              go_wp2_with fail
              go_ret
              exact ⟨by rw [HE.out]; rfl, rfl⟩
            · have hCi : ¬ (s[k].toNat : Int) < 128 := by omega
              by_cases hD : 191 < s[k].toNat
              · have hDi : (191 : Int) < (s[k].toNat : Int) := by omega
                have HE : Hid (R = 0) := hid (by rw [← HR.out]; exact HZ.out (.inr (.inr (.inr ⟨k, hks, hk2, hlt, .inr hD⟩))))
                clear HZ HF
                go_wp2_with fail
                go_ret
                exact ⟨by rw [HE.out]; rfl, rfl⟩
              · have hDi : ¬ (191 : Int) < (s[k].toNat : Int) := by omega
                have HT' : Hid (∀ (j : Nat) (h : j < s.size), 2 ≤ j → j < k + 1 → 128 ≤ s[j].toNat ∧ s[j].toNat ≤ 191) := hid (fun j h h2 h3 => by
                  by_cases e : j = k
                  · subst e; omega
                  · exact HT.out j h h2 (by omega))
                clear HZ HF hC hD
                go_wp2_with fail
                go_round
                case rel => exact ⟨k + 1, by omega, by omega, by go_num, HT'⟩
                case measure => simp [intOf]; omega
          · have hlti : ¬ (k : Int) < 3 := by omega
            have hke : k = 3 := by omega
            have HE : Hid (R = 3) := hid (by rw [← HR.out]; exact HF.out h1 HLE.out HAB.out (fun j h h2 h3 => HT.out j h h2 (by omega)))
            clear HZ HF
            go_wp2_with fail
            go_ret
            exact ⟨by rw [HE.out]; rfl, rfl⟩
set_option maxRecDepth 100000 in
set_option maxHeartbeats 2000000 in
theorem one_d (s : ByteArray) (w : World) (hs : s.size ≤ 1099511627776) (h0 : 0 < s.size) (hcl : (225 ≤ s[0].toNat ∧ s[0].toNat ≤ 236) ∨ s[0].toNat = 238 ∨ s[0].toNat = 239) : Calls Tryz.prog 59 #[.string s] w fun e w' => e = .returned (.int .i64 (oneR s.data.toList : Nat)) ∧ w' = w := by
  have l0 : (0 : Int) < (s.size : Int) := by omega
  have z0 : ((s.size : Int) == 0) = false := by rw [beq_eq_false_iff_ne]; omega
  have hb0 := u8_bd s[0]
  have hc : ¬ s[0].toNat < 128 := by omega
  have hci : ¬ (s[0].toNat : Int) < 128 := by omega
  have hn : leadN s[0].toNat = 3 := by unfold leadN; rw [if_neg (by omega), if_pos (by omega)]
  have hlo : leadLo s[0].toNat = 128 := by unfold leadLo; rw [if_neg (by omega), if_neg (by omega)]
  have hhi : leadHi s[0].toNat = 191 := by unfold leadHi; rw [if_neg (by omega), if_neg (by omega)]
  have q194 : (194 : Int) ≤ (s[0].toNat : Int) := by omega
  have r223 : ¬ (s[0].toNat : Int) ≤ 223 := by omega
  have q224 : (224 : Int) ≤ (s[0].toNat : Int) := by omega
  have r239 : (s[0].toNat : Int) ≤ 239 := by omega
  have e224 : ((s[0].toNat : Int) == 224) = false := by rw [beq_eq_false_iff_ne]; omega
  have e237 : ((s[0].toNat : Int) == 237) = false := by rw [beq_eq_false_iff_ne]; omega
  have e240 : ((s[0].toNat : Int) == 240) = false := by rw [beq_eq_false_iff_ne]; omega
  have e244 : ((s[0].toNat : Int) == 244) = false := by rw [beq_eq_false_iff_ne]; omega
  have HZ := hid (fun hb => one_zero (s := s) h0 hc hn hlo hhi hb)
  have HF := hid (fun (h1 : 1 < s.size) hs' hb ht => one_full (s := s) h0 hc hn hlo hhi (by omega) hs' h1 hb ht)
  clear hcl hn hlo hhi hc
  obtain ⟨R, HR⟩ : ∃ R, Hid (oneR s.data.toList = R) := ⟨_, hid rfl⟩
  rw [HR.out]
  by_cases hL : s.size < 3
  · have hLi : (s.size : Int) < 3 := by omega
    have HE : Hid (R = 0) := hid (by rw [← HR.out]; exact HZ.out (.inr (.inl hL)))
    clear HZ HF
    go_enter Tryz.func59, Tryz.ntmps59
    go_wp2_with fail
    go_ret
    exact ⟨by rw [HE.out]; rfl, rfl⟩
  · have hLi : ¬ (s.size : Int) < 3 := by omega
    have h1 : 1 < s.size := by omega
    have l1 : (1 : Int) < (s.size : Int) := by omega
    have hb1 := u8_bd s[1]
    by_cases hA : s[1].toNat < 128
    · have hAi : (s[1].toNat : Int) < 128 := by omega
      have HE : Hid (R = 0) := hid (by rw [← HR.out]; exact HZ.out (.inr (.inr (.inl ⟨h1, .inl hA⟩))))
      clear HZ HF
      go_enter Tryz.func59, Tryz.ntmps59
      go_wp2_with fail
      go_ret
      exact ⟨by rw [HE.out]; rfl, rfl⟩
    · have hAi : ¬ (s[1].toNat : Int) < 128 := by omega
      by_cases hB : 191 < s[1].toNat
      · have hBi : (191 : Int) < (s[1].toNat : Int) := by omega
        have HE : Hid (R = 0) := hid (by rw [← HR.out]; exact HZ.out (.inr (.inr (.inl ⟨h1, .inr hB⟩))))
        clear HZ HF
        go_enter Tryz.func59, Tryz.ntmps59
        go_wp2_with fail
        go_ret
        exact ⟨by rw [HE.out]; rfl, rfl⟩
      · have hBi : ¬ (191 : Int) < (s[1].toNat : Int) := by omega
        have HLE := hid (show 3 ≤ s.size by omega)
        have HAB := hid (show 128 ≤ s[1].toNat ∧ s[1].toNat ≤ 191 by omega)
        clear hA hB hL
        go_enter Tryz.func59, Tryz.ntmps59
        go_wp2_with fail
        go_loop [7] (fun i => ∃ k : Nat, 2 ≤ k ∧ k ≤ 3 ∧ i = .int .i64 k ∧ Hid (∀ (j : Nat) (h : j < s.size), 2 ≤ j → j < k → 128 ≤ s[j].toNat ∧ s[j].toNat ≤ 191)) (fun i => 3 - (intOf i).toNat)
        case atStart => exact ⟨2, by omega, by omega, rfl, hid (fun j h h2 h3 => by omega)⟩
        case round =>
          obtain ⟨k, hk2, hkn, rfl, HT⟩ := hrel
          by_cases hlt : k < 3
          · have hlti : (k : Int) < 3 := by omega
            have hks : k < s.size := by have := HLE.out; omega
            have hksi : (k : Int) < (s.size : Int) := by omega
            have hk0 : ¬ (k : Int) < 0 := by omega
            have hbk := u8_bd s[k]
            by_cases hC : s[k].toNat < 128
            · have hCi : (s[k].toNat : Int) < 128 := by omega
              have HE : Hid (R = 0) := hid (by rw [← HR.out]; exact HZ.out (.inr (.inr (.inr ⟨k, hks, hk2, hlt, .inl hC⟩))))
              clear HZ HF
              go_wp2_with fail
              go_ret
              exact ⟨by rw [HE.out]; rfl, rfl⟩
            · have hCi : ¬ (s[k].toNat : Int) < 128 := by omega
              by_cases hD : 191 < s[k].toNat
              · have hDi : (191 : Int) < (s[k].toNat : Int) := by omega
                have HE : Hid (R = 0) := hid (by rw [← HR.out]; exact HZ.out (.inr (.inr (.inr ⟨k, hks, hk2, hlt, .inr hD⟩))))
                clear HZ HF
                go_wp2_with fail
                go_ret
                exact ⟨by rw [HE.out]; rfl, rfl⟩
              · have hDi : ¬ (191 : Int) < (s[k].toNat : Int) := by omega
                have HT' : Hid (∀ (j : Nat) (h : j < s.size), 2 ≤ j → j < k + 1 → 128 ≤ s[j].toNat ∧ s[j].toNat ≤ 191) := hid (fun j h h2 h3 => by
                  by_cases e : j = k
                  · subst e; omega
                  · exact HT.out j h h2 (by omega))
                clear HZ HF hC hD
                go_wp2_with fail
                go_round
                case rel => exact ⟨k + 1, by omega, by omega, by go_num, HT'⟩
                case measure => simp [intOf]; omega
          · have hlti : ¬ (k : Int) < 3 := by omega
            have hke : k = 3 := by omega
            have HE : Hid (R = 3) := hid (by rw [← HR.out]; exact HF.out h1 HLE.out HAB.out (fun j h h2 h3 => HT.out j h h2 (by omega)))
            clear HZ HF
            go_wp2_with fail
            go_ret
            exact ⟨by rw [HE.out]; rfl, rfl⟩
set_option maxRecDepth 100000 in
set_option maxHeartbeats 2000000 in
theorem one_e (s : ByteArray) (w : World) (hs : s.size ≤ 1099511627776) (h0 : 0 < s.size) (hcl : s[0].toNat = 237) : Calls Tryz.prog 59 #[.string s] w fun e w' => e = .returned (.int .i64 (oneR s.data.toList : Nat)) ∧ w' = w := by
  have l0 : (0 : Int) < (s.size : Int) := by omega
  have z0 : ((s.size : Int) == 0) = false := by rw [beq_eq_false_iff_ne]; omega
  have hb0 := u8_bd s[0]
  have hc : ¬ s[0].toNat < 128 := by omega
  have hci : ¬ (s[0].toNat : Int) < 128 := by omega
  have hn : leadN s[0].toNat = 3 := by unfold leadN; rw [if_neg (by omega), if_pos (by omega)]
  have hlo : leadLo s[0].toNat = 128 := by unfold leadLo; rw [if_neg (by omega), if_neg (by omega)]
  have hhi : leadHi s[0].toNat = 159 := by unfold leadHi; rw [if_neg (by omega), if_pos (by omega)]
  have q194 : (194 : Int) ≤ (s[0].toNat : Int) := by omega
  have r223 : ¬ (s[0].toNat : Int) ≤ 223 := by omega
  have q224 : (224 : Int) ≤ (s[0].toNat : Int) := by omega
  have r239 : (s[0].toNat : Int) ≤ 239 := by omega
  have e224 : ((s[0].toNat : Int) == 224) = false := by rw [beq_eq_false_iff_ne]; omega
  have e237 : ((s[0].toNat : Int) == 237) = true := by rw [beq_iff_eq]; omega
  have e240 : ((s[0].toNat : Int) == 240) = false := by rw [beq_eq_false_iff_ne]; omega
  have e244 : ((s[0].toNat : Int) == 244) = false := by rw [beq_eq_false_iff_ne]; omega
  have HZ := hid (fun hb => one_zero (s := s) h0 hc hn hlo hhi hb)
  have HF := hid (fun (h1 : 1 < s.size) hs' hb ht => one_full (s := s) h0 hc hn hlo hhi (by omega) hs' h1 hb ht)
  clear hcl hn hlo hhi hc
  obtain ⟨R, HR⟩ : ∃ R, Hid (oneR s.data.toList = R) := ⟨_, hid rfl⟩
  rw [HR.out]
  by_cases hL : s.size < 3
  · have hLi : (s.size : Int) < 3 := by omega
    have HE : Hid (R = 0) := hid (by rw [← HR.out]; exact HZ.out (.inr (.inl hL)))
    clear HZ HF
    go_enter Tryz.func59, Tryz.ntmps59
    go_wp2_with fail
    go_ret
    exact ⟨by rw [HE.out]; rfl, rfl⟩
  · have hLi : ¬ (s.size : Int) < 3 := by omega
    have h1 : 1 < s.size := by omega
    have l1 : (1 : Int) < (s.size : Int) := by omega
    have hb1 := u8_bd s[1]
    by_cases hA : s[1].toNat < 128
    · have hAi : (s[1].toNat : Int) < 128 := by omega
      have HE : Hid (R = 0) := hid (by rw [← HR.out]; exact HZ.out (.inr (.inr (.inl ⟨h1, .inl hA⟩))))
      clear HZ HF
      go_enter Tryz.func59, Tryz.ntmps59
      go_wp2_with fail
      go_ret
      exact ⟨by rw [HE.out]; rfl, rfl⟩
    · have hAi : ¬ (s[1].toNat : Int) < 128 := by omega
      by_cases hB : 159 < s[1].toNat
      · have hBi : (159 : Int) < (s[1].toNat : Int) := by omega
        have HE : Hid (R = 0) := hid (by rw [← HR.out]; exact HZ.out (.inr (.inr (.inl ⟨h1, .inr hB⟩))))
        clear HZ HF
        go_enter Tryz.func59, Tryz.ntmps59
        go_wp2_with fail
        go_ret
        exact ⟨by rw [HE.out]; rfl, rfl⟩
      · have hBi : ¬ (159 : Int) < (s[1].toNat : Int) := by omega
        have HLE := hid (show 3 ≤ s.size by omega)
        have HAB := hid (show 128 ≤ s[1].toNat ∧ s[1].toNat ≤ 159 by omega)
        clear hA hB hL
        go_enter Tryz.func59, Tryz.ntmps59
        go_wp2_with fail
        go_loop [7] (fun i => ∃ k : Nat, 2 ≤ k ∧ k ≤ 3 ∧ i = .int .i64 k ∧ Hid (∀ (j : Nat) (h : j < s.size), 2 ≤ j → j < k → 128 ≤ s[j].toNat ∧ s[j].toNat ≤ 191)) (fun i => 3 - (intOf i).toNat)
        case atStart => exact ⟨2, by omega, by omega, rfl, hid (fun j h h2 h3 => by omega)⟩
        case round =>
          obtain ⟨k, hk2, hkn, rfl, HT⟩ := hrel
          by_cases hlt : k < 3
          · have hlti : (k : Int) < 3 := by omega
            have hks : k < s.size := by have := HLE.out; omega
            have hksi : (k : Int) < (s.size : Int) := by omega
            have hk0 : ¬ (k : Int) < 0 := by omega
            have hbk := u8_bd s[k]
            by_cases hC : s[k].toNat < 128
            · have hCi : (s[k].toNat : Int) < 128 := by omega
              have HE : Hid (R = 0) := hid (by rw [← HR.out]; exact HZ.out (.inr (.inr (.inr ⟨k, hks, hk2, hlt, .inl hC⟩))))
              clear HZ HF
              go_wp2_with fail
              go_ret
              exact ⟨by rw [HE.out]; rfl, rfl⟩
            · have hCi : ¬ (s[k].toNat : Int) < 128 := by omega
              by_cases hD : 191 < s[k].toNat
              · have hDi : (191 : Int) < (s[k].toNat : Int) := by omega
                have HE : Hid (R = 0) := hid (by rw [← HR.out]; exact HZ.out (.inr (.inr (.inr ⟨k, hks, hk2, hlt, .inr hD⟩))))
                clear HZ HF
                go_wp2_with fail
                go_ret
                exact ⟨by rw [HE.out]; rfl, rfl⟩
              · have hDi : ¬ (191 : Int) < (s[k].toNat : Int) := by omega
                have HT' : Hid (∀ (j : Nat) (h : j < s.size), 2 ≤ j → j < k + 1 → 128 ≤ s[j].toNat ∧ s[j].toNat ≤ 191) := hid (fun j h h2 h3 => by
                  by_cases e : j = k
                  · subst e; omega
                  · exact HT.out j h h2 (by omega))
                clear HZ HF hC hD
                go_wp2_with fail
                go_round
                case rel => exact ⟨k + 1, by omega, by omega, by go_num, HT'⟩
                case measure => simp [intOf]; omega
          · have hlti : ¬ (k : Int) < 3 := by omega
            have hke : k = 3 := by omega
            have HE : Hid (R = 3) := hid (by rw [← HR.out]; exact HF.out h1 HLE.out HAB.out (fun j h h2 h3 => HT.out j h h2 (by omega)))
            clear HZ HF
            go_wp2_with fail
            go_ret
            exact ⟨by rw [HE.out]; rfl, rfl⟩
set_option maxRecDepth 100000 in
set_option maxHeartbeats 2000000 in
theorem one_f (s : ByteArray) (w : World) (hs : s.size ≤ 1099511627776) (h0 : 0 < s.size) (hcl : s[0].toNat = 240) : Calls Tryz.prog 59 #[.string s] w fun e w' => e = .returned (.int .i64 (oneR s.data.toList : Nat)) ∧ w' = w := by
  have l0 : (0 : Int) < (s.size : Int) := by omega
  have z0 : ((s.size : Int) == 0) = false := by rw [beq_eq_false_iff_ne]; omega
  have hb0 := u8_bd s[0]
  have hc : ¬ s[0].toNat < 128 := by omega
  have hci : ¬ (s[0].toNat : Int) < 128 := by omega
  have hn : leadN s[0].toNat = 4 := by unfold leadN; rw [if_neg (by omega), if_neg (by omega), if_pos (by omega)]
  have hlo : leadLo s[0].toNat = 144 := by unfold leadLo; rw [if_pos (by omega)]
  have hhi : leadHi s[0].toNat = 191 := by unfold leadHi; rw [if_neg (by omega), if_neg (by omega)]
  have q194 : (194 : Int) ≤ (s[0].toNat : Int) := by omega
  have r223 : ¬ (s[0].toNat : Int) ≤ 223 := by omega
  have q224 : (224 : Int) ≤ (s[0].toNat : Int) := by omega
  have r239 : ¬ (s[0].toNat : Int) ≤ 239 := by omega
  have q240 : (240 : Int) ≤ (s[0].toNat : Int) := by omega
  have r244 : (s[0].toNat : Int) ≤ 244 := by omega
  have e224 : ((s[0].toNat : Int) == 224) = false := by rw [beq_eq_false_iff_ne]; omega
  have e237 : ((s[0].toNat : Int) == 237) = false := by rw [beq_eq_false_iff_ne]; omega
  have e240 : ((s[0].toNat : Int) == 240) = true := by rw [beq_iff_eq]; omega
  have e244 : ((s[0].toNat : Int) == 244) = false := by rw [beq_eq_false_iff_ne]; omega
  have HZ := hid (fun hb => one_zero (s := s) h0 hc hn hlo hhi hb)
  have HF := hid (fun (h1 : 1 < s.size) hs' hb ht => one_full (s := s) h0 hc hn hlo hhi (by omega) hs' h1 hb ht)
  clear hcl hn hlo hhi hc
  obtain ⟨R, HR⟩ : ∃ R, Hid (oneR s.data.toList = R) := ⟨_, hid rfl⟩
  rw [HR.out]
  by_cases hL : s.size < 4
  · have hLi : (s.size : Int) < 4 := by omega
    have HE : Hid (R = 0) := hid (by rw [← HR.out]; exact HZ.out (.inr (.inl hL)))
    clear HZ HF
    go_enter Tryz.func59, Tryz.ntmps59
    go_wp2_with fail
    go_ret
    exact ⟨by rw [HE.out]; rfl, rfl⟩
  · have hLi : ¬ (s.size : Int) < 4 := by omega
    have h1 : 1 < s.size := by omega
    have l1 : (1 : Int) < (s.size : Int) := by omega
    have hb1 := u8_bd s[1]
    by_cases hA : s[1].toNat < 144
    · have hAi : (s[1].toNat : Int) < 144 := by omega
      have HE : Hid (R = 0) := hid (by rw [← HR.out]; exact HZ.out (.inr (.inr (.inl ⟨h1, .inl hA⟩))))
      clear HZ HF
      go_enter Tryz.func59, Tryz.ntmps59
      go_wp2_with fail
      go_ret
      exact ⟨by rw [HE.out]; rfl, rfl⟩
    · have hAi : ¬ (s[1].toNat : Int) < 144 := by omega
      by_cases hB : 191 < s[1].toNat
      · have hBi : (191 : Int) < (s[1].toNat : Int) := by omega
        have HE : Hid (R = 0) := hid (by rw [← HR.out]; exact HZ.out (.inr (.inr (.inl ⟨h1, .inr hB⟩))))
        clear HZ HF
        go_enter Tryz.func59, Tryz.ntmps59
        go_wp2_with fail
        go_ret
        exact ⟨by rw [HE.out]; rfl, rfl⟩
      · have hBi : ¬ (191 : Int) < (s[1].toNat : Int) := by omega
        have HLE := hid (show 4 ≤ s.size by omega)
        have HAB := hid (show 144 ≤ s[1].toNat ∧ s[1].toNat ≤ 191 by omega)
        clear hA hB hL
        go_enter Tryz.func59, Tryz.ntmps59
        go_wp2_with fail
        go_loop [7] (fun i => ∃ k : Nat, 2 ≤ k ∧ k ≤ 4 ∧ i = .int .i64 k ∧ Hid (∀ (j : Nat) (h : j < s.size), 2 ≤ j → j < k → 128 ≤ s[j].toNat ∧ s[j].toNat ≤ 191)) (fun i => 4 - (intOf i).toNat)
        case atStart => exact ⟨2, by omega, by omega, rfl, hid (fun j h h2 h3 => by omega)⟩
        case round =>
          obtain ⟨k, hk2, hkn, rfl, HT⟩ := hrel
          by_cases hlt : k < 4
          · have hlti : (k : Int) < 4 := by omega
            have hks : k < s.size := by have := HLE.out; omega
            have hksi : (k : Int) < (s.size : Int) := by omega
            have hk0 : ¬ (k : Int) < 0 := by omega
            have hbk := u8_bd s[k]
            by_cases hC : s[k].toNat < 128
            · have hCi : (s[k].toNat : Int) < 128 := by omega
              have HE : Hid (R = 0) := hid (by rw [← HR.out]; exact HZ.out (.inr (.inr (.inr ⟨k, hks, hk2, hlt, .inl hC⟩))))
              clear HZ HF
              go_wp2_with fail
              go_ret
              exact ⟨by rw [HE.out]; rfl, rfl⟩
            · have hCi : ¬ (s[k].toNat : Int) < 128 := by omega
              by_cases hD : 191 < s[k].toNat
              · have hDi : (191 : Int) < (s[k].toNat : Int) := by omega
                have HE : Hid (R = 0) := hid (by rw [← HR.out]; exact HZ.out (.inr (.inr (.inr ⟨k, hks, hk2, hlt, .inr hD⟩))))
                clear HZ HF
                go_wp2_with fail
                go_ret
                exact ⟨by rw [HE.out]; rfl, rfl⟩
              · have hDi : ¬ (191 : Int) < (s[k].toNat : Int) := by omega
                have HT' : Hid (∀ (j : Nat) (h : j < s.size), 2 ≤ j → j < k + 1 → 128 ≤ s[j].toNat ∧ s[j].toNat ≤ 191) := hid (fun j h h2 h3 => by
                  by_cases e : j = k
                  · subst e; omega
                  · exact HT.out j h h2 (by omega))
                clear HZ HF hC hD
                go_wp2_with fail
                go_round
                case rel => exact ⟨k + 1, by omega, by omega, by go_num, HT'⟩
                case measure => simp [intOf]; omega
          · have hlti : ¬ (k : Int) < 4 := by omega
            have hke : k = 4 := by omega
            have HE : Hid (R = 4) := hid (by rw [← HR.out]; exact HF.out h1 HLE.out HAB.out (fun j h h2 h3 => HT.out j h h2 (by omega)))
            clear HZ HF
            go_wp2_with fail
            go_ret
            exact ⟨by rw [HE.out]; rfl, rfl⟩
set_option maxRecDepth 100000 in
set_option maxHeartbeats 2000000 in
theorem one_g (s : ByteArray) (w : World) (hs : s.size ≤ 1099511627776) (h0 : 0 < s.size) (hcl : 241 ≤ s[0].toNat ∧ s[0].toNat ≤ 243) : Calls Tryz.prog 59 #[.string s] w fun e w' => e = .returned (.int .i64 (oneR s.data.toList : Nat)) ∧ w' = w := by
  have l0 : (0 : Int) < (s.size : Int) := by omega
  have z0 : ((s.size : Int) == 0) = false := by rw [beq_eq_false_iff_ne]; omega
  have hb0 := u8_bd s[0]
  have hc : ¬ s[0].toNat < 128 := by omega
  have hci : ¬ (s[0].toNat : Int) < 128 := by omega
  have hn : leadN s[0].toNat = 4 := by unfold leadN; rw [if_neg (by omega), if_neg (by omega), if_pos (by omega)]
  have hlo : leadLo s[0].toNat = 128 := by unfold leadLo; rw [if_neg (by omega), if_neg (by omega)]
  have hhi : leadHi s[0].toNat = 191 := by unfold leadHi; rw [if_neg (by omega), if_neg (by omega)]
  have q194 : (194 : Int) ≤ (s[0].toNat : Int) := by omega
  have r223 : ¬ (s[0].toNat : Int) ≤ 223 := by omega
  have q224 : (224 : Int) ≤ (s[0].toNat : Int) := by omega
  have r239 : ¬ (s[0].toNat : Int) ≤ 239 := by omega
  have q240 : (240 : Int) ≤ (s[0].toNat : Int) := by omega
  have r244 : (s[0].toNat : Int) ≤ 244 := by omega
  have e224 : ((s[0].toNat : Int) == 224) = false := by rw [beq_eq_false_iff_ne]; omega
  have e237 : ((s[0].toNat : Int) == 237) = false := by rw [beq_eq_false_iff_ne]; omega
  have e240 : ((s[0].toNat : Int) == 240) = false := by rw [beq_eq_false_iff_ne]; omega
  have e244 : ((s[0].toNat : Int) == 244) = false := by rw [beq_eq_false_iff_ne]; omega
  have HZ := hid (fun hb => one_zero (s := s) h0 hc hn hlo hhi hb)
  have HF := hid (fun (h1 : 1 < s.size) hs' hb ht => one_full (s := s) h0 hc hn hlo hhi (by omega) hs' h1 hb ht)
  clear hcl hn hlo hhi hc
  obtain ⟨R, HR⟩ : ∃ R, Hid (oneR s.data.toList = R) := ⟨_, hid rfl⟩
  rw [HR.out]
  by_cases hL : s.size < 4
  · have hLi : (s.size : Int) < 4 := by omega
    have HE : Hid (R = 0) := hid (by rw [← HR.out]; exact HZ.out (.inr (.inl hL)))
    clear HZ HF
    go_enter Tryz.func59, Tryz.ntmps59
    go_wp2_with fail
    go_ret
    exact ⟨by rw [HE.out]; rfl, rfl⟩
  · have hLi : ¬ (s.size : Int) < 4 := by omega
    have h1 : 1 < s.size := by omega
    have l1 : (1 : Int) < (s.size : Int) := by omega
    have hb1 := u8_bd s[1]
    by_cases hA : s[1].toNat < 128
    · have hAi : (s[1].toNat : Int) < 128 := by omega
      have HE : Hid (R = 0) := hid (by rw [← HR.out]; exact HZ.out (.inr (.inr (.inl ⟨h1, .inl hA⟩))))
      clear HZ HF
      go_enter Tryz.func59, Tryz.ntmps59
      go_wp2_with fail
      go_ret
      exact ⟨by rw [HE.out]; rfl, rfl⟩
    · have hAi : ¬ (s[1].toNat : Int) < 128 := by omega
      by_cases hB : 191 < s[1].toNat
      · have hBi : (191 : Int) < (s[1].toNat : Int) := by omega
        have HE : Hid (R = 0) := hid (by rw [← HR.out]; exact HZ.out (.inr (.inr (.inl ⟨h1, .inr hB⟩))))
        clear HZ HF
        go_enter Tryz.func59, Tryz.ntmps59
        go_wp2_with fail
        go_ret
        exact ⟨by rw [HE.out]; rfl, rfl⟩
      · have hBi : ¬ (191 : Int) < (s[1].toNat : Int) := by omega
        have HLE := hid (show 4 ≤ s.size by omega)
        have HAB := hid (show 128 ≤ s[1].toNat ∧ s[1].toNat ≤ 191 by omega)
        clear hA hB hL
        go_enter Tryz.func59, Tryz.ntmps59
        go_wp2_with fail
        go_loop [7] (fun i => ∃ k : Nat, 2 ≤ k ∧ k ≤ 4 ∧ i = .int .i64 k ∧ Hid (∀ (j : Nat) (h : j < s.size), 2 ≤ j → j < k → 128 ≤ s[j].toNat ∧ s[j].toNat ≤ 191)) (fun i => 4 - (intOf i).toNat)
        case atStart => exact ⟨2, by omega, by omega, rfl, hid (fun j h h2 h3 => by omega)⟩
        case round =>
          obtain ⟨k, hk2, hkn, rfl, HT⟩ := hrel
          by_cases hlt : k < 4
          · have hlti : (k : Int) < 4 := by omega
            have hks : k < s.size := by have := HLE.out; omega
            have hksi : (k : Int) < (s.size : Int) := by omega
            have hk0 : ¬ (k : Int) < 0 := by omega
            have hbk := u8_bd s[k]
            by_cases hC : s[k].toNat < 128
            · have hCi : (s[k].toNat : Int) < 128 := by omega
              have HE : Hid (R = 0) := hid (by rw [← HR.out]; exact HZ.out (.inr (.inr (.inr ⟨k, hks, hk2, hlt, .inl hC⟩))))
              clear HZ HF
              go_wp2_with fail
              go_ret
              exact ⟨by rw [HE.out]; rfl, rfl⟩
            · have hCi : ¬ (s[k].toNat : Int) < 128 := by omega
              by_cases hD : 191 < s[k].toNat
              · have hDi : (191 : Int) < (s[k].toNat : Int) := by omega
                have HE : Hid (R = 0) := hid (by rw [← HR.out]; exact HZ.out (.inr (.inr (.inr ⟨k, hks, hk2, hlt, .inr hD⟩))))
                clear HZ HF
                go_wp2_with fail
                go_ret
                exact ⟨by rw [HE.out]; rfl, rfl⟩
              · have hDi : ¬ (191 : Int) < (s[k].toNat : Int) := by omega
                have HT' : Hid (∀ (j : Nat) (h : j < s.size), 2 ≤ j → j < k + 1 → 128 ≤ s[j].toNat ∧ s[j].toNat ≤ 191) := hid (fun j h h2 h3 => by
                  by_cases e : j = k
                  · subst e; omega
                  · exact HT.out j h h2 (by omega))
                clear HZ HF hC hD
                go_wp2_with fail
                go_round
                case rel => exact ⟨k + 1, by omega, by omega, by go_num, HT'⟩
                case measure => simp [intOf]; omega
          · have hlti : ¬ (k : Int) < 4 := by omega
            have hke : k = 4 := by omega
            have HE : Hid (R = 4) := hid (by rw [← HR.out]; exact HF.out h1 HLE.out HAB.out (fun j h h2 h3 => HT.out j h h2 (by omega)))
            clear HZ HF
            go_wp2_with fail
            go_ret
            exact ⟨by rw [HE.out]; rfl, rfl⟩
set_option maxRecDepth 100000 in
set_option maxHeartbeats 2000000 in
theorem one_h (s : ByteArray) (w : World) (hs : s.size ≤ 1099511627776) (h0 : 0 < s.size) (hcl : s[0].toNat = 244) : Calls Tryz.prog 59 #[.string s] w fun e w' => e = .returned (.int .i64 (oneR s.data.toList : Nat)) ∧ w' = w := by
  have l0 : (0 : Int) < (s.size : Int) := by omega
  have z0 : ((s.size : Int) == 0) = false := by rw [beq_eq_false_iff_ne]; omega
  have hb0 := u8_bd s[0]
  have hc : ¬ s[0].toNat < 128 := by omega
  have hci : ¬ (s[0].toNat : Int) < 128 := by omega
  have hn : leadN s[0].toNat = 4 := by unfold leadN; rw [if_neg (by omega), if_neg (by omega), if_pos (by omega)]
  have hlo : leadLo s[0].toNat = 128 := by unfold leadLo; rw [if_neg (by omega), if_neg (by omega)]
  have hhi : leadHi s[0].toNat = 143 := by unfold leadHi; rw [if_pos (by omega)]
  have q194 : (194 : Int) ≤ (s[0].toNat : Int) := by omega
  have r223 : ¬ (s[0].toNat : Int) ≤ 223 := by omega
  have q224 : (224 : Int) ≤ (s[0].toNat : Int) := by omega
  have r239 : ¬ (s[0].toNat : Int) ≤ 239 := by omega
  have q240 : (240 : Int) ≤ (s[0].toNat : Int) := by omega
  have r244 : (s[0].toNat : Int) ≤ 244 := by omega
  have e224 : ((s[0].toNat : Int) == 224) = false := by rw [beq_eq_false_iff_ne]; omega
  have e237 : ((s[0].toNat : Int) == 237) = false := by rw [beq_eq_false_iff_ne]; omega
  have e240 : ((s[0].toNat : Int) == 240) = false := by rw [beq_eq_false_iff_ne]; omega
  have e244 : ((s[0].toNat : Int) == 244) = true := by rw [beq_iff_eq]; omega
  have HZ := hid (fun hb => one_zero (s := s) h0 hc hn hlo hhi hb)
  have HF := hid (fun (h1 : 1 < s.size) hs' hb ht => one_full (s := s) h0 hc hn hlo hhi (by omega) hs' h1 hb ht)
  clear hcl hn hlo hhi hc
  obtain ⟨R, HR⟩ : ∃ R, Hid (oneR s.data.toList = R) := ⟨_, hid rfl⟩
  rw [HR.out]
  by_cases hL : s.size < 4
  · have hLi : (s.size : Int) < 4 := by omega
    have HE : Hid (R = 0) := hid (by rw [← HR.out]; exact HZ.out (.inr (.inl hL)))
    clear HZ HF
    go_enter Tryz.func59, Tryz.ntmps59
    go_wp2_with fail
    go_ret
    exact ⟨by rw [HE.out]; rfl, rfl⟩
  · have hLi : ¬ (s.size : Int) < 4 := by omega
    have h1 : 1 < s.size := by omega
    have l1 : (1 : Int) < (s.size : Int) := by omega
    have hb1 := u8_bd s[1]
    by_cases hA : s[1].toNat < 128
    · have hAi : (s[1].toNat : Int) < 128 := by omega
      have HE : Hid (R = 0) := hid (by rw [← HR.out]; exact HZ.out (.inr (.inr (.inl ⟨h1, .inl hA⟩))))
      clear HZ HF
      go_enter Tryz.func59, Tryz.ntmps59
      go_wp2_with fail
      go_ret
      exact ⟨by rw [HE.out]; rfl, rfl⟩
    · have hAi : ¬ (s[1].toNat : Int) < 128 := by omega
      by_cases hB : 143 < s[1].toNat
      · have hBi : (143 : Int) < (s[1].toNat : Int) := by omega
        have HE : Hid (R = 0) := hid (by rw [← HR.out]; exact HZ.out (.inr (.inr (.inl ⟨h1, .inr hB⟩))))
        clear HZ HF
        go_enter Tryz.func59, Tryz.ntmps59
        go_wp2_with fail
        go_ret
        exact ⟨by rw [HE.out]; rfl, rfl⟩
      · have hBi : ¬ (143 : Int) < (s[1].toNat : Int) := by omega
        have HLE := hid (show 4 ≤ s.size by omega)
        have HAB := hid (show 128 ≤ s[1].toNat ∧ s[1].toNat ≤ 143 by omega)
        clear hA hB hL
        go_enter Tryz.func59, Tryz.ntmps59
        go_wp2_with fail
        go_loop [7] (fun i => ∃ k : Nat, 2 ≤ k ∧ k ≤ 4 ∧ i = .int .i64 k ∧ Hid (∀ (j : Nat) (h : j < s.size), 2 ≤ j → j < k → 128 ≤ s[j].toNat ∧ s[j].toNat ≤ 191)) (fun i => 4 - (intOf i).toNat)
        case atStart => exact ⟨2, by omega, by omega, rfl, hid (fun j h h2 h3 => by omega)⟩
        case round =>
          obtain ⟨k, hk2, hkn, rfl, HT⟩ := hrel
          by_cases hlt : k < 4
          · have hlti : (k : Int) < 4 := by omega
            have hks : k < s.size := by have := HLE.out; omega
            have hksi : (k : Int) < (s.size : Int) := by omega
            have hk0 : ¬ (k : Int) < 0 := by omega
            have hbk := u8_bd s[k]
            by_cases hC : s[k].toNat < 128
            · have hCi : (s[k].toNat : Int) < 128 := by omega
              have HE : Hid (R = 0) := hid (by rw [← HR.out]; exact HZ.out (.inr (.inr (.inr ⟨k, hks, hk2, hlt, .inl hC⟩))))
              clear HZ HF
              go_wp2_with fail
              go_ret
              exact ⟨by rw [HE.out]; rfl, rfl⟩
            · have hCi : ¬ (s[k].toNat : Int) < 128 := by omega
              by_cases hD : 191 < s[k].toNat
              · have hDi : (191 : Int) < (s[k].toNat : Int) := by omega
                have HE : Hid (R = 0) := hid (by rw [← HR.out]; exact HZ.out (.inr (.inr (.inr ⟨k, hks, hk2, hlt, .inr hD⟩))))
                clear HZ HF
                go_wp2_with fail
                go_ret
                exact ⟨by rw [HE.out]; rfl, rfl⟩
              · have hDi : ¬ (191 : Int) < (s[k].toNat : Int) := by omega
                have HT' : Hid (∀ (j : Nat) (h : j < s.size), 2 ≤ j → j < k + 1 → 128 ≤ s[j].toNat ∧ s[j].toNat ≤ 191) := hid (fun j h h2 h3 => by
                  by_cases e : j = k
                  · subst e; omega
                  · exact HT.out j h h2 (by omega))
                clear HZ HF hC hD
                go_wp2_with fail
                go_round
                case rel => exact ⟨k + 1, by omega, by omega, by go_num, HT'⟩
                case measure => simp [intOf]; omega
          · have hlti : ¬ (k : Int) < 4 := by omega
            have hke : k = 4 := by omega
            have HE : Hid (R = 4) := hid (by rw [← HR.out]; exact HF.out h1 HLE.out HAB.out (fun j h h2 h3 => HT.out j h h2 (by omega)))
            clear HZ HF
            go_wp2_with fail
            go_ret
            exact ⟨by rw [HE.out]; rfl, rfl⟩
set_option maxRecDepth 100000 in
set_option maxHeartbeats 2000000 in
theorem one_i (s : ByteArray) (w : World) (hs : s.size ≤ 1099511627776) (h0 : 0 < s.size) (hcl : 245 ≤ s[0].toNat) : Calls Tryz.prog 59 #[.string s] w fun e w' => e = .returned (.int .i64 (oneR s.data.toList : Nat)) ∧ w' = w := by
  have l0 : (0 : Int) < (s.size : Int) := by omega
  have z0 : ((s.size : Int) == 0) = false := by rw [beq_eq_false_iff_ne]; omega
  have hb0 := u8_bd s[0]
  have hc : ¬ s[0].toNat < 128 := by omega
  have hci : ¬ (s[0].toNat : Int) < 128 := by omega
  have hn : leadN s[0].toNat = 0 := by unfold leadN; rw [if_neg (by omega), if_neg (by omega), if_neg (by omega)]
  have hlo : leadLo s[0].toNat = 128 := by unfold leadLo; rw [if_neg (by omega), if_neg (by omega)]
  have hhi : leadHi s[0].toNat = 191 := by unfold leadHi; rw [if_neg (by omega), if_neg (by omega)]
  have q194 : (194 : Int) ≤ (s[0].toNat : Int) := by omega
  have r223 : ¬ (s[0].toNat : Int) ≤ 223 := by omega
  have q224 : (224 : Int) ≤ (s[0].toNat : Int) := by omega
  have r239 : ¬ (s[0].toNat : Int) ≤ 239 := by omega
  have q240 : (240 : Int) ≤ (s[0].toNat : Int) := by omega
  have r244 : ¬ (s[0].toNat : Int) ≤ 244 := by omega
  have e224 : ((s[0].toNat : Int) == 224) = false := by rw [beq_eq_false_iff_ne]; omega
  have e237 : ((s[0].toNat : Int) == 237) = false := by rw [beq_eq_false_iff_ne]; omega
  have e240 : ((s[0].toNat : Int) == 240) = false := by rw [beq_eq_false_iff_ne]; omega
  have e244 : ((s[0].toNat : Int) == 244) = false := by rw [beq_eq_false_iff_ne]; omega
  have HZ := hid (fun hb => one_zero (s := s) h0 hc hn hlo hhi hb)
  clear hcl hn hlo hhi hc
  obtain ⟨R, HR⟩ : ∃ R, Hid (oneR s.data.toList = R) := ⟨_, hid rfl⟩
  rw [HR.out]
  have HE : Hid (R = 0) := hid (by rw [← HR.out]; exact HZ.out (.inl rfl))
  go_enter Tryz.func59, Tryz.ntmps59
  go_wp2_with fail
  go_ret
  exact ⟨by rw [HE.out]; rfl, rfl⟩
set_option maxRecDepth 100000 in
set_option maxHeartbeats 2000000 in
theorem one_any (s : ByteArray) (w : World) (hs : s.size ≤ 1099511627776) : Calls Tryz.prog 59 #[.string s] w fun e w' => e = .returned (.int .i64 (oneR s.data.toList : Nat)) ∧ w' = w := by
  by_cases h0 : s.size = 0
  · have z0 : ((s.size : Int) == 0) = true := by rw [beq_iff_eq]; omega
    have HE : Hid (oneR s.data.toList = 0) := hid (one_nil (by have := length_data s; exact List.eq_nil_of_length_eq_zero (by omega)))
    go_enter Tryz.func59, Tryz.ntmps59
    go_wp2_with fail
    go_ret
    exact ⟨by rw [HE.out]; rfl, rfl⟩
  · have h0' : 0 < s.size := by omega
    by_cases hc : s[0].toNat < 128
    · have z0 : ((s.size : Int) == 0) = false := by rw [beq_eq_false_iff_ne]; omega
      have l0 : (0 : Int) < (s.size : Int) := by omega
      have hci : (s[0].toNat : Int) < 128 := by omega
      have HE : Hid (oneR s.data.toList = 1) := hid (one_asc (by intro e; have := length_data s; rw [e] at this; simp at this; omega) (by rw [get_from s 0 h0']; exact hc))
      go_enter Tryz.func59, Tryz.ntmps59
      go_wp2_with fail
      go_ret
      exact ⟨by rw [HE.out]; rfl, rfl⟩
    · by_cases a1 : s[0].toNat < 194
      · exact one_a s w hs h0' ⟨by omega, a1⟩
      · by_cases a2 : s[0].toNat ≤ 223
        · exact one_b s w hs h0' ⟨by omega, a2⟩
        · by_cases a3 : s[0].toNat = 224
          · exact one_c s w hs h0' a3
          · by_cases a4 : s[0].toNat = 237
            · exact one_e s w hs h0' a4
            · by_cases a5 : s[0].toNat ≤ 239
              · exact one_d s w hs h0' (by omega)
              · by_cases a6 : s[0].toNat = 240
                · exact one_f s w hs h0' a6
                · by_cases a7 : s[0].toNat = 244
                  · exact one_h s w hs h0' a7
                  · by_cases a8 : s[0].toNat ≤ 243
                    · exact one_g s w hs h0' ⟨by omega, a8⟩
                    · exact one_i s w hs h0' (by omega)
end Go.Proofs.YtdmnhkgiojkphaaGreatDoor
