/- The reference's Sum, Number, Of. -/
import Derived.Test.YtfalgjdhdgkbfaaGreatDoorWalkM
namespace Go.Proofs.YtfalgjdhdgkbfaaGreatDoor
open Go Go.RowKit
open Go.RowKit (wrap32 wrap64)

/-- One bit of the sum. -/
def bst (s : Nat) : Nat := s / 2 ^^^ (if s % 2 = 1 then 3988292384 else 0)
def bsts : Nat → Nat → Nat
  | 0, x => x
  | k + 1, x => bst (bsts k x)
theorem bst_lt (s : Nat) (h : s < 2 ^ 32) : bst s < 2 ^ 32 := by
  unfold bst
  refine Nat.xor_lt_two_pow (by omega) ?_
  split <;> decide
theorem bsts_lt : ∀ (k s : Nat), s < 2 ^ 32 → bsts k s < 2 ^ 32
  | 0, _, h => h
  | k + 1, s, h => bst_lt _ (bsts_lt k s h)
theorem xor_div2 (a b : Nat) : (a ^^^ b) / 2 = a / 2 ^^^ b / 2 := by
  have := Nat.shiftRight_xor_distrib (a := a) (b := b) (i := 1)
  simpa [Nat.shiftRight_eq_div_pow] using this
theorem xor_mod2 (a b : Nat) : (a ^^^ b) % 2 = a % 2 ^^^ b % 2 := Nat.xor_mod_two_pow (n := 1)
theorem bst_xor (a b : Nat) : bst (a ^^^ b) = bst a ^^^ bst b := by
  unfold bst
  rw [xor_div2, xor_mod2]
  rcases Nat.mod_two_eq_zero_or_one a with ha | ha <;> rcases Nat.mod_two_eq_zero_or_one b with hb | hb <;> rw [ha, hb]
  · simp
  · simp; ac_rfl
  · simp; ac_rfl
  · show a / 2 ^^^ b / 2 ^^^ 0 = a / 2 ^^^ 3988292384 ^^^ (b / 2 ^^^ 3988292384)
    rw [show a / 2 ^^^ 3988292384 ^^^ (b / 2 ^^^ 3988292384) = a / 2 ^^^ b / 2 ^^^ (3988292384 ^^^ 3988292384) by ac_rfl, Nat.xor_self]
theorem bst_up (m : Nat) : bst (m * 2) = m := by
  unfold bst
  rw [Nat.mul_mod_left, if_neg (by decide), Nat.mul_div_cancel _ (by decide)]
  simp
theorem bst4 (s : Nat) : bst (bst (bst (bst s))) = nib s := by
  have hs : (s / 16 * 16) ^^^ (s % 16) = s := by
    have h1 : ((s / 16 * 16) ^^^ (s % 16)) / 16 = s / 16 := by
      rw [xor_div16, Nat.mul_div_cancel _ (by decide), Nat.div_eq_of_lt (Nat.mod_lt _ (by decide))]
      simp
    have h2 : ((s / 16 * 16) ^^^ (s % 16)) % 16 = s % 16 := by
      rw [xor_mod16, Nat.mul_mod_left, Nat.mod_mod]
      simp
    omega
  have hlow : ∀ r : Fin 16, bst (bst (bst (bst r.val))) = tb r.val := by decide
  have hup : bst (bst (bst (bst (s / 16 * 16)))) = s / 16 := by
    rw [show s / 16 * 16 = s / 16 * 2 * 2 * 2 * 2 by omega, bst_up, bst_up, bst_up, bst_up]
  have e := hlow ⟨s % 16, Nat.mod_lt _ (by decide)⟩
  calc bst (bst (bst (bst s))) = bst (bst (bst (bst ((s / 16 * 16) ^^^ (s % 16))))) := by rw [hs]
    _ = bst (bst (bst (bst (s / 16 * 16)))) ^^^ bst (bst (bst (bst (s % 16)))) := by rw [bst_xor, bst_xor, bst_xor, bst_xor]
    _ = nib s := by rw [hup, e]; rfl
theorem bsts8 (s : Nat) : bsts 8 s = nib (nib s) := by
  show bst (bst (bst (bst (bst (bst (bst (bst s))))))) = _
  rw [bst4, bst4]
set_option maxRecDepth 100000 in
set_option maxHeartbeats 800000 in
theorem sumR_any (l : List UInt8) (F : Nat → Prop) (v : Value) (w : World) (hl : l.length ≤ 140737488355328) (hr : Rd w F v l) :
    Calls Tryz.prog 64 #[v] w fun e w' => e = .returned (.int .u32 (sumL l)) ∧ w' = w := by
  obtain ⟨a, b, off, c, rfl, hc, hn, ha, hcell⟩ := hr
  have HC := hid hcell
  have HA := hid ha
  clear hcell ha hn hc
  have HS : Hid (sumL l = 4294967295 ^^^ crcL 4294967295 (l.take l.length)) := by rw [List.take_length]; exact sumL_xor l
  generalize sumL l = R at HS
  obtain ⟨n, HN⟩ : ∃ n, Hid (l.length = n) := ⟨_, hid rfl⟩
  rw [HN.out] at hl HS ⊢
  go_enter Tryz.func64, Tryz.ntmps64
  go_wp2
  go_loop [3, 4] (fun sv iv => ∃ k : Nat, k ≤ n ∧ iv = .int .i64 k ∧ sv = .int .u32 (crcL 4294967295 (l.take k))) (fun _ iv => n - (intOf iv).toNat)
  case atStart => exact ⟨0, Nat.zero_le _, rfl, rfl⟩
  case round =>
    obtain ⟨k, hk, rfl, rfl⟩ := hrel
    have hs := crcL_lt (l.take k) 4294967295 (by decide)
    obtain ⟨S, HSS⟩ : ∃ S, Hid (crcL 4294967295 (l.take k) = S) := ⟨_, hid rfl⟩
    rw [HSS.out] at hs ⊢
    by_cases hlt : k < n
    · have hlt' : (k : Int) < (n : Int) := by omega
      have hil : k < l.length := by rw [HN.out]; exact hlt
      obtain ⟨rfl, hb, _⟩ := HA.out (by omega)
      have hck := HC.out k hil
      obtain ⟨x, HX⟩ : ∃ x, Hid (l[k] = x) := ⟨_, hid rfl⟩
      rw [HX.out] at hck
      have hxb := u8_bd x
      have hX : S ^^^ x.toNat < 2 ^ 32 := Nat.xor_lt_two_pow hs (u8_lt32 x)
      have e1 := u32_xor_nat S x.toNat hs (u8_lt32 x)
      obtain ⟨X, HXX⟩ : ∃ X, Hid (S ^^^ x.toNat = X) := ⟨_, hid rfl⟩
      rw [HXX.out] at hX e1
      have HB := hid (show crcL 4294967295 (l.take (k + 1)) = bsts 8 X by
        rw [take_snocL l k hil, crcL_snoc, HSS.out, HX.out, crcB, HXX.out, bsts8])
      have HXl := hid hX
      clear HX hil hX hs
      go_wp2
      go_loop [3, 5, 6] (fun sv jv _ => ∃ j : Nat, j ≤ 8 ∧ jv = .int .i64 j ∧ sv = .int .u32 (bsts j X)) (fun _ jv _ => 8 - (intOf jv).toNat)
      case atStart => exact ⟨0, by omega, rfl, rfl⟩
      case round =>
        obtain ⟨j, hj, rfl, rfl⟩ := hrel
        have hYl := bsts_lt j X HXl.out
        have HYs : Hid (bsts (j + 1) X = bst (bsts j X)) := hid rfl
        obtain ⟨Y, HY⟩ : ∃ Y, Hid (bsts j X = Y) := ⟨_, hid rfl⟩
        rw [HY.out] at hYl HYs ⊢
        by_cases hjl : j < 8
        · have hjl' : (j : Int) < 8 := by omega
          have e2 := u32_xor_nat (Y / 2) 3988292384 (by omega) (by decide)
          rw [show ((Y / 2 : Nat) : Int) = (Y : Int) / 2 by omega] at e2
          rcases Nat.mod_two_eq_zero_or_one Y with hm | hm
          · have hm' : (Y : Int) % 2 = 0 := by omega
            have HZ : Hid (bst Y = Y / 2) := hid (by unfold bst; rw [hm, if_neg (by decide)]; simp)
            clear hm
            go_wp2
            go_round
            case rel => exact ⟨j + 1, by omega, by go_num, by rw [HYs.out, HZ.out]; go_num⟩
            case measure => simp [intOf]; omega
          · have hm' : (Y : Int) % 2 = 1 := by omega
            have HZ : Hid (bst Y = Y / 2 ^^^ 3988292384) := hid (by unfold bst; rw [hm, if_pos rfl])
            clear hm
            obtain ⟨Z, HZZ⟩ : ∃ Z, Hid (Y / 2 ^^^ 3988292384 = Z) := ⟨_, hid rfl⟩
            rw [HZZ.out] at e2 HZ
            have e9 : bits .xor .u32 ((Y : Int) / 2) 3988292384 = (Z : Int) := e2
            clear e2
            go_wp2
            go_round
            case rel => exact ⟨j + 1, by omega, by go_num, by rw [HYs.out, HZ.out]⟩
            case measure => simp [intOf]; omega
        · obtain rfl : j = 8 := by omega
          have hjl' : ¬ (8 : Int) < 8 := by omega
          go_wp2
          go_round
          case rel => exact ⟨k + 1, by omega, by go_num, by rw [HB.out, HY.out]⟩
          case measure => simp [intOf]; omega
    · have hlt' : ¬ (k : Int) < (n : Int) := by omega
      obtain rfl : k = n := by omega
      have e1 := u32_xor_nat S 4294967295 hs (by decide)
      have HR : Hid (R = S ^^^ 4294967295) := hid (by rw [HS.out, ← HSS.out]; exact Nat.xor_comm _ _)
      obtain ⟨Z, HZZ⟩ : ∃ Z, Hid (S ^^^ 4294967295 = Z) := ⟨_, hid rfl⟩
      rw [HZZ.out] at e1 HR
      have e9 : bits .xor .u32 (S : Int) 4294967295 = (Z : Int) := e1
      clear e1
      go_wp2
      go_ret
      exact ⟨by rw [HR.out]; rfl, rfl⟩
end Go.Proofs.YtfalgjdhdgkbfaaGreatDoor
