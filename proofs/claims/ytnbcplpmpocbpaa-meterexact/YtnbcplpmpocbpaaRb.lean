/- The reference's Plus. -/
import Derived.Test.YtnbcplpmpocbpaaRa
namespace Go.Proofs.Ytnbcplpmpocbpaa
open Go Go.RowKit
open Go.RowKit (wrap32 wrap64)

theorem mask_ne (Y d : Nat) (hY : Y < 18446744073709551616) (hd : d ≤ 60) : (bits .and .u64 (Y : Int) (IntKind.u64.wrap (IntKind.u64.wrap ((2 : Int) ^ d) - 1)) != 0) = decide (Y % 2 ^ d ≠ 0) := by
  have hp : 2 ^ d ≤ 2 ^ 60 := Nat.pow_le_pow_right (by omega) hd
  have hp0 : 0 < 2 ^ d := Nat.two_pow_pos _
  have e60 : (2 : Nat) ^ 60 = 1152921504606846976 := by decide
  have e1 : ((2 : Int) ^ d) = ((2 ^ d : Nat) : Int) := by rw [Int.natCast_pow]; rfl
  have e2 : IntKind.u64.wrap (IntKind.u64.wrap ((2 : Int) ^ d) - 1) = ((2 ^ d - 1 : Nat) : Int) := by
    rw [e1, u64w, u64w]
    generalize 2 ^ d = D at *
    omega
  rw [e2, and_mask _ d (by omega) (by omega) (by omega)]
  rw [← Int.natCast_emod]
  generalize Y % 2 ^ d = r
  by_cases h : r = 0
  · subst h; rfl
  · rw [decide_eq_true (show r ≠ 0 from h)]
    exact bne_iff_ne.2 (by omega)
theorem div_cast (Y d : Nat) (n : Int) (hn : n.toNat = d) : ((Y / 2 ^ d : Nat) : Int) = (Y : Int) / (2 : Int) ^ n.toNat := by
  rw [hn, Int.natCast_ediv, Int.natCast_pow]; rfl
set_option maxRecDepth 100000 in
set_option maxHeartbeats 3200000 in
theorem plus_any (b : Nat) (hb : Fnt b) (w : World) : Calls Try.prog 34 #[.int .u64 (b : Int)] w fun e w' => e = .returned (.int .u64 (pl b : Int)) ∧ w' = w := by
  have hm := digs_lt b
  have hE := expo_pos b
  have hp := parts b
  have hdb := digs_big (b := b)
  have hEd : expo b = if b < 4503599627370496 then 1 else b / 4503599627370496 := rfl
  have hDd : digs b = if b < 4503599627370496 then b else 4503599627370496 + b % 4503599627370496 := rfl
  obtain ⟨X, hX⟩ : ∃ X : Int, (b : Int) = X := ⟨_, rfl⟩
  obtain ⟨e0, he0⟩ : ∃ e0 : Int, X / 4503599627370496 = e0 := ⟨_, rfl⟩
  obtain ⟨m0, hm0⟩ : ∃ m0 : Int, X % 4503599627370496 = m0 := ⟨_, rfl⟩
  have t1 : X.tdiv 4503599627370496 = e0 := by rw [Int.tdiv_eq_ediv_of_nonneg (by omega)]; exact he0
  have t2 : X.tmod 4503599627370496 = m0 := by rw [Int.tmod_eq_emod_of_nonneg (by omega)]; exact hm0
  have b1 : 0 ≤ m0 := by omega
  have b2 : m0 < 4503599627370496 := by omega
  have b3 : 0 ≤ e0 := by omega
  have b4 : e0 ≤ 2046 := by unfold Fnt at hb; omega
  unfold pl
  by_cases cA : b < 4503599627370496
  · -- the least ones
    rw [if_pos cA] at hEd hDd
    have z : e0 = 0 := by omega
    subst z
    have mX : m0 = X := by omega
    subst mX
    rw [hEd, hDd, if_neg (by omega)]
    obtain ⟨k, hk, hk2⟩ : ∃ k, 1023 - 1 = k ∧ 61 ≤ k := ⟨1022, rfl, by omega⟩
    rw [hk]
    have hr := rounded_any 4503599627370496 0 1023 (decide (b ≠ 0)) w (by omega) (by omega) (by omega) (by omega)
    have eR : plusR 1023 (18014398509481984 + 4 * b / 2 ^ k) (decide (4 * b % 2 ^ k ≠ 0)) = plusR 1023 (4503599627370496 * 4 + 0) (decide (b ≠ 0)) := by
      have hbig : 4 * b < 2 ^ k := Nat.lt_of_lt_of_le (show 4 * b < 2 ^ 61 by omega) (Nat.pow_le_pow_right (by omega) hk2)
      rw [Nat.div_eq_of_lt hbig, Nat.mod_eq_of_lt hbig]
      congr 1
      exact decide_eq_decide.2 (by omega)
    rw [eR]
    have eB : decide (b ≠ 0) = (m0 != 0) := by rw [Bool.eq_iff_iff]; simp; omega
    generalize hR : plusR 1023 (4503599627370496 * 4 + 0) (decide (b ≠ 0)) = Rv at hr ⊢
    rw [eB] at hr
    have HR := hid hr
    rw [hX]
    clear hr eR eB hR hX hEd hDd hm hE hp hdb he0 hm0 cA hb hk hk2
    go_enter Try.func34, Try.ntmps34
    go_wp2_with fail
    refine HR.out.mono ?_
    rintro e w2 ⟨rfl, rfl⟩
    go_wp2_with fail
    go_ret
    exact ⟨rfl, rfl⟩
  · rw [if_neg cA] at hEd hDd
    have eE : ((expo b : Nat) : Int) = e0 := by rw [hEd]; omega
    have eD : ((digs b : Nat) : Int) = m0 + 4503599627370496 := by rw [hDd]; omega
    obtain ⟨E, hEE⟩ : ∃ E, expo b = E := ⟨_, rfl⟩
    obtain ⟨m, hmm⟩ : ∃ m, digs b = m := ⟨_, rfl⟩
    rw [hEE] at eE hE ⊢
    rw [hmm] at eD hm ⊢
    have b5 : 1 ≤ e0 := by omega
    clear hEd hDd hp hdb he0 hm0 cA hb hEE hmm
    by_cases cC : e0 ≤ 1023
    · rw [if_neg (by omega)]
      by_cases cB : e0 ≤ 962
      · have hr := rounded_any 4503599627370496 0 1023 (decide (m ≠ 0)) w (by omega) (by omega) (by omega) (by omega)
        have eR : plusR 1023 (18014398509481984 + 4 * m / 2 ^ (1023 - E)) (decide (4 * m % 2 ^ (1023 - E) ≠ 0)) = plusR 1023 (4503599627370496 * 4 + 0) (decide (m ≠ 0)) := by
          have hbig : 4 * m < 2 ^ (1023 - E) := Nat.lt_of_lt_of_le (show 4 * m < 2 ^ 61 by omega) (Nat.pow_le_pow_right (by omega) (by omega))
          rw [Nat.div_eq_of_lt hbig, Nat.mod_eq_of_lt hbig]
          congr 1
          exact decide_eq_decide.2 (by omega)
        rw [eR]
        have eB : decide (m ≠ 0) = (m0 + 4503599627370496 != 0) := by rw [Bool.eq_iff_iff]; simp; omega
        generalize hR : plusR 1023 (4503599627370496 * 4 + 0) (decide (m ≠ 0)) = Rv at hr ⊢
        rw [eB] at hr
        have HR := hid hr
        rw [hX]
        clear hr eR eB hR hX eE eD hm hE
        go_enter Try.func34, Try.ntmps34
        go_wp2_with fail
        refine HR.out.mono ?_
        rintro e w2 ⟨rfl, rfl⟩
        go_wp2_with fail
        go_ret
        exact ⟨rfl, rfl⟩
      · have hle : 4 * m / 2 ^ (1023 - E) ≤ 4 * m := Nat.div_le_self _ _
        have hr := rounded_any 4503599627370496 (4 * m / 2 ^ (1023 - E)) 1023 (decide (4 * m % 2 ^ (1023 - E) ≠ 0)) w (Nat.le_trans (by decide) (Nat.le_add_right _ _)) (Nat.lt_of_le_of_lt (Nat.add_le_add_left hle _) (by omega)) (by omega) (by omega)
        rw [show 4503599627370496 * 4 + 4 * m / 2 ^ (1023 - E) = 18014398509481984 + 4 * m / 2 ^ (1023 - E) from rfl] at hr
        have eB := mask_ne (4 * m) (1023 - E) (by omega) (by omega)
        have eX := div_cast (4 * m) (1023 - E) (1023 - e0) (by omega)
        have eM : ((4 * m : Nat) : Int) = (m0 + 4503599627370496) * 4 := by omega
        have eN : 1023 - E = (1023 - e0).toNat := by omega
        generalize hR : plusR 1023 (18014398509481984 + 4 * m / 2 ^ (1023 - E)) (decide (4 * m % 2 ^ (1023 - E) ≠ 0)) = Rv at hr ⊢
        rw [← eB, eX, eM, eN] at hr
        have HR := hid hr
        rw [hX]
        clear hr eB eX eM eN hR hX eE eD hm hE hle
        go_enter Try.func34, Try.ntmps34
        go_wp2_with fail
        refine HR.out.mono ?_
        rintro e w2 ⟨rfl, rfl⟩
        go_wp2_with fail
        go_ret
        exact ⟨rfl, rfl⟩
    · rw [if_pos (by omega)]
      by_cases cD : e0 ≤ 1076
      · rw [if_neg (by omega)]
        have hpw : 2 ^ 1 ≤ 2 ^ (E - 1023) := Nat.pow_le_pow_right (by omega) (by omega)
        have hle : 18014398509481984 / 2 ^ (E - 1023) ≤ 9007199254740992 := by
          calc 18014398509481984 / 2 ^ (E - 1023) ≤ 18014398509481984 / 2 ^ 1 := Nat.div_le_div_left hpw (by decide)
            _ = 9007199254740992 := by decide
        have hr := rounded_any m (18014398509481984 / 2 ^ (E - 1023)) E (decide (18014398509481984 % 2 ^ (E - 1023) ≠ 0)) w (by clear hpw; exact Nat.le_trans (by omega) (Nat.le_add_right (m * 4) _)) (by clear hpw; exact Nat.lt_of_le_of_lt (Nat.add_le_add_left hle (m * 4)) (by omega)) (by omega) (by omega)
        rw [Nat.mul_comm m 4] at hr
        have eB := mask_ne 18014398509481984 (E - 1023) (by omega) (by omega)
        have eX := div_cast 18014398509481984 (E - 1023) (e0 - 1023) (by omega)
        have eN : E - 1023 = (e0 - 1023).toNat := by omega
        generalize hR : plusR E (4 * m + 18014398509481984 / 2 ^ (E - 1023)) (decide (18014398509481984 % 2 ^ (E - 1023) ≠ 0)) = Rv at hr ⊢
        rw [← eB, eX, eN, eD, eE] at hr
        have HR : Hid (Calls Try.prog 39 #[.int .u64 (m0 + 4503599627370496), .int .i64 2, .int .u64 (18014398509481984 / 2 ^ (e0 - 1023).toNat), .bool (bits .and .u64 18014398509481984 (IntKind.u64.wrap (IntKind.u64.wrap (2 ^ (e0 - 1023).toNat) - 1)) != 0), .int .i64 e0] w fun e w' => e = .returned (.int .u64 (Rv : Int)) ∧ w' = w) := hid hr
        rw [hX]
        clear hr eB eX eN hR hX eE eD hm hE hle hpw
        go_enter Try.func34, Try.ntmps34
        go_wp2_with fail
        refine HR.out.mono ?_
        rintro e w2 ⟨rfl, rfl⟩
        go_wp2_with fail
        go_ret
        exact ⟨rfl, rfl⟩
      · rw [if_pos (by omega), hX]
        clear hX eE eD hm hE
        go_enter Try.func34, Try.ntmps34
        go_wp2_with fail
        go_ret
        exact ⟨rfl, rfl⟩
end Go.Proofs.Ytnbcplpmpocbpaa
