/- A score halved some times; how many times bring it below a limit. -/
import Derived.Test.YtnbcplpmpocbpaaWa
import Derived.Test.YtnbcplpmpocbpaaFl3
namespace Go.Proofs.Ytnbcplpmpocbpaa
open Go Go.RowKit
open Go.RowKit (wrap32 wrap64)

theorem hf_le (b : Nat) : hf b ≤ b := by
  unfold hf
  split
  · omega
  · split <;> omega
theorem hfN_zero : ∀ k, hfN k 0 = 0
  | 0 => rfl
  | k + 1 => by rw [hfN, hfN_zero k]; decide
theorem hfN_add (b : Nat) (j : Nat) : ∀ k, hfN (j + k) b = hfN k (hfN j b)
  | 0 => rfl
  | k + 1 => by rw [← Nat.add_assoc, hfN, hfN, hfN_add b j k]
theorem hfN_le (b : Nat) : ∀ k, hfN k b ≤ b
  | 0 => Nat.le_refl _
  | k + 1 => Nat.le_trans (hf_le _) (hfN_le b k)
theorem hfN_mono (b : Nat) {j k : Nat} (h : j ≤ k) : hfN k b ≤ hfN j b := by
  obtain ⟨i, rfl⟩ : ∃ i, k = j + i := ⟨k - j, by omega⟩
  rw [hfN_add]
  exact hfN_le _ _
theorem hfN_big {b : Nat} : ∀ k, hfN k b + k * 4503599627370496 ≤ b ∨ hfN k b < 9007199254740992
  | 0 => .inl (by simp [hfN])
  | k + 1 => by
    rcases hfN_big (b := b) k with h | h
    · by_cases hc : 9007199254740992 ≤ hfN k b
      · left
        rw [hfN, hf, if_pos hc]
        omega
      · right
        rw [hfN]
        have := hf_le (hfN k b)
        omega
    · right
      rw [hfN]
      have := hf_le (hfN k b)
      omega
theorem hf_pow {b j : Nat} (h : b ≤ 2 ^ (j + 1)) (hb : b ≤ 9007199254740991) : hf b ≤ 2 ^ j := by
  rw [Nat.pow_succ] at h
  unfold hf
  rw [if_neg (by omega)]
  split <;> omega
theorem hfN_small {b : Nat} (hb : b ≤ 9007199254740991) : ∀ k, k ≤ 53 → hfN k b ≤ 2 ^ (53 - k)
  | 0, _ => by
    have : (2 : Nat) ^ (53 - 0) = 9007199254740992 := by decide
    rw [this]; show b ≤ _; omega
  | k + 1, hk => by
    have h := hfN_small hb k (by omega)
    rw [hfN]
    refine hf_pow (j := 53 - (k + 1)) ?_ (Nat.le_trans (hfN_le b k) hb)
    rw [show 53 - (k + 1) + 1 = 53 - k by omega]
    exact h
theorem hfN_end {b : Nat} (h : Fnt b) {k : Nat} (hk : 2100 ≤ k) : hfN k b = 0 := by
  have h1 : hfN 2045 b < 9007199254740992 := by
    rcases hfN_big (b := b) 2045 with h1 | h1
    · unfold Fnt at h; omega
    · exact h1
  have h2 := hfN_small (b := hfN 2045 b) (by omega) 53 (by omega)
  rw [← hfN_add, show 2045 + 53 = 2098 from rfl, show (2 : Nat) ^ (53 - 53) = 1 from rfl] at h2
  have h3 : hfN 2099 b = 0 := by
    show hf (hfN 2098 b) = 0
    have : hfN 2098 b = 0 ∨ hfN 2098 b = 1 := by omega
    rcases this with e | e <;> rw [e] <;> decide
  have := hfN_mono b (show 2099 ≤ k by omega)
  omega
theorem hfN_min {b : Nat} (h : Fnt b) (k : Nat) : hfN (min k 2100) b = hfN k b := by
  by_cases hk : k ≤ 2100
  · rw [Nat.min_eq_left hk]
  · rw [Nat.min_eq_right (by omega), hfN_end h (by omega), hfN_end h (by omega)]

set_option maxRecDepth 100000 in
theorem halved_any (b k : Nat) (w : World) (hk : k < 18446744073709551616) : Calls Try.prog 31 #[.float .f64 b, .int .u64 k] w fun e w' => ∃ r, e = .returned (.float .f64 r) ∧ (Fnt b → r = hfN k b) ∧ w.grownBy w' none := by
  have HK := hid hk
  clear hk
  by_cases h1 : k ≤ 2100
  · have h1' : (k : Int) ≤ 2100 := by omega
    go_enter Try.func31, Try.ntmps31
    go_wp2_with fail
    all_goals (try omega)
    go_loopw [0, 7] (fun sv iv wr => ∃ (i : Nat) (r : Nat), iv = .int .u64 i ∧ i ≤ k ∧ sv = .float .f64 r ∧ Hid (Fnt b → r = hfN i b) ∧ Hid (w.grownBy wr none)) (fun _ iv _ => k - (intOf iv).toNat)
    case atStart => exact ⟨0, b, rfl, Nat.zero_le _, rfl, hid (fun _ => rfl), hid (grefl _ _)⟩
    case round =>
      obtain ⟨i, r, rfl, hi, rfl, HR, HG⟩ := hrel
      by_cases hlt : i < k
      · have hlt' : (i : Int) < (k : Int) := by omega
        go_wp2_with (go_at_call 38; refine (halve_any r _).mono ?_; rintro e w2 ⟨r2, rfl, hr2, hg2⟩; have HR2 := hid hr2; have HG2 := hid (gtrans HG.out hg2); clear hr2 hg2)
        go_roundw
        case rel => exact ⟨i + 1, r2, by go_num, by omega, rfl, hid (fun h => by have e := HR.out h; rw [HR2.out (by rw [e]; exact hfN_fin h i), e]; rfl), HG2⟩
        case measure => simp [intOf]; omega
      · have hlt' : ¬ (i : Int) < (k : Int) := by omega
        go_wp2_with fail
        go_ret
        exact ⟨_, rfl, fun h => by rw [HR.out h]; rw [show i = k by omega], HG.out⟩
  · obtain ⟨K, hK⟩ : ∃ K : Int, (k : Int) = K := ⟨_, rfl⟩
    have h1' : ¬ K ≤ 2100 := by omega
    have HK1 := hid h1
    rw [hK]
    clear h1 hK
    go_enter Try.func31, Try.ntmps31
    go_wp2_with fail
    all_goals (try omega)
    go_loopw [0, 7] (fun sv iv wr => ∃ (i : Nat) (r : Nat), iv = .int .u64 i ∧ i ≤ 2100 ∧ sv = .float .f64 r ∧ Hid (Fnt b → r = hfN i b) ∧ Hid (w.grownBy wr none)) (fun _ iv _ => 2100 - (intOf iv).toNat)
    case atStart => exact ⟨0, b, rfl, Nat.zero_le _, rfl, hid (fun _ => rfl), hid (grefl _ _)⟩
    case round =>
      obtain ⟨i, r, rfl, hi, rfl, HR, HG⟩ := hrel
      by_cases hlt : i < 2100
      · have hlt' : (i : Int) < (2100 : Int) := by omega
        go_wp2_with (go_at_call 38; refine (halve_any r _).mono ?_; rintro e w2 ⟨r2, rfl, hr2, hg2⟩; have HR2 := hid hr2; have HG2 := hid (gtrans HG.out hg2); clear hr2 hg2)
        go_roundw
        case rel => exact ⟨i + 1, r2, by go_num, by omega, rfl, hid (fun h => by have e := HR.out h; rw [HR2.out (by rw [e]; exact hfN_fin h i), e]; rfl), HG2⟩
        case measure => simp [intOf]; omega
      · have hlt' : ¬ (i : Int) < (2100 : Int) := by omega
        go_wp2_with fail
        go_ret
        exact ⟨_, rfl, fun h => by rw [HR.out h]; rw [show i = 2100 by omega, hfN_end h (by omega), hfN_end h (by have := HK1.out; omega)], HG.out⟩

/-- k halvings, and no fewer, bring s below L. -/
def isHB (L s k : Nat) : Prop := (∀ j, j < k → L ≤ hfN j s) ∧ hfN k s < L
theorem isHB.eq {L s j k : Nat} (h : isHB L s j) (h' : isHB L s k) : j = k := by
  rcases Nat.lt_trichotomy j k with c | c | c
  · have := h'.1 j c; have := h.2; omega
  · exact c
  · have := h.1 k c; have := h'.2; omega
theorem geq_run (t : TypeId) (a b : Nat) (u : World) : (binOp .geq t (.float .f64 a) (.float .f64 b)).run Try.prog u = .ok (.bool (Ieee.double.order a b == some .gt || Ieee.double.order a b == some .eq)) u := by
  rw [binOp_float_cmp_geq]; rfl
set_option maxRecDepth 100000 in
theorem halvings_any (L b : Nat) (w : World) : Calls Try.prog 40 #[.float .f64 L, .float .f64 b] w fun e w' => ∃ k : Nat, e = .returned (.int .u64 k) ∧ k ≤ 2100 ∧ (Fnt b → Fnt L → 0 < L → isHB L b k) ∧ w.grownBy w' none := by
  go_enter Try.func40, Try.ntmps40
  go_wp2_with fail
  go_loopw [1, 5] (fun sv iv wr => ∃ (i : Nat) (r : Nat), iv = .int .u64 i ∧ i ≤ 2100 ∧ sv = .float .f64 r ∧ Hid (Fnt b → r = hfN i b) ∧ Hid (Fnt b → Fnt L → ∀ j, j < i → L ≤ hfN j b) ∧ Hid (w.grownBy wr none)) (fun _ iv _ => 2100 - (intOf iv).toNat)
  case atStart => exact ⟨0, b, rfl, Nat.zero_le _, rfl, hid (fun _ => rfl), hid (fun _ _ j hj => by omega), hid (grefl _ _)⟩
  case round =>
    obtain ⟨i, r, rfl, hi, rfl, HR, HJ, HG⟩ := hrel
    by_cases hlt : i < 2100
    · have hlt' : (i : Int) < 2100 := by omega
      have hq4 : (FloatKind.f64.format.order r L = some .gt ∨ FloatKind.f64.format.order r L = some .eq) ∨ (FloatKind.f64.format.order r L = none ∨ FloatKind.f64.format.order r L = some .lt) := by
        rcases FloatKind.f64.format.order r L with _ | x
        · exact .inr (.inl rfl)
        · cases x
          · exact .inr (.inr rfl)
          · exact .inl (.inr rfl)
          · exact .inl (.inl rfl)
      rcases hq4 with (hq | hq) | (hq | hq)
      · have HGe : Hid ((Ieee.double.order r L == some .gt || Ieee.double.order r L == some .eq) = true) := hid (by change (FloatKind.f64.format.order r L == some .gt || FloatKind.f64.format.order r L == some .eq) = true; rw [hq]; rfl)
        go_wp2_with (go_at_call 38; refine (halve_any r _).mono ?_; rintro e w2 ⟨r2, rfl, hr2, hg2⟩; have HR2 := hid hr2; have HG2 := hid (gtrans HG.out hg2); clear hr2 hg2)
        go_roundw
        case rel => exact ⟨i + 1, r2, by go_num, by omega, rfl, hid (fun h => by have e := HR.out h; rw [HR2.out (by rw [e]; exact hfN_fin h i), e]; rfl), hid (fun h hL j hj => by
          by_cases hji : j < i
          · exact HJ.out h hL j hji
          · have e : j = i := by omega
            subst e
            have := HGe.out
            rw [HR.out h, geq_fin (hfN_fin h j) hL] at this
            exact of_decide_eq_true this), HG2⟩
        case measure => simp [intOf]; omega
      · have HGe : Hid ((Ieee.double.order r L == some .gt || Ieee.double.order r L == some .eq) = true) := hid (by change (FloatKind.f64.format.order r L == some .gt || FloatKind.f64.format.order r L == some .eq) = true; rw [hq]; rfl)
        go_wp2_with (go_at_call 38; refine (halve_any r _).mono ?_; rintro e w2 ⟨r2, rfl, hr2, hg2⟩; have HR2 := hid hr2; have HG2 := hid (gtrans HG.out hg2); clear hr2 hg2)
        go_roundw
        case rel => exact ⟨i + 1, r2, by go_num, by omega, rfl, hid (fun h => by have e := HR.out h; rw [HR2.out (by rw [e]; exact hfN_fin h i), e]; rfl), hid (fun h hL j hj => by
          by_cases hji : j < i
          · exact HJ.out h hL j hji
          · have e : j = i := by omega
            subst e
            have := HGe.out
            rw [HR.out h, geq_fin (hfN_fin h j) hL] at this
            exact of_decide_eq_true this), HG2⟩
        case measure => simp [intOf]; omega
      · have HGe : Hid ((Ieee.double.order r L == some .gt || Ieee.double.order r L == some .eq) = false) := hid (by change (FloatKind.f64.format.order r L == some .gt || FloatKind.f64.format.order r L == some .eq) = false; rw [hq]; rfl)
        go_wp2_with fail
        go_ret
        exact ⟨i, rfl, hi, fun h hL _ => ⟨HJ.out h hL, by
          have := HGe.out
          rw [HR.out h, geq_fin (hfN_fin h i) hL] at this
          have := of_decide_eq_false this
          omega⟩, HG.out⟩
      · have HGe : Hid ((Ieee.double.order r L == some .gt || Ieee.double.order r L == some .eq) = false) := hid (by change (FloatKind.f64.format.order r L == some .gt || FloatKind.f64.format.order r L == some .eq) = false; rw [hq]; rfl)
        go_wp2_with fail
        go_ret
        exact ⟨i, rfl, hi, fun h hL _ => ⟨HJ.out h hL, by
          have := HGe.out
          rw [HR.out h, geq_fin (hfN_fin h i) hL] at this
          have := of_decide_eq_false this
          omega⟩, HG.out⟩
    · have hlt' : ¬ (i : Int) < 2100 := by omega
      go_wp2_with fail
      go_ret
      exact ⟨i, rfl, hi, fun h hL h0 => ⟨HJ.out h hL, by rw [hfN_end h (by omega)]; exact h0⟩, HG.out⟩
end Go.Proofs.Ytnbcplpmpocbpaa
