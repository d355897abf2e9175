/- The walks of the escapes: lower, unit, escape16, escape, isBadByte. -/
import Derived.Test.YtdmnhkgiojkphaaGreatDoorX04
import Derived.Laws.BitsLemmas
namespace Go.Proofs.YtdmnhkgiojkphaaGreatDoor
open Go Go.RowKit
open Go.RowKit (wrap32 wrap64)

def lowZ (c : UInt8) : Int := if 65 ≤ c.toNat ∧ c.toNat ≤ 70 then (c.toNat : Int) + 32 else c.toNat
theorem lowZ_bd (c : UInt8) : 0 ≤ lowZ c ∧ lowZ c < 256 := by
  have := c.toNat_lt
  unfold lowZ
  split <;> omega
def digits16 : ByteArray := ⟨#[48, 49, 50, 51, 52, 53, 54, 55, 56, 57, 97, 98, 99, 100, 101, 102]⟩
def hexI (c : UInt8) : Int := match hexv c with | some n => n | none => -1
theorem hexI_eq (c : UInt8) : Lib.indexByte digits16.data.toList (lowZ c).toNat.toUInt8 = hexI c := by
  have h : ∀ n : Fin 256, Lib.indexByte digits16.data.toList (lowZ (UInt8.ofNat n.val)).toNat.toUInt8 = hexI (UInt8.ofNat n.val) := by decide +kernel
  have := h ⟨c.toNat, c.toNat_lt⟩
  simpa using this
theorem hexv_lt {c : UInt8} {n : Nat} (h : hexv c = some n) : n < 16 := by
  unfold hexv at h
  repeat' split at h
  all_goals first | (exfalso; cases h; done) | (simp only [Option.some.injEq] at h; omega)

set_option maxHeartbeats 400000 in
theorem lower_any (c : UInt8) (w : World) : Calls Tryz.prog 212 #[.int .u8 c.toNat] w fun e w' => e = .returned (.int .u8 (lowZ c)) ∧ w' = w := by
  have hb := u8_bd c
  by_cases h : 65 ≤ c.toNat ∧ c.toNat ≤ 70
  · have HL : Hid (lowZ c = (c.toNat : Int) + 32) := by unfold lowZ; rw [if_pos h]; exact rfl
    have h1 : (65 : Int) ≤ (c.toNat : Int) := by omega
    have h2 : (c.toNat : Int) ≤ 70 := by omega
    go_enter Tryz.func212, Tryz.ntmps212
    go_wp2
    go_ret
    refine ⟨?_, rfl⟩
    rw [HL.out]
    show Ending.returned (.int .u8 ((c.toNat : Int) + 97 - 65)) = _
    rw [show (c.toNat : Int) + 97 - 65 = (c.toNat : Int) + 32 by omega]
  · have HL : Hid (lowZ c = (c.toNat : Int)) := by unfold lowZ; rw [if_neg h]; exact rfl
    by_cases h1 : (65 : Int) ≤ (c.toNat : Int)
    · have h2 : ¬ (c.toNat : Int) ≤ 70 := by omega
      go_enter Tryz.func212, Tryz.ntmps212
      go_wp2
      go_ret
      exact ⟨by rw [HL.out]; rfl, rfl⟩
    · go_enter Tryz.func212, Tryz.ntmps212
      go_wp2
      go_ret
      exact ⟨by rw [HL.out]; rfl, rfl⟩

/-- A row of digits behind a number. -/
def hexGo (acc : Nat) : List UInt8 → Option Nat
  | [] => some acc
  | c :: r => match hexv c with
    | none => none
    | some d => hexGo (acc * 16 + d) r
theorem fourN_go (a b c d : UInt8) (r : List UInt8) : fourN (92 :: 117 :: a :: b :: c :: d :: r) = hexGo 0 [a, b, c, d] := by
  cases ha : hexv a <;> cases hb : hexv b <;> cases hc : hexv c <;> cases hd : hexv d <;> simp [fourN, hexGo, ha, hb, hc, hd]
theorem fourN_none {l : List UInt8} (h : ¬ (6 ≤ l.length ∧ l.getD 0 0 = 92 ∧ l.getD 1 0 = 117)) : fourN l = none := by
  unfold fourN
  split
  · exact absurd ⟨by simp, rfl, rfl⟩ h
  · rfl
theorem fourN_go' {s : ByteArray} (h6 : 6 ≤ s.size) (h0 : s[0].toNat = 92) (h1 : s[1].toNat = 117) : fourN s.data.toList = hexGo 0 ((from_ s 2).take 4) := by
  have e0 := from_lt s 0 (by omega)
  have e1 := from_lt s 1 (by omega)
  have e2 := from_lt s 2 (by omega)
  have e3 := from_lt s 3 (by omega)
  have e4 := from_lt s 4 (by omega)
  have e5 := from_lt s 5 (by omega)
  have c0 : s[0] = 92 := by rw [← UInt8.toNat_inj]; exact h0
  have c1 : s[1] = 117 := by rw [← UInt8.toNat_inj]; exact h1
  rw [from_zero] at e0
  rw [e0, e1, e2, e3, e4, e5, c0, c1, fourN_go]
  rfl
theorem hexGo_step {s : ByteArray} {k acc : Nat} (hk : k < 6) (hs : k < s.size) : hexGo acc ((from_ s k).take (6 - k)) = match hexv s[k] with | none => none | some d => hexGo (acc * 16 + d) ((from_ s (k + 1)).take (6 - (k + 1))) := by
  rw [from_lt s k hs, show 6 - k = (6 - (k + 1)) + 1 by omega, List.take_succ_cons]
  rfl
/-- How unit ends. -/
def unitV : Option Nat → Value
  | some n => .tuple #[.int .i32 n, .bool true]
  | none => .tuple #[.int .i32 0, .bool false]
theorem or16 (x y : Int) (hx0 : 0 ≤ x) (hx : x < 65536) (hy0 : 0 ≤ y) (hy : y < 16) : bits .or .i32 (x * 16) y = x * 16 + y := by
  refine bits_join .i32 30 (by decide) ?_ 4 (x * 16) y (by omega) (by omega) (by omega) hy0 (by omega) (by omega)
  intro n h0 h1
  rw [IntKind.wrap_i32]
  omega

set_option maxRecDepth 100000 in
set_option maxHeartbeats 1000000 in
theorem unit_any (s : ByteArray) (w : World) (hs : s.size ≤ 1099511627776) : Calls Tryz.prog 193 #[.string s] w fun e w' => e = .returned (unitV (fourN s.data.toList)) ∧ w' = w := by
  by_cases h6 : 6 ≤ s.size
  · have h6i : ¬ ((s.size : Int) < 6) := by omega
    have b0 := u8_bd s[0]
    have b1 := u8_bd s[1]
    have l0 : (0 : Int) < (s.size : Int) := by omega
    have l1 : (1 : Int) < (s.size : Int) := by omega
    by_cases h0 : s[0].toNat = 92
    · by_cases h1 : s[1].toNat = 117
      · have HF := hid (fourN_go' h6 h0 h1)
        have q0 : ((s[0].toNat : Int) != 92) = false := by simp; omega
        have q1 : ((s[1].toNat : Int) != 117) = false := by simp; omega
        clear h0 h1
        go_enter Tryz.func193, Tryz.ntmps193
        go_wp2_with fail
        go_loop [4, 5] (fun n i => ∃ k acc : Nat, 2 ≤ k ∧ k ≤ 6 ∧ i = .int .i64 k ∧ n = .int .i32 acc ∧ acc < 16 ^ (k - 2) ∧ Hid (hexGo 0 ((from_ s 2).take 4) = hexGo acc ((from_ s k).take (6 - k)))) (fun _ i => 6 - (intOf i).toNat)
        case atStart => exact ⟨2, 0, by omega, by omega, rfl, rfl, by omega, hid rfl⟩
        case round =>
          obtain ⟨k, acc, hk2, hk6, rfl, rfl, hacc, HH⟩ := hrel
          by_cases hlt : k < 6
          · have hks : k < s.size := by omega
            have hki : (k : Int) < (s.size : Int) := by omega
            have hkl : (k : Int) < 6 := by omega
            have hbk := u8_bd s[k]
            have hst := hexGo_step (acc := acc) hlt hks
            have hix := hexI_eq s[k]
            have hlb := lowZ_bd s[k]
            have hcl : ∀ w, Calls Tryz.prog 211 #[.string ⟨#[48, 49, 50, 51, 52, 53, 54, 55, 56, 57, 97, 98, 99, 100, 101, 102]⟩, .int .u8 (lowZ s[k])] w fun e w' => e = .returned (.int .i64 (hexI s[k])) ∧ w' = w := fun w => by
              have := Tryz.strings_IndexByte digits16 (lowZ s[k]) w
              rw [hix] at this
              exact this
            have HC := hid hcl
            have HL := hid (fun w => lower_any s[k] w)
            clear hcl hix
            cases hv : hexv s[k] with
            | none =>
              rw [hv] at hst
              have HR : Hid (fourN s.data.toList = none) := by rw [HF.out, HH.out, hst]; exact rfl
              have hxi : hexI s[k] = -1 := by unfold hexI; rw [hv]
              rw [hxi] at HC
              clear hst hv hxi
              go_wp2_with (first
                | (go_at_call 212; refine (HL.out _).mono ?_; rintro e w2 ⟨rfl, rfl⟩)
                | (go_at_call 211; refine (HC.out _).mono ?_; rintro e w2 ⟨rfl, rfl⟩))
              go_ret2
              exact ⟨by rw [HR.out]; rfl, rfl⟩
            | some m =>
              have hm := hexv_lt hv
              rw [hv] at hst
              have HR : Hid (hexGo 0 ((from_ s 2).take 4) = hexGo (acc * 16 + m) ((from_ s (k + 1)).take (6 - (k + 1)))) := by rw [HH.out, hst]; exact rfl
              have hxi : hexI s[k] = (m : Int) := by unfold hexI; rw [hv]
              rw [hxi] at HC
              have hacc2 : acc < 4096 := Nat.lt_of_lt_of_le hacc (Nat.pow_le_pow_right (n := 16) (by omega) (show k - 2 ≤ 3 by omega))
              have hor := or16 acc m (by omega) (by omega) (by omega) (by omega)
              have hacc3 : acc * 16 + m < 16 ^ (k + 1 - 2) := by
                rw [show k + 1 - 2 = (k - 2) + 1 by omega, Nat.pow_succ]
                omega
              clear hst hv hxi
              go_wp2_with (first
                | (go_at_call 212; refine (HL.out _).mono ?_; rintro e w2 ⟨rfl, rfl⟩)
                | (go_at_call 211; refine (HC.out _).mono ?_; rintro e w2 ⟨rfl, rfl⟩))
              go_round
              case rel => exact ⟨k + 1, acc * 16 + m, by omega, by omega, by go_num, by go_num, hacc3, HR⟩
              case measure => simp [intOf]; omega
          · have hkl : ¬ ((k : Int) < 6) := by omega
            have hke : k = 6 := by omega
            have HR : Hid (fourN s.data.toList = some acc) := by rw [HF.out, HH.out, hke]; exact rfl
            go_wp2_with fail
            go_ret2
            exact ⟨by rw [HR.out]; rfl, rfl⟩
      · have HF : Hid (fourN s.data.toList = none) := fourN_none (by
          rintro ⟨_, _, h⟩
          apply h1
          have e : s.data.toList.getD 1 0 = s[1] := by rw [← from_zero, from_lt s 0 (by omega), from_lt s 1 (by omega)]; rfl
          rw [e] at h
          rw [h]; rfl)
        have q0 : ((s[0].toNat : Int) != 92) = false := by simp; omega
        have q1 : ((s[1].toNat : Int) != 117) = true := by rw [bne_iff_ne]; omega
        clear h0 h1
        go_enter Tryz.func193, Tryz.ntmps193
        go_wp2_with fail
        go_ret2
        exact ⟨by rw [HF.out]; rfl, rfl⟩
    · have HF : Hid (fourN s.data.toList = none) := fourN_none (by
        rintro ⟨_, h, _⟩
        apply h0
        have e : s.data.toList.getD 0 0 = s[0] := by rw [← from_zero, from_lt s 0 (by omega)]; rfl
        rw [e] at h
        rw [h]; rfl)
      have q0 : ((s[0].toNat : Int) != 92) = true := by rw [bne_iff_ne]; omega
      clear h0
      go_enter Tryz.func193, Tryz.ntmps193
      go_wp2_with fail
      go_ret2
      exact ⟨by rw [HF.out]; rfl, rfl⟩
  · have HF : Hid (fourN s.data.toList = none) := fourN_none (by rw [length_data]; omega)
    have h6i : ((s.size : Int) < 6) := by omega
    clear h6
    go_enter Tryz.func193, Tryz.ntmps193
    go_wp2_with fail
    go_ret2
    exact ⟨by rw [HF.out]; rfl, rfl⟩

/-! ### escape16 -/
def escV : Option (Nat × Nat) → Value
  | some (p, k) => .tuple #[.int .i32 p, .int .i64 k]
  | none => .tuple #[.int .i32 0, .int .i64 0]
/-- escape16, plainly. -/
def esc16 (l : List UInt8) : Option (Nat × Nat) :=
  match fourN l with
  | none => none
  | some a => if a < 55296 ∨ 57343 < a then some (a, 6)
    else match fourN (l.drop 6) with
      | none => none
      | some b => if 56319 < a ∨ b < 56320 ∨ 57343 < b then none else some (65536 + (a - 55296) * 1024 + (b - 56320), 12)
theorem fourN_lt {l : List UInt8} {n : Nat} (h : fourN l = some n) : n < 65536 ∧ 6 ≤ l.length := by
  unfold fourN at h
  split at h
  · split at h
    · rename_i ha hb hc hd
      have := hexv_lt ha
      have := hexv_lt hb
      have := hexv_lt hc
      have := hexv_lt hd
      simp only [Option.some.injEq] at h
      exact ⟨by omega, by simp⟩
    · cases h
  · cases h

set_option maxRecDepth 100000 in
set_option maxHeartbeats 1000000 in
theorem escape16_any (s : ByteArray) (w : World) (hs : s.size ≤ 1099511627776) : Calls Tryz.prog 179 #[.string s] w fun e w' => e = .returned (escV (esc16 s.data.toList)) ∧ w' = w := by
  cases h1 : fourN s.data.toList with
  | none =>
    have HF : Hid (esc16 s.data.toList = none) := by unfold esc16; rw [h1]; exact rfl
    have HU : Hid (∀ w, Calls Tryz.prog 193 #[.string s] w fun e w' => e = .returned (.tuple #[.int .i32 0, .bool false]) ∧ w' = w) := fun w => by
      have := unit_any s w hs
      rw [h1] at this
      exact this
    clear h1
    go_enter Tryz.func179, Tryz.ntmps179
    go_wp2_with (go_at_call 193; refine (HU.out _).mono ?_; rintro e w2 ⟨rfl, rfl⟩)
    go_ret2
    exact ⟨by rw [HF.out]; rfl, rfl⟩
  | some a =>
    obtain ⟨ha, h6⟩ := fourN_lt h1
    rw [length_data] at h6
    have HU : Hid (∀ w, Calls Tryz.prog 193 #[.string s] w fun e w' => e = .returned (.tuple #[.int .i32 a, .bool true]) ∧ w' = w) := fun w => by
      have := unit_any s w hs
      rw [h1] at this
      exact this
    have h6i : (6 : Int) ≤ (s.size : Int) := by omega
    obtain ⟨s1, e1⟩ : ∃ s1, s.extract 6 s.size = s1 := ⟨_, rfl⟩
    obtain ⟨hl1, hz1⟩ := extk e1
    by_cases hr : a < 55296 ∨ 57343 < a
    · have HF : Hid (esc16 s.data.toList = some (a, 6)) := by unfold esc16; rw [h1]; simp only []; rw [if_pos hr]; exact rfl
      clear h1 hl1 hz1
      rcases hr with hr | hr
      · have q1 : ((a : Int) < 55296) := by omega
        go_enter Tryz.func179, Tryz.ntmps179
        go_wp2_with (go_at_call 193; refine (HU.out _).mono ?_; rintro e w2 ⟨rfl, rfl⟩)
        go_ret2
        exact ⟨by rw [HF.out]; rfl, rfl⟩
      · have q1 : ¬ ((a : Int) < 55296) := by omega
        have q2 : (57343 : Int) < (a : Int) := by omega
        go_enter Tryz.func179, Tryz.ntmps179
        go_wp2_with (go_at_call 193; refine (HU.out _).mono ?_; rintro e w2 ⟨rfl, rfl⟩)
        go_ret2
        exact ⟨by rw [HF.out]; rfl, rfl⟩
    · have q1 : ¬ ((a : Int) < 55296) := by omega
      have q2 : ¬ ((57343 : Int) < (a : Int)) := by omega
      cases h2 : fourN s1.data.toList with
      | none =>
        have HF : Hid (esc16 s.data.toList = none) := by unfold esc16; rw [h1]; simp only []; rw [if_neg hr, ← hl1, h2]; exact rfl
        have HU2 : Hid (∀ w, Calls Tryz.prog 193 #[.string s1] w fun e w' => e = .returned (.tuple #[.int .i32 0, .bool false]) ∧ w' = w) := fun w => by
          have := unit_any s1 w (by omega)
          rw [h2] at this
          exact this
        clear h1 h2 hl1 hz1 hr
        go_enter Tryz.func179, Tryz.ntmps179
        go_wp2_with fail
        refine (HU.out _).mono ?_
        rintro e w2 ⟨rfl, rfl⟩
        go_wp2_with fail
        refine (HU2.out _).mono ?_
        rintro e w3 ⟨rfl, rfl⟩
        go_wp2_with fail
        go_ret2
        exact ⟨by rw [HF.out]; rfl, rfl⟩
      | some b =>
        obtain ⟨hb, _⟩ := fourN_lt h2
        have HU2 : Hid (∀ w, Calls Tryz.prog 193 #[.string s1] w fun e w' => e = .returned (.tuple #[.int .i32 b, .bool true]) ∧ w' = w) := fun w => by
          have := unit_any s1 w (by omega)
          rw [h2] at this
          exact this
        by_cases hq : 56319 < a ∨ b < 56320 ∨ 57343 < b
        · have HF : Hid (esc16 s.data.toList = none) := by unfold esc16; rw [h1]; simp only []; rw [if_neg hr, ← hl1, h2]; simp only []; rw [if_pos hq]; exact rfl
          clear h1 h2 hl1 hz1 hr
          by_cases r1 : 56319 < a
          · have r1i : (56319 : Int) < (a : Int) := by omega
            have r1b : decide ((56319 : Int) < (a : Int)) = true := decide_eq_true r1i
            clear hq r1
            go_enter Tryz.func179, Tryz.ntmps179
            go_wp2_with fail
            refine (HU.out _).mono ?_
            rintro e w2 ⟨rfl, rfl⟩
            go_wp2_with fail
            refine (HU2.out _).mono ?_
            rintro e w3 ⟨rfl, rfl⟩
            go_wp2_with fail
            go_ret2
            exact ⟨by rw [HF.out]; rfl, rfl⟩
          · have r1i : ¬ ((56319 : Int) < (a : Int)) := by omega
            have r1b : decide ((56319 : Int) < (a : Int)) = false := decide_eq_false r1i
            have HQ : Hid (b < 56320 ∨ 57343 < b) := by
              have : b < 56320 ∨ 57343 < b := by omega
              exact this
            clear hq r1
            go_enter Tryz.func179, Tryz.ntmps179
            go_wp2_with fail
            refine (HU.out _).mono ?_
            rintro e w2 ⟨rfl, rfl⟩
            go_wp2_with fail
            refine (HU2.out _).mono ?_
            rintro e w3 ⟨rfl, rfl⟩
            go_wp2_with fail
            all_goals first
              | (go_ret2; exact ⟨by rw [HF.out]; rfl, rfl⟩)
              | (exfalso; have := HQ.out; omega)
        · have HF : Hid (esc16 s.data.toList = some (65536 + (a - 55296) * 1024 + (b - 56320), 12)) := by unfold esc16; rw [h1]; simp only []; rw [if_neg hr, ← hl1, h2]; simp only []; rw [if_neg hq]; exact rfl
          have r1 : ¬ ((56319 : Int) < (a : Int)) := by omega
          have r2 : ¬ ((b : Int) < 56320) := by omega
          have r3 : ¬ ((57343 : Int) < (b : Int)) := by omega
          have a0 : 55296 ≤ a := by omega
          have b0 : 56320 ≤ b := by omega
          have a1 : a ≤ 56319 := by omega
          have b1 : b ≤ 57343 := by omega
          clear h1 h2 hl1 hz1 hr hq
          go_enter Tryz.func179, Tryz.ntmps179
          go_wp2_with fail
          refine (HU.out _).mono ?_
          rintro e w2 ⟨rfl, rfl⟩
          go_wp2_with fail
          refine (HU2.out _).mono ?_
          rintro e w3 ⟨rfl, rfl⟩
          go_wp2_with fail
          go_ret2
          refine ⟨?_, rfl⟩
          rw [HF.out]
          have e : 65536 + ((a : Int) - 55296) * 1024 + ((b : Int) - 56320) = ((65536 + (a - 55296) * 1024 + (b - 56320) : Nat) : Int) := by omega
          show Ending.returned (.tuple #[.int .i32 (65536 + ((a : Int) - 55296) * 1024 + ((b : Int) - 56320)), .int .i64 12]) = _
          rw [e]
          rfl

theorem escP_cons (a c : UInt8) (r : List UInt8) : escP (a :: c :: r) =
    if c = 34 ∨ c = 92 ∨ c = 47 then some (c.toNat, 2)
    else if c = 98 then some (8, 2) else if c = 102 then some (12, 2) else if c = 110 then some (10, 2) else if c = 114 then some (13, 2) else if c = 116 then some (9, 2)
    else if c = 117 then esc16 (a :: c :: r) else none := rfl
theorem u8_toNat_ne {c : UInt8} {k : Nat} (h : c ≠ UInt8.ofNat k) : ¬ ((c.toNat : Int) = (k : Int)) := by
  intro e
  apply h
  have : c.toNat = k := by omega
  rw [← this]
  simp
theorem decide_chain (c : UInt8) : c = 34 ∨ c = 92 ∨ c = 47 ∨ c = 98 ∨ c = 102 ∨ c = 110 ∨ c = 114 ∨ c = 116 ∨ c = 117 ∨ (c ≠ 34 ∧ c ≠ 92 ∧ c ≠ 47 ∧ c ≠ 98 ∧ c ≠ 102 ∧ c ≠ 110 ∧ c ≠ 114 ∧ c ≠ 116 ∧ c ≠ 117) := by
  by_cases h1 : c = 34
  · exact .inl h1
  by_cases h2 : c = 92
  · exact .inr (.inl h2)
  by_cases h3 : c = 47
  · exact .inr (.inr (.inl h3))
  by_cases h4 : c = 98
  · exact .inr (.inr (.inr (.inl h4)))
  by_cases h5 : c = 102
  · exact .inr (.inr (.inr (.inr (.inl h5))))
  by_cases h6 : c = 110
  · exact .inr (.inr (.inr (.inr (.inr (.inl h6)))))
  by_cases h7 : c = 114
  · exact .inr (.inr (.inr (.inr (.inr (.inr (.inl h7))))))
  by_cases h8 : c = 116
  · exact .inr (.inr (.inr (.inr (.inr (.inr (.inr (.inl h8)))))))
  by_cases h9 : c = 117
  · exact .inr (.inr (.inr (.inr (.inr (.inr (.inr (.inr (.inl h9))))))))
  exact .inr (.inr (.inr (.inr (.inr (.inr (.inr (.inr (.inr ⟨h1, h2, h3, h4, h5, h6, h7, h8, h9⟩))))))))

set_option maxRecDepth 100000 in
set_option maxHeartbeats 1000000 in
theorem escape_any (s : ByteArray) (w : World) (hs : s.size ≤ 1099511627776) : Calls Tryz.prog 143 #[.string s] w fun e w' => e = .returned (escV (escP s.data.toList)) ∧ w' = w := by
  by_cases h2 : 2 ≤ s.size
  · have h2i : ¬ ((s.size : Int) < 2) := by omega
    have l1 : (1 : Int) < (s.size : Int) := by omega
    have hl : s.data.toList = s[0] :: s[1] :: from_ s 2 := by rw [← from_zero, from_lt s 0 (by omega), from_lt s 1 (by omega)]
    have he := escP_cons s[0] s[1] (from_ s 2)
    rw [← hl] at he
    have hxb := u8_bd s[1]
    rcases decide_chain s[1] with h | h | h | h | h | h | h | h | h | ⟨n1, n2, n3, n4, n5, n6, n7, n8, n9⟩
    · rw [h] at he
      have HF : Hid (escP s.data.toList = some (34, 2)) := he.trans rfl
      have hxv : (s[1].toNat : Int) = 34 := by rw [h]; rfl
      clear he h hl hxb
      go_enter Tryz.func143, Tryz.ntmps143
      go_wp2_with fail
      go_ret2
      exact ⟨by rw [HF.out]; rfl, rfl⟩
    · rw [h] at he
      have HF : Hid (escP s.data.toList = some (92, 2)) := he.trans rfl
      have hxv : (s[1].toNat : Int) = 92 := by rw [h]; rfl
      clear he h hl hxb
      go_enter Tryz.func143, Tryz.ntmps143
      go_wp2_with fail
      go_ret2
      exact ⟨by rw [HF.out]; rfl, rfl⟩
    · rw [h] at he
      have HF : Hid (escP s.data.toList = some (47, 2)) := he.trans rfl
      have hxv : (s[1].toNat : Int) = 47 := by rw [h]; rfl
      clear he h hl hxb
      go_enter Tryz.func143, Tryz.ntmps143
      go_wp2_with fail
      go_ret2
      exact ⟨by rw [HF.out]; rfl, rfl⟩
    · rw [h] at he
      have HF : Hid (escP s.data.toList = some (8, 2)) := he.trans rfl
      have hxv : (s[1].toNat : Int) = 98 := by rw [h]; rfl
      clear he h hl hxb
      go_enter Tryz.func143, Tryz.ntmps143
      go_wp2_with fail
      go_ret2
      exact ⟨by rw [HF.out]; rfl, rfl⟩
    · rw [h] at he
      have HF : Hid (escP s.data.toList = some (12, 2)) := he.trans rfl
      have hxv : (s[1].toNat : Int) = 102 := by rw [h]; rfl
      clear he h hl hxb
      go_enter Tryz.func143, Tryz.ntmps143
      go_wp2_with fail
      go_ret2
      exact ⟨by rw [HF.out]; rfl, rfl⟩
    · rw [h] at he
      have HF : Hid (escP s.data.toList = some (10, 2)) := he.trans rfl
      have hxv : (s[1].toNat : Int) = 110 := by rw [h]; rfl
      clear he h hl hxb
      go_enter Tryz.func143, Tryz.ntmps143
      go_wp2_with fail
      go_ret2
      exact ⟨by rw [HF.out]; rfl, rfl⟩
    · rw [h] at he
      have HF : Hid (escP s.data.toList = some (13, 2)) := he.trans rfl
      have hxv : (s[1].toNat : Int) = 114 := by rw [h]; rfl
      clear he h hl hxb
      go_enter Tryz.func143, Tryz.ntmps143
      go_wp2_with fail
      go_ret2
      exact ⟨by rw [HF.out]; rfl, rfl⟩
    · rw [h] at he
      have HF : Hid (escP s.data.toList = some (9, 2)) := he.trans rfl
      have hxv : (s[1].toNat : Int) = 116 := by rw [h]; rfl
      clear he h hl hxb
      go_enter Tryz.func143, Tryz.ntmps143
      go_wp2_with fail
      go_ret2
      exact ⟨by rw [HF.out]; rfl, rfl⟩
    · rw [h] at he
      have hxv : (s[1].toNat : Int) = 117 := by rw [h]; rfl
      have hu := fun w => escape16_any s w hs
      have he2 : escP s.data.toList = esc16 s.data.toList := he.trans rfl
      clear he h hl hxb
      cases hes : esc16 s.data.toList with
      | none =>
        rw [hes] at he2 hu
        have HF := hid he2
        have HU : Hid (∀ w, Calls Tryz.prog 179 #[.string s] w fun e w' => e = .returned (.tuple #[.int .i32 0, .int .i64 0]) ∧ w' = w) := hu
        clear hes he2 hu
        go_enter Tryz.func143, Tryz.ntmps143
        go_wp2_with (go_at_call 179; refine (HU.out _).mono ?_; rintro e w2 ⟨rfl, rfl⟩)
        go_ret2
        exact ⟨by rw [HF.out]; rfl, rfl⟩
      | some pk =>
        obtain ⟨p, k⟩ := pk
        rw [hes] at he2 hu
        have HF := hid he2
        have HU : Hid (∀ w, Calls Tryz.prog 179 #[.string s] w fun e w' => e = .returned (.tuple #[.int .i32 p, .int .i64 k]) ∧ w' = w) := hu
        clear hes he2 hu
        go_enter Tryz.func143, Tryz.ntmps143
        go_wp2_with (go_at_call 179; refine (HU.out _).mono ?_; rintro e w2 ⟨rfl, rfl⟩)
        go_ret2
        exact ⟨by rw [HF.out]; rfl, rfl⟩
    · rw [if_neg (by rintro (h | h | h); exact n1 h; exact n2 h; exact n3 h), if_neg n4, if_neg n5, if_neg n6, if_neg n7, if_neg n8, if_neg n9] at he
      have HF : Hid (escP s.data.toList = none) := he
      obtain ⟨x, hx⟩ : ∃ x : Int, (s[1].toNat : Int) = x := ⟨_, rfl⟩
      have p1 : (x == 34) = false := beq_eq_false_iff_ne.2 (by rw [← hx]; exact u8_toNat_ne (k := 34) n1)
      have p2 : (x == 92) = false := beq_eq_false_iff_ne.2 (by rw [← hx]; exact u8_toNat_ne (k := 92) n2)
      have p3 : (x == 47) = false := beq_eq_false_iff_ne.2 (by rw [← hx]; exact u8_toNat_ne (k := 47) n3)
      have p4 : (x == 98) = false := beq_eq_false_iff_ne.2 (by rw [← hx]; exact u8_toNat_ne (k := 98) n4)
      have p5 : (x == 102) = false := beq_eq_false_iff_ne.2 (by rw [← hx]; exact u8_toNat_ne (k := 102) n5)
      have p6 : (x == 110) = false := beq_eq_false_iff_ne.2 (by rw [← hx]; exact u8_toNat_ne (k := 110) n6)
      have p7 : (x == 114) = false := beq_eq_false_iff_ne.2 (by rw [← hx]; exact u8_toNat_ne (k := 114) n7)
      have p8 : (x == 116) = false := beq_eq_false_iff_ne.2 (by rw [← hx]; exact u8_toNat_ne (k := 116) n8)
      have p9 : (x == 117) = false := beq_eq_false_iff_ne.2 (by rw [← hx]; exact u8_toNat_ne (k := 117) n9)
      clear he hl n1 n2 n3 n4 n5 n6 n7 n8 n9 hxb
      go_enter Tryz.func143, Tryz.ntmps143
      go_wp2_with fail
      go_ret2
      exact ⟨by rw [HF.out]; rfl, rfl⟩
  · have HF : Hid (escP s.data.toList = none) := by
      have hl : s.data.toList.length < 2 := by rw [length_data]; omega
      match hm : s.data.toList, hl with
      | [], _ => exact rfl
      | [_], _ => exact rfl
      | _ :: _ :: _, hl => simp at hl; omega
    have h2i : ((s.size : Int) < 2) := by omega
    go_enter Tryz.func143, Tryz.ntmps143
    go_wp2_with fail
    go_ret2
    exact ⟨by rw [HF.out]; rfl, rfl⟩

set_option maxHeartbeats 400000 in
theorem isBadByte_any (s : ByteArray) (w : World) (hG : Glob w) (h0 : 0 < s.size) : Calls Tryz.prog 145 #[.string s] w fun e w' => e = .returned (.bool (decide ((Lib.decodeL s.data.toList).2 = 1))) ∧ w.grownBy w' none := by
  have hd : Lib.decodeGo s = Lib.decodeL s.data.toList := by
    unfold Lib.decodeGo
    rw [if_neg (by omega)]
    have := Lib.decodeL_drop s 0
    rw [List.drop_zero] at this
    exact this.symm
  have HD := hid hd
  obtain ⟨k, hk⟩ : ∃ k, (Lib.decodeL s.data.toList).2 = k := ⟨_, rfl⟩
  rw [hk]
  have HK := hid hk
  clear hk hd
  go_enter Tryz.func145, Tryz.ntmps145
  go_wp2_with fail
  refine (Tryz.utf8_DecodeRuneInString s w hG.here.1).mono ?_
  rintro e w1 ⟨rfl, hb⟩
  rw [HD.out, HK.out]
  generalize (Lib.decodeL s.data.toList).1 = r
  go_wp2_with fail
  go_ret
  refine ⟨?_, gof hb none⟩
  show Ending.returned (.bool ((k : Int) == 1)) = _
  congr 2
  by_cases h : k = 1
  · subst h; rfl
  · rw [decide_eq_false h, beq_eq_false_iff_ne]; omega
end Go.Proofs.YtdmnhkgiojkphaaGreatDoor
