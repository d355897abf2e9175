/- Plain facts: what is read is a tree no deeper than was asked for, and its text is not much longer than what was read. -/
import Derived.Test.YtdmnhkgiojkphaaGreatDoorTreeS
namespace Go.Proofs.YtdmnhkgiojkphaaGreatDoor
open Go

/-- How many escapes of two bytes stand in it that are printed by six. -/
def bf : List UInt8 → Nat
  | [] => 0
  | [_] => 0
  | a :: b :: r => (if a = 92 ∧ (b = 98 ∨ b = 102) then 1 else 0) + bf (b :: r)
theorem bf_cons (a : UInt8) (q : List UInt8) : bf q ≤ bf (a :: q) := by
  cases q with
  | nil => simp [bf]
  | cons b r => rw [bf]; omega
theorem bf_append : ∀ (p q : List UInt8), bf p + bf q ≤ bf (p ++ q)
  | [], q => by simp [bf]
  | [a], q => by have := bf_cons a q; simp [bf]; exact this
  | a :: b :: r, q => by
    have := bf_append (b :: r) q
    rw [bf]
    show _ ≤ bf (a :: b :: (r ++ q))
    rw [bf]
    have e : b :: r ++ q = b :: (r ++ q) := rfl
    rw [e] at this
    omega

/-! ### runes -/
theorem enc2 (p : Nat) (h0 : 128 ≤ p) (h1 : p ≤ 2047) : Lib.encodeRune (p : Int) = [UInt8.ofNat (192 + p / 64), UInt8.ofNat (128 + p % 64)] := by
  unfold Lib.encodeRune
  rw [Lib.encodeRuneZ_two (by omega) (by omega)]
  have e1 : (192 + (p : Int) / 64).toNat = 192 + p / 64 := by omega
  have e2 : (128 + (p : Int) % 64).toNat = 128 + p % 64 := by omega
  simp only [List.map_cons, List.map_nil, e1, e2]
theorem enc3 (p : Nat) (h : (2048 ≤ p ∧ p < 55296) ∨ (57343 < p ∧ p ≤ 65535)) : Lib.encodeRune (p : Int) = [UInt8.ofNat (224 + p / 4096), UInt8.ofNat (128 + p / 64 % 64), UInt8.ofNat (128 + p % 64)] := by
  unfold Lib.encodeRune
  rw [Lib.encodeRuneZ_three (by omega)]
  have e1 : (224 + (p : Int) / 4096).toNat = 224 + p / 4096 := by omega
  have e2 : (128 + (p : Int) / 64 % 64).toNat = 128 + p / 64 % 64 := by omega
  have e3 : (128 + (p : Int) % 64).toNat = 128 + p % 64 := by omega
  simp only [List.map_cons, List.map_nil, e1, e2, e3]
theorem enc4 (p : Nat) (h0 : 65536 ≤ p) (h1 : p ≤ 1114111) : Lib.encodeRune (p : Int) = [UInt8.ofNat (240 + p / 262144), UInt8.ofNat (128 + p / 4096 % 64), UInt8.ofNat (128 + p / 64 % 64), UInt8.ofNat (128 + p % 64)] := by
  unfold Lib.encodeRune
  rw [Lib.encodeRuneZ_four (by omega) (by omega)]
  have e1 : (240 + (p : Int) / 262144).toNat = 240 + p / 262144 := by omega
  have e2 : (128 + (p : Int) / 4096 % 64).toNat = 128 + p / 4096 % 64 := by omega
  have e3 : (128 + (p : Int) / 64 % 64).toNat = 128 + p / 64 % 64 := by omega
  have e4 : (128 + (p : Int) % 64).toNat = 128 + p % 64 := by omega
  simp only [List.map_cons, List.map_nil, e1, e2, e3, e4]
theorem byteN (n : Nat) (h : n < 256) : (UInt8.ofNat n).toNat = n := by simp; omega
/-- A code point that may be: its bytes are good, whatever good bytes follow; and they are told by no more than so many. -/
theorem enc_valid (p : Nat) (h : p < 55296 ∨ (57343 < p ∧ p ≤ 1114111)) (t : List UInt8) : Lib.validD (Lib.encodeRune (p : Int) ++ t) = Lib.validD t := by
  by_cases h1 : p < 128
  · rw [encode_ascii p h1]
    exact Lib.validD_cons _ _ (by rw [byteN _ (by omega)]; exact h1)
  · by_cases h2 : p ≤ 2047
    · rw [enc2 p (by omega) h2]
      have hd : Lib.decodeL ([UInt8.ofNat (192 + p / 64), UInt8.ofNat (128 + p % 64)] ++ t) = (p, 2) := by
        rw [Lib.decodeL_N]
        simp only [List.cons_append, List.nil_append, List.getD_cons_zero, List.getD_cons_succ, List.length_cons]
        rw [byteN _ (show 192 + p / 64 < 256 by omega), byteN _ (show 128 + p % 64 < 256 by omega)]
        unfold Lib.decodeN
        rw [if_neg (by omega), if_pos ⟨by omega, by omega, by omega⟩, if_pos (by omega)]
        exact Prod.ext (by show _ = p; omega) rfl
      rw [Lib.validD_step _ (by simp), hd, if_neg (by simp)]
      rfl
    · by_cases h3 : p ≤ 65535
      · rw [enc3 p (by omega)]
        have hd : Lib.decodeL ([UInt8.ofNat (224 + p / 4096), UInt8.ofNat (128 + p / 64 % 64), UInt8.ofNat (128 + p % 64)] ++ t) = (p, 3) := by
          rw [Lib.decodeL_N]
          simp only [List.cons_append, List.nil_append, List.getD_cons_zero, List.getD_cons_succ, List.length_cons]
          rw [byteN _ (show 224 + p / 4096 < 256 by omega), byteN _ (show 128 + p / 64 % 64 < 256 by omega), byteN _ (show 128 + p % 64 < 256 by omega)]
          unfold Lib.decodeN
          rw [if_neg (by omega), if_neg (by omega), if_pos ⟨by omega, ⟨by omega, by omega⟩, by omega, by omega⟩, if_pos ⟨by omega, by omega⟩]
          exact Prod.ext (by show _ = p; omega) rfl
        rw [Lib.validD_step _ (by simp), hd, if_neg (by simp)]
        rfl
      · rw [enc4 p (by omega) (by omega)]
        have hd : Lib.decodeL ([UInt8.ofNat (240 + p / 262144), UInt8.ofNat (128 + p / 4096 % 64), UInt8.ofNat (128 + p / 64 % 64), UInt8.ofNat (128 + p % 64)] ++ t) = (p, 4) := by
          rw [Lib.decodeL_N]
          simp only [List.cons_append, List.nil_append, List.getD_cons_zero, List.getD_cons_succ, List.length_cons]
          rw [byteN _ (show 240 + p / 262144 < 256 by omega), byteN _ (show 128 + p / 4096 % 64 < 256 by omega), byteN _ (show 128 + p / 64 % 64 < 256 by omega), byteN _ (show 128 + p % 64 < 256 by omega)]
          unfold Lib.decodeN
          rw [if_neg (by omega), if_neg (by omega), if_neg (by omega), if_pos ⟨by omega, ⟨by omega, by omega⟩, ⟨by omega, by omega⟩, by omega, by omega⟩, if_pos ⟨by omega, by omega⟩]
          exact Prod.ext (by show _ = p; omega) rfl
        rw [Lib.validD_step _ (by simp), hd, if_neg (by simp)]
        rfl
theorem escB_le (b : UInt8) : (escB b).length ≤ 6 := by
  unfold escB
  repeat' split
  all_goals simp
/-- How long a code point is printed. -/
theorem enc_long (p : Nat) (h : p < 55296 ∨ (57343 < p ∧ p ≤ 1114111)) : (escL (Lib.encodeRune (p : Int))).length ≤ 6 := by
  by_cases h1 : p < 128
  · rw [encode_ascii p h1]
    simp only [escL, List.flatMap_cons, List.flatMap_nil, List.append_nil]
    exact escB_le _
  · have hh : ∀ n, 128 ≤ n → n < 256 → 128 ≤ (UInt8.ofNat n).toNat := fun n h0 h1 => by rw [byteN n h1]; exact h0
    by_cases h2 : p ≤ 2047
    · rw [enc2 p (by omega) h2, escL_high]
      · simp
      · intro b hb
        simp only [List.mem_cons, List.not_mem_nil, or_false] at hb
        rcases hb with rfl | rfl <;> exact hh _ (by omega) (by omega)
    · by_cases h3 : p ≤ 65535
      · rw [enc3 p (by omega), escL_high]
        · simp
        · intro b hb
          simp only [List.mem_cons, List.not_mem_nil, or_false] at hb
          rcases hb with rfl | rfl | rfl <;> exact hh _ (by omega) (by omega)
      · rw [enc4 p (by omega) (by omega), escL_high]
        · simp
        · intro b hb
          simp only [List.mem_cons, List.not_mem_nil, or_false] at hb
          rcases hb with rfl | rfl | rfl | rfl <;> exact hh _ (by omega) (by omega)

/-! ### escapes -/
theorem hexv_ltO {b : UInt8} {v : Nat} (h : hexv b = some v) : v < 16 := by
  unfold hexv at h
  repeat' split at h
  all_goals first | (cases h; done) | (simp only [Option.some.injEq] at h; omega)
theorem fourN_ltO {l : List UInt8} {a : Nat} (h : fourN l = some a) : a ≤ 65535 ∧ 6 ≤ l.length := by
  unfold fourN at h
  split at h
  · split at h
    · rename_i ha hb hc hd
      have := hexv_ltO ha
      have := hexv_ltO hb
      have := hexv_ltO hc
      have := hexv_ltO hd
      simp only [Option.some.injEq] at h
      exact ⟨by omega, by simp⟩
    · cases h
  · cases h
theorem escP_long {r : List UInt8} {p w : Nat} (h : escP (92 :: r) = some (p, w)) :
    w ≤ (92 :: r).length ∧ (p < 55296 ∨ (57343 < p ∧ p ≤ 1114111)) ∧ (escL (Lib.encodeRune (p : Int))).length ≤ w + 4 * bf ((92 :: r).take w) := by
  cases r with
  | nil => cases h
  | cons c q =>
    have one : ∀ k : Nat, k < 128 → (escL (Lib.encodeRune (k : Int))) = escB (UInt8.ofNat k) := by
      intro k hk
      rw [encode_ascii k hk]
      simp [escL]
    unfold escP at h
    simp only [] at h
    split at h
    · rename_i hc
      simp only [Option.some.injEq, Prod.mk.injEq] at h
      obtain ⟨rfl, rfl⟩ := h
      rcases hc with rfl | rfl | rfl
      · exact ⟨by simp, by decide, by rw [one _ (by decide)]; simp [escB]⟩
      · exact ⟨by simp, by decide, by rw [one _ (by decide)]; simp [escB]⟩
      · exact ⟨by simp, by decide, by rw [one _ (by decide)]; simp [escB]; omega⟩
    · split at h
      · rename_i hc
        simp only [Option.some.injEq, Prod.mk.injEq] at h
        obtain ⟨rfl, rfl⟩ := h
        subst hc
        exact ⟨by simp, by decide, by rw [one _ (by decide)]; simp [bf]; exact Nat.le_trans (escB_le _) (by omega)⟩
      · split at h
        · rename_i hc
          simp only [Option.some.injEq, Prod.mk.injEq] at h
          obtain ⟨rfl, rfl⟩ := h
          subst hc
          exact ⟨by simp, by decide, by rw [one _ (by decide)]; simp [bf]; exact Nat.le_trans (escB_le _) (by omega)⟩
        · split at h
          · simp only [Option.some.injEq, Prod.mk.injEq] at h
            obtain ⟨rfl, rfl⟩ := h
            exact ⟨by simp, by decide, by rw [one _ (by decide)]; simp [escB]⟩
          · split at h
            · simp only [Option.some.injEq, Prod.mk.injEq] at h
              obtain ⟨rfl, rfl⟩ := h
              exact ⟨by simp, by decide, by rw [one _ (by decide)]; simp [escB]⟩
            · split at h
              · simp only [Option.some.injEq, Prod.mk.injEq] at h
                obtain ⟨rfl, rfl⟩ := h
                exact ⟨by simp, by decide, by rw [one _ (by decide)]; simp [escB]⟩
              · split at h
                · split at h
                  · cases h
                  · rename_i a ha
                    have hl := fourN_ltO ha
                    split at h
                    · simp only [Option.some.injEq, Prod.mk.injEq] at h
                      obtain ⟨rfl, rfl⟩ := h
                      exact ⟨hl.2, by omega, Nat.le_trans (enc_long _ (by omega)) (by omega)⟩
                    · split at h
                      · cases h
                      · rename_i b hb
                        have hl2 := fourN_ltO hb
                        split at h
                        · cases h
                        · simp only [Option.some.injEq, Prod.mk.injEq] at h
                          obtain ⟨rfl, rfl⟩ := h
                          have hl3 := hl2.2
                          rw [List.length_drop] at hl3
                          exact ⟨by omega, by omega, Nat.le_trans (enc_long _ (by omega)) (by omega)⟩
                · cases h

/-- What a text says is good, and is told by not much more than what was read. -/
theorem unquote_long : ∀ (n : Nat) (l t r : List UInt8), l.length ≤ n → unquote l = some (t, r) → Lib.validD t = true ∧ ∃ p, l = p ++ r ∧ (escL t).length + 1 ≤ p.length + 4 * bf p
  | 0, l, t, r, h, hu => by
    have : l = [] := List.eq_nil_of_length_eq_zero (by omega)
    subst this; cases hu
  | n + 1, [], t, r, _, hu => by cases hu
  | n + 1, c :: q, t, r, h, hu => by
    simp only [List.length_cons] at h
    have step : ∀ (w : Nat) (p : List UInt8), 1 ≤ w → w ≤ (c :: q).length → (∀ x, Lib.validD x = true → Lib.validD (p ++ x) = true) → (escL p).length ≤ w + 4 * bf ((c :: q).take w) →
        addFront p (unquote ((c :: q).drop w)) = some (t, r) → Lib.validD t = true ∧ ∃ p, c :: q = p ++ r ∧ (escL t).length + 1 ≤ p.length + 4 * bf p := by
      intro w p hw hwl hp hlen hs
      cases hd : unquote ((c :: q).drop w) with
      | none => rw [hd] at hs; cases hs
      | some tr =>
        obtain ⟨t', r'⟩ := tr
        rw [hd] at hs
        simp only [addFront, Option.some.injEq, Prod.mk.injEq] at hs
        obtain ⟨rfl, rfl⟩ := hs
        obtain ⟨hv, p', hp', hl⟩ := unquote_long n _ _ _ (by rw [List.length_drop, List.length_cons]; omega) hd
        refine ⟨hp _ hv, (c :: q).take w ++ p', ?_, ?_⟩
        · rw [List.append_assoc, ← hp', List.take_append_drop]
        · have hb := bf_append ((c :: q).take w) p'
          have ht : ((c :: q).take w).length = w := by rw [List.length_take]; omega
          rw [escL_append, List.length_append, List.length_append, ht]
          omega
    rw [unquote_cons] at hu
    split at hu
    · simp only [Option.some.injEq, Prod.mk.injEq] at hu
      obtain ⟨rfl, rfl⟩ := hu
      exact ⟨rfl, [c], rfl, by simp [escL]⟩
    · split at hu
      · rename_i hc
        subst hc
        split at hu
        · cases hu
        · rename_i p w he
          have hw := escP_width he
          obtain ⟨h1, h2, h3⟩ := escP_long he
          exact step w _ (by omega) h1 (fun x hx => by rw [enc_valid p h2]; exact hx) h3 hu
      · split at hu
        · cases hu
        · rename_i h34 h92 hbad
          have hne : c :: q ≠ [] := by simp
          have hw := Lib.decodeL_width (c :: q)
          have hle := Lib.decodeL_le (c :: q) hne
          have hb : ¬ ((Lib.decodeL (c :: q)).1 = 65533 ∧ (Lib.decodeL (c :: q)).2 = 1) := fun hh => hbad (.inr hh)
          refine step _ _ hw hle (fun x hx => ?_) ?_ hu
          · have hf := decodeL_front (c :: q) x hne hb
            have hlen : ((c :: q).take (Lib.decodeL (c :: q)).2).length = (Lib.decodeL (c :: q)).2 := by rw [List.length_take]; omega
            rw [Lib.validD_step _ (by intro h0; have := congrArg List.length h0; rw [List.length_append, hlen] at this; simp at this; omega), hf, if_neg hb]
            rw [List.drop_append_of_le_length (by omega), List.drop_eq_nil_of_le (by omega)]
            exact hx
          · by_cases hc : c.toNat < 128
            · rw [Lib.decodeL_ascii c q hc]
              have e : escB c = [c] := by
                unfold escB
                have hge : ¬ c.toNat < 32 := fun hh => hbad (.inl hh)
                have ne : ∀ k : UInt8, k.toNat < 32 → c ≠ k := fun k hk hh => by subst hh; exact hge hk
                rw [if_neg (by intro hh; rcases hh with hh | hh; exact h34 hh; exact h92 hh), if_neg (ne 10 (by decide)), if_neg (ne 13 (by decide)), if_neg (ne 9 (by decide)), if_neg hge]
              simp [escL, e]
            · have hhi := decodeL_high (c :: q) hne hb (by simp; omega)
              rw [escL_high _ hhi, List.length_take]
              omega
end Go.Proofs.YtdmnhkgiojkphaaGreatDoor
