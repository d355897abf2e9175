/- Plain facts: what is read is a tree no deeper than was asked for, and its text is not much longer than what was read. -/
import Derived.Test.YtdmnhkgiojkphaaGreatDoorTreeS
namespace Go.Proofs.YtdmnhkgiojkphaaGreatDoor
open Go

/-- How many escapes of two bytes stand in it that are printed by six. -/
def bf : List UInt8 → Nat
  | [] => 0
  | [_] => 0
  | a :: b :: r => (if a = 92 ∧ (b = 98 ∨ b = 102) then 1 else 0) + bf (b :: r)
theorem bf_cons (a : UInt8) (q : List UInt8) : bf q ≤ bf (a :: q) := by
  cases q with
  | nil => simp [bf]
  | cons b r => rw [bf]; omega
theorem bf_append : ∀ (p q : List UInt8), bf p + bf q ≤ bf (p ++ q)
  | [], q => by simp [bf]
  | [a], q => by have := bf_cons a q; simp [bf]; exact this
  | a :: b :: r, q => by
    have := bf_append (b :: r) q
    rw [bf]
    show _ ≤ bf (a :: b :: (r ++ q))
    rw [bf]
    have e : b :: r ++ q = b :: (r ++ q) := rfl
    rw [e] at this
    omega

/-! ### runes -/
theorem enc2 (p : Nat) (h0 : 128 ≤ p) (h1 : p ≤ 2047) : Lib.encodeRune (p : Int) = [UInt8.ofNat (192 + p / 64), UInt8.ofNat (128 + p % 64)] := by
  unfold Lib.encodeRune
  rw [Lib.encodeRuneZ_two (by omega) (by omega)]
  have e1 : (192 + (p : Int) / 64).toNat = 192 + p / 64 := by omega
  have e2 : (128 + (p : Int) % 64).toNat = 128 + p % 64 := by omega
  simp only [List.map_cons, List.map_nil, e1, e2]
theorem enc3 (p : Nat) (h : (2048 ≤ p ∧ p < 55296) ∨ (57343 < p ∧ p ≤ 65535)) : Lib.encodeRune (p : Int) = [UInt8.ofNat (224 + p / 4096), UInt8.ofNat (128 + p / 64 % 64), UInt8.ofNat (128 + p % 64)] := by
  unfold Lib.encodeRune
  rw [Lib.encodeRuneZ_three (by omega)]
  have e1 : (224 + (p : Int) / 4096).toNat = 224 + p / 4096 := by omega
  have e2 : (128 + (p : Int) / 64 % 64).toNat = 128 + p / 64 % 64 := by omega
  have e3 : (128 + (p : Int) % 64).toNat = 128 + p % 64 := by omega
  simp only [List.map_cons, List.map_nil, e1, e2, e3]
theorem enc4 (p : Nat) (h0 : 65536 ≤ p) (h1 : p ≤ 1114111) : Lib.encodeRune (p : Int) = [UInt8.ofNat (240 + p / 262144), UInt8.ofNat (128 + p / 4096 % 64), UInt8.ofNat (128 + p / 64 % 64), UInt8.ofNat (128 + p % 64)] := by
  unfold Lib.encodeRune
  rw [Lib.encodeRuneZ_four (by omega) (by omega)]
  have e1 : (240 + (p : Int) / 262144).toNat = 240 + p / 262144 := by omega
  have e2 : (128 + (p : Int) / 4096 % 64).toNat = 128 + p / 4096 % 64 := by omega
  have e3 : (128 + (p : Int) / 64 % 64).toNat = 128 + p / 64 % 64 := by omega
  have e4 : (128 + (p : Int) % 64).toNat = 128 + p % 64 := by omega
  simp only [List.map_cons, List.map_nil, e1, e2, e3, e4]
theorem byteN (n : Nat) (h : n < 256) : (UInt8.ofNat n).toNat = n := by simp; omega
/-- A code point that may be: its bytes are good, whatever good bytes follow; and they are told by no more than so many. -/
theorem enc_valid (p : Nat) (h : p < 55296 ∨ (57343 < p ∧ p ≤ 1114111)) (t : List UInt8) : Lib.validD (Lib.encodeRune (p : Int) ++ t) = Lib.validD t := by
  by_cases h1 : p < 128
  · rw [encode_ascii p h1]
    exact Lib.validD_cons _ _ (by rw [byteN _ (by omega)]; exact h1)
  · by_cases h2 : p ≤ 2047
    · rw [enc2 p (by omega) h2]
      have hd : Lib.decodeL ([UInt8.ofNat (192 + p / 64), UInt8.ofNat (128 + p % 64)] ++ t) = (p, 2) := by
        rw [Lib.decodeL_N]
        simp only [List.cons_append, List.nil_append, List.getD_cons_zero, List.getD_cons_succ, List.length_cons]
        rw [byteN _ (show 192 + p / 64 < 256 by omega), byteN _ (show 128 + p % 64 < 256 by omega)]
        unfold Lib.decodeN
        rw [if_neg (by omega), if_pos ⟨by omega, by omega, by omega⟩, if_pos (by omega)]
        exact Prod.ext (by show _ = p; omega) rfl
      rw [Lib.validD_step _ (by simp), hd, if_neg (by simp)]
      rfl
    · by_cases h3 : p ≤ 65535
      · rw [enc3 p (by omega)]
        have hd : Lib.decodeL ([UInt8.ofNat (224 + p / 4096), UInt8.ofNat (128 + p / 64 % 64), UInt8.ofNat (128 + p % 64)] ++ t) = (p, 3) := by
          rw [Lib.decodeL_N]
          simp only [List.cons_append, List.nil_append, List.getD_cons_zero, List.getD_cons_succ, List.length_cons]
          rw [byteN _ (show 224 + p / 4096 < 256 by omega), byteN _ (show 128 + p / 64 % 64 < 256 by omega), byteN _ (show 128 + p % 64 < 256 by omega)]
          unfold Lib.decodeN
          rw [if_neg (by omega), if_neg (by omega), if_pos ⟨by omega, ⟨by omega, by omega⟩, by omega, by omega⟩, if_pos ⟨by omega, by omega⟩]
          exact Prod.ext (by show _ = p; omega) rfl
        rw [Lib.validD_step _ (by simp), hd, if_neg (by simp)]
        rfl
      · rw [enc4 p (by omega) (by omega)]
        have hd : Lib.decodeL ([UInt8.ofNat (240 + p / 262144), UInt8.ofNat (128 + p / 4096 % 64), UInt8.ofNat (128 + p / 64 % 64), UInt8.ofNat (128 + p % 64)] ++ t) = (p, 4) := by
          rw [Lib.decodeL_N]
          simp only [List.cons_append, List.nil_append, List.getD_cons_zero, List.getD_cons_succ, List.length_cons]
          rw [byteN _ (show 240 + p / 262144 < 256 by omega), byteN _ (show 128 + p / 4096 % 64 < 256 by omega), byteN _ (show 128 + p / 64 % 64 < 256 by omega), byteN _ (show 128 + p % 64 < 256 by omega)]
          unfold Lib.decodeN
          rw [if_neg (by omega), if_neg (by omega), if_neg (by omega), if_pos ⟨by omega, ⟨by omega, by omega⟩, ⟨by omega, by omega⟩, by omega, by omega⟩, if_pos ⟨by omega, by omega⟩]
          exact Prod.ext (by show _ = p; omega) rfl
        rw [Lib.validD_step _ (by simp), hd, if_neg (by simp)]
        rfl
theorem escB_le (b : UInt8) : (escB b).length ≤ 6 := by
  unfold escB
  repeat' split
  all_goals simp
/-- How long a code point is printed. -/
theorem enc_long (p : Nat) (h : p < 55296 ∨ (57343 < p ∧ p ≤ 1114111)) : (escL (Lib.encodeRune (p : Int))).length ≤ 6 := by
  by_cases h1 : p < 128
  · rw [encode_ascii p h1]
    simp only [escL, List.flatMap_cons, List.flatMap_nil, List.append_nil]
    exact escB_le _
  · have hh : ∀ n, 128 ≤ n → n < 256 → 128 ≤ (UInt8.ofNat n).toNat := fun n h0 h1 => by rw [byteN n h1]; exact h0
    by_cases h2 : p ≤ 2047
    · rw [enc2 p (by omega) h2, escL_high]
      · simp
      · intro b hb
        simp only [List.mem_cons, List.not_mem_nil, or_false] at hb
        rcases hb with rfl | rfl <;> exact hh _ (by omega) (by omega)
    · by_cases h3 : p ≤ 65535
      · rw [enc3 p (by omega), escL_high]
        · simp
        · intro b hb
          simp only [List.mem_cons, List.not_mem_nil, or_false] at hb
          rcases hb with rfl | rfl | rfl <;> exact hh _ (by omega) (by omega)
      · rw [enc4 p (by omega) (by omega), escL_high]
        · simp
        · intro b hb
          simp only [List.mem_cons, List.not_mem_nil, or_false] at hb
          rcases hb with rfl | rfl | rfl | rfl <;> exact hh _ (by omega) (by omega)

/-! ### escapes -/
theorem hexv_ltO {b : UInt8} {v : Nat} (h : hexv b = some v) : v < 16 := by
  unfold hexv at h
  repeat' split at h
  all_goals first | (cases h; done) | (simp only [Option.some.injEq] at h; omega)
theorem fourN_ltO {l : List UInt8} {a : Nat} (h : fourN l = some a) : a ≤ 65535 ∧ 6 ≤ l.length := by
  unfold fourN at h
  split at h
  · split at h
    · rename_i ha hb hc hd
      have := hexv_ltO ha
      have := hexv_ltO hb
      have := hexv_ltO hc
      have := hexv_ltO hd
      simp only [Option.some.injEq] at h
      exact ⟨by omega, by simp⟩
    · cases h
  · cases h
theorem escP_long {r : List UInt8} {p w : Nat} (h : escP (92 :: r) = some (p, w)) :
    w ≤ (92 :: r).length ∧ (p < 55296 ∨ (57343 < p ∧ p ≤ 1114111)) ∧ (escL (Lib.encodeRune (p : Int))).length ≤ w + 4 * bf ((92 :: r).take w) := by
  cases r with
  | nil => cases h
  | cons c q =>
    have one : ∀ k : Nat, k < 128 → (escL (Lib.encodeRune (k : Int))) = escB (UInt8.ofNat k) := by
      intro k hk
      rw [encode_ascii k hk]
      simp [escL]
    unfold escP at h
    simp only [] at h
    split at h
    · rename_i hc
      simp only [Option.some.injEq, Prod.mk.injEq] at h
      obtain ⟨rfl, rfl⟩ := h
      rcases hc with rfl | rfl | rfl
      · exact ⟨by simp, by decide, by rw [one _ (by decide)]; simp [escB]⟩
      · exact ⟨by simp, by decide, by rw [one _ (by decide)]; simp [escB]⟩
      · exact ⟨by simp, by decide, by rw [one _ (by decide)]; simp [escB]; omega⟩
    · split at h
      · rename_i hc
        simp only [Option.some.injEq, Prod.mk.injEq] at h
        obtain ⟨rfl, rfl⟩ := h
        subst hc
        exact ⟨by simp, by decide, by rw [one _ (by decide)]; simp [bf]; exact Nat.le_trans (escB_le _) (by omega)⟩
      · split at h
        · rename_i hc
          simp only [Option.some.injEq, Prod.mk.injEq] at h
          obtain ⟨rfl, rfl⟩ := h
          subst hc
          exact ⟨by simp, by decide, by rw [one _ (by decide)]; simp [bf]; exact Nat.le_trans (escB_le _) (by omega)⟩
        · split at h
          · simp only [Option.some.injEq, Prod.mk.injEq] at h
            obtain ⟨rfl, rfl⟩ := h
            exact ⟨by simp, by decide, by rw [one _ (by decide)]; simp [escB]⟩
          · split at h
            · simp only [Option.some.injEq, Prod.mk.injEq] at h
              obtain ⟨rfl, rfl⟩ := h
              exact ⟨by simp, by decide, by rw [one _ (by decide)]; simp [escB]⟩
            · split at h
              · simp only [Option.some.injEq, Prod.mk.injEq] at h
                obtain ⟨rfl, rfl⟩ := h
                exact ⟨by simp, by decide, by rw [one _ (by decide)]; simp [escB]⟩
              · split at h
                · split at h
                  · cases h
                  · rename_i a ha
                    have hl := fourN_ltO ha
                    split at h
                    · simp only [Option.some.injEq, Prod.mk.injEq] at h
                      obtain ⟨rfl, rfl⟩ := h
                      exact ⟨hl.2, by omega, Nat.le_trans (enc_long _ (by omega)) (by omega)⟩
                    · split at h
                      · cases h
                      · rename_i b hb
                        have hl2 := fourN_ltO hb
                        split at h
                        · cases h
                        · simp only [Option.some.injEq, Prod.mk.injEq] at h
                          obtain ⟨rfl, rfl⟩ := h
                          have hl3 := hl2.2
                          rw [List.length_drop] at hl3
                          exact ⟨by omega, by omega, Nat.le_trans (enc_long _ (by omega)) (by omega)⟩
                · cases h

/-- What a text says is good, and is told by not much more than what was read. -/
theorem unquote_long : ∀ (n : Nat) (l t r : List UInt8), l.length ≤ n → unquote l = some (t, r) → Lib.validD t = true ∧ ∃ p, l = p ++ r ∧ (escL t).length + 1 ≤ p.length + 4 * bf p
  | 0, l, t, r, h, hu => by
    have : l = [] := List.eq_nil_of_length_eq_zero (by omega)
    subst this; cases hu
  | n + 1, [], t, r, _, hu => by cases hu
  | n + 1, c :: q, t, r, h, hu => by
    simp only [List.length_cons] at h
    have step : ∀ (w : Nat) (p : List UInt8), 1 ≤ w → w ≤ (c :: q).length → (∀ x, Lib.validD x = true → Lib.validD (p ++ x) = true) → (escL p).length ≤ w + 4 * bf ((c :: q).take w) →
        addFront p (unquote ((c :: q).drop w)) = some (t, r) → Lib.validD t = true ∧ ∃ p, c :: q = p ++ r ∧ (escL t).length + 1 ≤ p.length + 4 * bf p := by
      intro w p hw hwl hp hlen hs
      cases hd : unquote ((c :: q).drop w) with
      | none => rw [hd] at hs; cases hs
      | some tr =>
        obtain ⟨t', r'⟩ := tr
        rw [hd] at hs
        simp only [addFront, Option.some.injEq, Prod.mk.injEq] at hs
        obtain ⟨rfl, rfl⟩ := hs
        obtain ⟨hv, p', hp', hl⟩ := unquote_long n _ _ _ (by rw [List.length_drop, List.length_cons]; omega) hd
        refine ⟨hp _ hv, (c :: q).take w ++ p', ?_, ?_⟩
        · rw [List.append_assoc, ← hp', List.take_append_drop]
        · have hb := bf_append ((c :: q).take w) p'
          have ht : ((c :: q).take w).length = w := by rw [List.length_take]; omega
          rw [escL_append, List.length_append, List.length_append, ht]
          omega
    rw [unquote_cons] at hu
    split at hu
    · simp only [Option.some.injEq, Prod.mk.injEq] at hu
      obtain ⟨rfl, rfl⟩ := hu
      exact ⟨rfl, [c], rfl, by simp [escL]⟩
    · split at hu
      · rename_i hc
        subst hc
        split at hu
        · cases hu
        · rename_i p w he
          have hw := escP_width he
          obtain ⟨h1, h2, h3⟩ := escP_long he
          exact step w _ (by omega) h1 (fun x hx => by rw [enc_valid p h2]; exact hx) h3 hu
      · split at hu
        · cases hu
        · rename_i h34 h92 hbad
          have hne : c :: q ≠ [] := by simp
          have hw := Lib.decodeL_width (c :: q)
          have hle := Lib.decodeL_le (c :: q) hne
          have hb : ¬ ((Lib.decodeL (c :: q)).1 = 65533 ∧ (Lib.decodeL (c :: q)).2 = 1) := fun hh => hbad (.inr hh)
          refine step _ _ hw hle (fun x hx => ?_) ?_ hu
          · have hf := decodeL_front (c :: q) x hne hb
            have hlen : ((c :: q).take (Lib.decodeL (c :: q)).2).length = (Lib.decodeL (c :: q)).2 := by rw [List.length_take]; omega
            rw [Lib.validD_step _ (by intro h0; have := congrArg List.length h0; rw [List.length_append, hlen] at this; simp at this; omega), hf, if_neg hb]
            rw [List.drop_append_of_le_length (by omega), List.drop_eq_nil_of_le (by omega)]
            exact hx
          · by_cases hc : c.toNat < 128
            · rw [Lib.decodeL_ascii c q hc]
              have e : escB c = [c] := by
                unfold escB
                have hge : ¬ c.toNat < 32 := fun hh => hbad (.inl hh)
                have ne : ∀ k : UInt8, k.toNat < 32 → c ≠ k := fun k hk hh => by subst hh; exact hge hk
                rw [if_neg (by intro hh; rcases hh with hh | hh; exact h34 hh; exact h92 hh), if_neg (ne 10 (by decide)), if_neg (ne 13 (by decide)), if_neg (ne 9 (by decide)), if_neg hge]
              simp [escL, e]
            · have hhi := decodeL_high (c :: q) hne hb (by simp; omega)
              rw [escL_high _ hhi, List.length_take]
              omega
end Go.Proofs.YtdmnhkgiojkphaaGreatDoor

namespace Go.Proofs.YtdmnhkgiojkphaaGreatDoor
open Go

/-! ### words -/
theorem uint_long : ∀ (w : List UInt8) (M acc u : Nat), Lib.parseUintM M acc w = .ok u → Lib.nDigits u ≤ Lib.nDigits acc + w.length
  | [], M, acc, u, h => by
    injection h with h
    subst h
    simp
  | c :: r, M, acc, u, h => by
    unfold Lib.parseUintM at h
    split at h
    · split at h
      · cases h
      · split at h
        · cases h
        · have ih := uint_long r M _ u h
          have hd : Lib.nDigits (acc * 10 + (c.toNat - 48)) ≤ Lib.nDigits acc + 1 := by
            by_cases hs : acc * 10 + (c.toNat - 48) < 10
            · rw [Lib.nDigits_small hs]; omega
            · rw [Lib.nDigits_big hs, show (acc * 10 + (c.toNat - 48)) / 10 = acc by omega]
              exact Nat.le_refl _
          simp only [List.length_cons]
          omega
    · cases h
theorem uint_len {B : Nat} {w : List UInt8} {u : Nat} (h : Lib.parseUintB B w = .ok u) : (Lib.decDigits u).length ≤ w.length := by
  unfold Lib.parseUintB at h
  split at h
  · cases h
  · cases w with
    | nil => rename_i h0; exact absurd rfl h0
    | cons c r =>
      unfold Lib.parseUintM at h
      split at h
      · split at h
        · cases h
        · split at h
          · cases h
          · have ih := uint_long r _ _ u h
            rw [show Lib.nDigits (0 * 10 + (c.toNat - 48)) = 1 from Lib.nDigits_small (by omega)] at ih
            rw [Lib.decDigits_length, List.length_cons]
            omega
      · cases h
theorem int_len {w : List UInt8} {v : Int} (h : Lib.parseIntB 64 w = .ok v) : (Lib.itoa v).length ≤ w.length ∧ fitsN v := by
  unfold Lib.parseIntB at h
  split at h
  · cases h
  · rename_i c r
    simp only [] at h
    split at h
    · cases h
    · cases h
    · rename_i u hu
      have hl := uint_len hu
      split at h
      · cases h
      · split at h
        · cases h
        · injection h with h
          rename_i h1 h2
          by_cases hn : c.toNat = 45
          · rw [if_pos hn] at h
            rw [if_pos (.inr hn)] at hl
            subst h
            have hb : u ≤ 9223372036854775808 := by
              have : ¬ (2 ^ (64 - 1) < u) := fun hh => h2 ⟨hn, hh⟩
              simpa using this
            refine ⟨?_, by unfold fitsN; omega⟩
            by_cases hz : u = 0
            · subst hz
              have : (Lib.itoa (-(0 : Nat) : Int)) = Lib.decDigits 0 := by simpa using Lib.itoa_nonneg 0
              rw [this]
              simp only [List.length_cons]
              omega
            · rw [Lib.itoa_neg u (by omega)]
              simp only [List.length_cons]
              omega
          · rw [if_neg hn] at h
            subst h
            have hb : u < 9223372036854775808 := by
              have : ¬ (2 ^ (64 - 1) ≤ u) := fun hh => h1 ⟨hn, hh⟩
              simpa using this
            refine ⟨?_, by unfold fitsN; omega⟩
            rw [Lib.itoa_nonneg]
            refine Nat.le_trans hl ?_
            split
            · simp
            · exact Nat.le_refl _

/-- A tree in which so many lists and maps may stand in one another. -/
def GoodK (k : Nat) (t : Tree) : Prop := (∀ about, about + k ≤ 32 → checkT t about = 0) ∧ Fits t ∧ depthT t ≤ k
theorem GoodK.leaf {k : Nat} {t : Tree} (h : oneE t 0 = 0) (hi : hasItems t.kind = false) (hl : t.items = []) (hn : fitsN t.n) : GoodK k t := by
  refine ⟨fun about _ => ?_, ?_, ?_⟩
  · rw [checkT_eq]
    have : oneE t about = oneE t 0 := by unfold oneE; rw [hi]; rfl
    rw [this, h, if_pos rfl, hl]
    rfl
  · rw [Fits_eq, hl]
    exact ⟨hn, trivial⟩
  · rw [depthT_eq, hi]
    simp
theorem fits0 : fitsN 0 := by unfold fitsN; omega
theorem word_good {w : List UInt8} {t : Tree} (k : Nat) (h : readWord w = .ok t) : GoodK k t ∧ (pr t).length ≤ w.length := by
  unfold readWord at h
  split at h
  · rename_i hw
    injection h with h
    subst h
    exact ⟨GoodK.leaf (by decide) rfl rfl fits0, by rw [hw, pr_eq]; decide⟩
  · split at h
    · rename_i hw
      injection h with h
      subst h
      exact ⟨GoodK.leaf (by decide) rfl rfl fits0, by rw [hw, pr_eq]; decide⟩
    · split at h
      · rename_i hw
        injection h with h
        subst h
        exact ⟨GoodK.leaf (by decide) rfl rfl fits0, by rw [hw, pr_eq]; decide⟩
      · split at h
        · cases h
        · split at h
          · rename_i v hv
            split at h
            · cases h
            · injection h with h
              subst h
              have := int_len hv
              refine ⟨GoodK.leaf ?_ rfl rfl this.2, ?_⟩
              · unfold oneE spareB
                simp [hasItems, Tree.kind, Tree.flag, Tree.text, Tree.keys, Tree.items, ByteArray.size, good]
                rfl
              · rw [pr_eq]
                show List.length (Lib.itoa v) ≤ _
                exact this.1
          · cases h

/-! ### lists and maps -/
theorem skip_split (l : List UInt8) : ∃ b, l = b ++ skip l := ⟨l.takeWhile isBlank, (List.takeWhile_append_dropWhile (p := isBlank) (l := l)).symm⟩
def Tells (k : Nat) (it : List UInt8 → Res Tree) : Prop := ∀ l t q, it l = .ok t q → GoodK k t ∧ ∃ p, l = p ++ q ∧ (pr t).length ≤ p.length + 4 * bf p
theorem sep_cons (p : List UInt8) {ps : List (List UInt8)} (h : ps ≠ []) : (sep (p :: ps)).length = p.length + 1 + (sep ps).length := by
  cases ps with
  | nil => exact absurd rfl h
  | cons q r => simp only [sep, List.length_append, List.length_cons]; omega
theorem listGo_tells {k : Nat} {it : List UInt8 → Res Tree} (hit : Tells k it) : ∀ (f : Nat) (l : List UInt8) (acc : List Tree) t q, listGo it f l acc = .ok t q →
    ∃ ts, t = .mk 5 false 0 ⟨#[]⟩ [] (acc ++ ts) ∧ ts ≠ [] ∧ (∀ x ∈ ts, GoodK k x) ∧ ∃ p, l = p ++ q ∧ (sep (ts.map pr)).length + 1 ≤ p.length + 4 * bf p
  | 0, l, acc, t, q, e => by cases e
  | f + 1, l, acc, t, q, e => by
    unfold listGo at e
    split at e
    · cases e
    · rename_i t' q1 hi
      obtain ⟨hg, p1, hp1, hl1⟩ := hit _ _ _ hi
      obtain ⟨b, hb⟩ := skip_split q1
      split at e
      · rename_i q2 hq
        injection e with e1 e2
        subst e2
        rw [hq] at hb
        refine ⟨[t'], e1.symm, by simp, fun x hx => by rw [List.mem_singleton.1 hx]; exact hg, p1 ++ (b ++ [93]), ?_, ?_⟩
        · rw [hp1, hb]; simp
        · have h1 := bf_append p1 (b ++ [93])
          simp only [List.map_cons, List.map_nil, sep, List.length_append, List.length_cons, List.length_nil]
          omega
      · rename_i q2 hq
        rw [hq] at hb
        obtain ⟨ts, e1, hne, hall, p, hp, hl⟩ := listGo_tells hit f _ _ _ _ e
        refine ⟨t' :: ts, by rw [e1]; simp, by simp, fun x hx => ?_, p1 ++ (b ++ ([44] ++ p)), ?_, ?_⟩
        · rcases List.mem_cons.1 hx with rfl | hx
          · exact hg
          · exact hall x hx
        · rw [hp1, hb, hp]; simp
        · have h1 := bf_append p1 (b ++ ([44] ++ p))
          have h2 := bf_append b ([44] ++ p)
          have h3 := bf_append [44] p
          rw [List.map_cons, sep_cons _ (by simpa using hne)]
          simp only [List.length_append, List.length_cons, List.length_nil]
          omega
      · cases e
theorem depthL_le {l : List Tree} {k : Nat} (h : ∀ t ∈ l, depthT t ≤ k) : depthL l ≤ k := by
  induction l with
  | nil => simp [depthL]
  | cons t r ih =>
    rw [depthL]
    have := h t (by simp)
    have := ih (fun x hx => h x (by simp [hx]))
    omega
theorem good_list {k : Nat} {ts : List Tree} (h : ∀ x ∈ ts, GoodK k x) : GoodK (k + 1) (.mk 5 false 0 ⟨#[]⟩ [] ts) := by
  refine ⟨fun about ha => ?_, ?_, ?_⟩
  · rw [checkT_eq]
    have : oneE (.mk 5 false 0 ⟨#[]⟩ [] ts) about = 0 := by
      unfold oneE spareB
      simp [hasItems, Tree.kind, Tree.flag, Tree.text, Tree.keys, Tree.items, Tree.n, ByteArray.size, good, Lib.validD_nil]
      omega
    rw [this, if_pos rfl]
    exact checkL_zero.2 fun x hx => (h x hx).1 _ (by omega)
  · rw [Fits_eq]
    exact ⟨fits0, FitsL_of fun x hx => (h x hx).2.1⟩
  · rw [depthT_eq]
    show depthL ts + 1 ≤ _
    exact Nat.succ_le_succ (depthL_le fun x hx => (h x hx).2.2)
theorem nodup_snoc {ks : List ByteArray} {k : ByteArray} (h : nodup ks = true) (hk : hasK ks k = false) : nodup (ks ++ [k]) = true := by
  induction ks with
  | nil => rfl
  | cons a r ih =>
    simp only [nodup, Bool.and_eq_true, Bool.not_eq_true'] at h
    rw [hasK_false] at hk
    simp only [List.mem_cons, not_or] at hk
    have ih' := ih h.2 (hasK_false.2 hk.2)
    rw [List.cons_append]
    simp only [nodup, Bool.and_eq_true, Bool.not_eq_true']
    refine ⟨hasK_false.2 ?_, ih'⟩
    have := hasK_false.1 h.1
    simp only [List.mem_append, List.mem_singleton, not_or]
    exact ⟨this, fun hh => hk.1 hh.symm⟩
theorem keyR_tells {ks : List ByteArray} {l : List UInt8} {k : ByteArray} {q : List UInt8} (e : keyR ks l = .ok k q) : good k = true ∧ hasK ks k = false ∧ ∃ p, l = p ++ q ∧ (quo k.data.toList).length ≤ p.length + 4 * bf p := by
  unfold keyR at e
  obtain ⟨b, hb⟩ := skip_split l
  split at e
  · rename_i r hr
    rw [hr] at hb
    split at e
    · cases e
    · rename_i k' q' hu
      obtain ⟨hv, p, hp, hl⟩ := unquote_long _ _ _ _ (Nat.le_refl _) hu
      split at e
      · cases e
      · rename_i hk
        injection e with e1 e2
        subst e1 e2
        refine ⟨by unfold good; rw [str_list]; exact hv, by simpa using hk, b ++ ([34] ++ p), by rw [hb, hp]; simp, ?_⟩
        rw [str_list]
        have h1 := bf_append b ([34] ++ p)
        have h2 := bf_append [34] p
        simp only [quo, List.length_append, List.length_cons, List.length_nil]
        omega
  · cases e
theorem ents_cons (k : ByteArray) (kr : List ByteArray) (p : List UInt8) (ps : List (List UInt8)) : ents (k :: kr) (p :: ps) = (quo k.data.toList ++ 58 :: p) :: ents kr ps := rfl
theorem mapGo_tells {k : Nat} {it : List UInt8 → Res Tree} (hit : Tells k it) : ∀ (f : Nat) (l : List UInt8) (ks : List ByteArray) (acc : List Tree) t q, mapGo it f l ks acc = .ok t q →
    ∃ kr ts, t = .mk 6 false 0 ⟨#[]⟩ (ks ++ kr) (acc ++ ts) ∧ ts ≠ [] ∧ kr.length = ts.length ∧ (∀ x ∈ ts, GoodK k x) ∧ (∀ x ∈ kr, good x = true) ∧ (nodup ks = true → nodup (ks ++ kr) = true) ∧ ∃ p, l = p ++ q ∧ (sep (ents kr (ts.map pr))).length + 1 ≤ p.length + 4 * bf p
  | 0, l, ks, acc, t, q, e => by cases e
  | f + 1, l, ks, acc, t, q, e => by
    unfold mapGo at e
    split at e
    · cases e
    · rename_i k' q0 hk
      obtain ⟨hgk, hnk, p0, hp0, hl0⟩ := keyR_tells hk
      obtain ⟨b0, hb0⟩ := skip_split q0
      split at e
      · rename_i q1 hq1
        rw [hq1] at hb0
        split at e
        · cases e
        · rename_i t' q2 hi
          obtain ⟨hg, p1, hp1, hl1⟩ := hit _ _ _ hi
          obtain ⟨b, hb⟩ := skip_split q2
          split at e
          · rename_i q3 hq
            injection e with e1 e2
            subst e2
            rw [hq] at hb
            refine ⟨[k'], [t'], e1.symm, by simp, rfl, fun x hx => by rw [List.mem_singleton.1 hx]; exact hg, fun x hx => by rw [List.mem_singleton.1 hx]; exact hgk, fun hn => nodup_snoc hn hnk, p0 ++ (b0 ++ ([58] ++ (p1 ++ (b ++ [125])))), ?_, ?_⟩
            · rw [hp0, hb0, hp1, hb]; simp
            · have h1 := bf_append p0 (b0 ++ ([58] ++ (p1 ++ (b ++ [125]))))
              have h2 := bf_append b0 ([58] ++ (p1 ++ (b ++ [125])))
              have h3 := bf_append [58] (p1 ++ (b ++ [125]))
              have h4 := bf_append p1 (b ++ [125])
              have e5 : sep (ents [k'] ([t'].map pr)) = quo k'.data.toList ++ 58 :: pr t' := rfl
              rw [e5]
              simp only [List.length_append, List.length_cons, List.length_nil]
              omega
          · rename_i q3 hq
            rw [hq] at hb
            obtain ⟨kr, ts, e1, hne, hlen, hall, hkg, hnd, p, hp, hl⟩ := mapGo_tells hit f _ _ _ _ _ e
            refine ⟨k' :: kr, t' :: ts, by rw [e1]; simp, by simp, by simp [hlen], fun x hx => ?_, fun x hx => ?_, fun hn => ?_, p0 ++ (b0 ++ ([58] ++ (p1 ++ (b ++ ([44] ++ p))))), ?_, ?_⟩
            · rcases List.mem_cons.1 hx with rfl | hx
              · exact hg
              · exact hall x hx
            · rcases List.mem_cons.1 hx with rfl | hx
              · exact hgk
              · exact hkg x hx
            · have := hnd (nodup_snoc hn hnk)
              rw [List.append_assoc] at this
              exact this
            · rw [hp0, hb0, hp1, hb, hp]; simp
            · have h1 := bf_append p0 (b0 ++ ([58] ++ (p1 ++ (b ++ ([44] ++ p)))))
              have h2 := bf_append b0 ([58] ++ (p1 ++ (b ++ ([44] ++ p))))
              have h3 := bf_append [58] (p1 ++ (b ++ ([44] ++ p)))
              have h4 := bf_append p1 (b ++ ([44] ++ p))
              have h5 := bf_append b ([44] ++ p)
              have h6 := bf_append [44] p
              have hen : ents kr (ts.map pr) ≠ [] := by
                cases kr with
                | nil => cases ts with
                  | nil => exact absurd rfl hne
                  | cons _ _ => simp at hlen
                | cons a r => cases ts with
                  | nil => exact absurd rfl hne
                  | cons _ _ => simp [ents]
              rw [List.map_cons, ents_cons, sep_cons _ hen]
              simp only [List.length_append, List.length_cons, List.length_nil]
              omega
          · cases e
      · cases e
theorem good_map {k : Nat} {kr : List ByteArray} {ts : List Tree} (hl : kr.length = ts.length) (hk : ∀ x ∈ kr, good x = true) (hn : nodup kr = true) (h : ∀ x ∈ ts, GoodK k x) : GoodK (k + 1) (.mk 6 false 0 ⟨#[]⟩ kr ts) := by
  refine ⟨fun about ha => ?_, ?_, ?_⟩
  · rw [checkT_eq]
    have hka : kr.all good = true := List.all_eq_true.2 hk
    have : oneE (.mk 6 false 0 ⟨#[]⟩ kr ts) about = 0 := by
      unfold oneE spareB keysFit
      simp only [hasItems, Tree.kind, Tree.flag, Tree.text, Tree.keys, Tree.items, Tree.n, hka, hn, hl]
      have : decide (32 ≤ about) = false := by simp; omega
      rw [this]
      simp [ByteArray.size, good, Lib.validD_nil]
    rw [this, if_pos rfl]
    exact checkL_zero.2 fun x hx => (h x hx).1 _ (by omega)
  · rw [Fits_eq]
    exact ⟨fits0, FitsL_of fun x hx => (h x hx).2.1⟩
  · rw [depthT_eq]
    show depthL ts + 1 ≤ _
    exact Nat.succ_le_succ (depthL_le fun x hx => (h x hx).2.2)
theorem pr_list (ts : List Tree) : pr (.mk 5 false 0 ⟨#[]⟩ [] ts) = 91 :: (sep (ts.map pr) ++ [93]) := by
  rw [pr_eq]; rfl
theorem pr_map (kr : List ByteArray) (ts : List Tree) : pr (.mk 6 false 0 ⟨#[]⟩ kr ts) = 123 :: (sep (ents kr (ts.map pr)) ++ [125]) := by
  rw [pr_eq]; rfl
theorem itemW_tells {k : Nat} {d : Option (List UInt8 → Res Tree)} (h : ∀ it, d = some it → ∃ j, k = j + 1 ∧ Tells j it) : Tells k (itemW d) := by
  intro l t q e
  unfold itemW at e
  obtain ⟨b, hb⟩ := skip_split l
  split at e
  · cases e
  · rename_i c r hr
    rw [hr] at hb
    split at e
    · rename_i hc
      subst hc
      cases hd : d with
      | none => rw [hd] at e; cases e
      | some it =>
        rw [hd] at e
        simp only [] at e
        obtain ⟨j, rfl, hit⟩ := h it hd
        obtain ⟨b2, hb2⟩ := skip_split r
        unfold listR at e
        split at e
        · rename_i q2 hq
          rw [hq] at hb2
          injection e with e1 e2
          subst e1 e2
          refine ⟨good_list (fun x hx => by cases hx), b ++ ([91] ++ (b2 ++ [93])), by rw [hb, hb2]; simp, ?_⟩
          rw [pr_list]
          simp only [List.map_nil, sep, List.length_append, List.length_cons, List.length_nil]
          omega
        · obtain ⟨ts, e1, hne, hall, p, hp, hl⟩ := listGo_tells hit _ _ _ _ _ e
          subst e1
          refine ⟨good_list hall, b ++ ([91] ++ p), by rw [hb, hp]; simp, ?_⟩
          have h1 := bf_append b ([91] ++ p)
          have h2 := bf_append [91] p
          rw [pr_list]
          simp only [List.nil_append, List.length_append, List.length_cons, List.length_nil]
          omega
    · split at e
      · rename_i hc
        subst hc
        cases hd : d with
        | none => rw [hd] at e; cases e
        | some it =>
          rw [hd] at e
          simp only [] at e
          obtain ⟨j, rfl, hit⟩ := h it hd
          obtain ⟨b2, hb2⟩ := skip_split r
          unfold mapR at e
          split at e
          · rename_i q2 hq
            rw [hq] at hb2
            injection e with e1 e2
            subst e1 e2
            refine ⟨good_map rfl (fun x hx => by cases hx) rfl (fun x hx => by cases hx), b ++ ([123] ++ (b2 ++ [125])), by rw [hb, hb2]; simp, ?_⟩
            rw [pr_map]
            simp only [List.map_nil, ents, List.zipWith_nil_left, sep, List.length_append, List.length_cons, List.length_nil]
            omega
          · obtain ⟨kr, ts, e1, hne, hlen, hall, hkg, hnd, p, hp, hl⟩ := mapGo_tells hit _ _ _ _ _ _ e
            subst e1
            refine ⟨good_map hlen hkg (hnd rfl) hall, b ++ ([123] ++ p), by rw [hb, hp]; simp, ?_⟩
            have h1 := bf_append b ([123] ++ p)
            have h2 := bf_append [123] p
            rw [pr_map]
            simp only [List.nil_append, List.length_append, List.length_cons, List.length_nil]
            omega
      · split at e
        · rename_i hc
          subst hc
          split at e
          · cases e
          · rename_i t' q' hu
            obtain ⟨hv, p, hp, hl⟩ := unquote_long _ _ _ _ (Nat.le_refl _) hu
            injection e with e1 e2
            subst e1 e2
            refine ⟨GoodK.leaf ?_ rfl rfl fits0, b ++ ([34] ++ p), by rw [hb, hp]; simp, ?_⟩
            · unfold oneE spareB
              have : good (str t') = true := by unfold good; rw [str_list]; exact hv
              simp [hasItems, Tree.kind, Tree.flag, Tree.text, Tree.keys, Tree.items, Tree.n, this]
            · have h1 := bf_append b ([34] ++ p)
              have h2 := bf_append [34] p
              have e4 : pr (.mk 4 false 0 (str t') [] []) = quo t' := by rw [pr_eq]; simp only [Tree.kind, Tree.text, str_list]; rfl
              rw [e4]
              simp only [quo, List.length_append, List.length_cons, List.length_nil]
              omega
        · split at e
          · cases e
          · rename_i t' hw
            injection e with e1 e2
            subst e1 e2
            have hg := word_good k hw
            refine ⟨hg.1, b ++ (c :: r).take (wordOf (c :: r)).length, ?_, ?_⟩
            · rw [List.append_assoc, List.take_append_drop]; exact hb
            · have hle : (wordOf (c :: r)).length ≤ (c :: r).length := List.Sublist.length_le (List.takeWhile_sublist _)
              have := hg.2
              rw [List.length_append, List.length_take]
              omega
theorem itemR_tells : ∀ k, Tells k (itemR k)
  | 0 => itemW_tells (fun it h => by cases h)
  | k + 1 => itemW_tells (fun it h => by injection h with h; subst h; exact ⟨k, rfl, itemR_tells k⟩)
/-- What is read is a tree, no deeper than was asked for, and printed not much longer. -/
theorem parseR_tells {d : Nat} {l : List UInt8} {t : Tree} {q : List UInt8} (h : parseR d l = .ok t q) : GoodK d t ∧ (pr t).length ≤ l.length + 4 * bf l := by
  unfold parseR at h
  split at h
  · cases h
  · rename_i t' q' hi
    obtain ⟨hg, p, hp, hl⟩ := itemR_tells d _ _ _ hi
    split at h
    · injection h with h _
      subst h
      refine ⟨hg, ?_⟩
      have := bf_append p q'
      rw [← hp] at this
      have e : l.length = p.length + q'.length := by rw [hp, List.length_append]
      omega
    · cases h
end Go.Proofs.YtdmnhkgiojkphaaGreatDoor
