/- Each thing has one text, and that one alone is read: the plain facts. -/
import Derived.Test.YtipjjhccbgbdiaaGreatDoorWalkL
import Derived.Lib.IndexLaws
namespace Go.Proofs.YtipjjhccbgbdiaaGreatDoor
open Go Go.RowKit

/-- A letter of the base is the letter of what it is worth. -/
theorem lt_val (base : List UInt8) (c : UInt8) (h : 0 ≤ Lib.indexByte base c) : lt base (val base c) = c := by
  have := (Lib.indexByte_some (val_eq base c h)).1
  unfold lt
  rw [List.getD, this]
  rfl

theorem allIn_iff (base l : List UInt8) : allIn base l = true ↔ ∀ c ∈ l, 0 ≤ Lib.indexByte base c := by
  unfold allIn
  rw [List.all_eq_true]
  simp

theorem lt_val' (base l : List UInt8) (h : allIn base l = true) {c : UInt8} (hc : c ∈ l) : lt base (val base c) = c := lt_val base c ((allIn_iff base l).1 h c hc)

theorem nat_ofNat (n : Nat) (h : n < 256) : (UInt8.ofNat n).toNat = n := by simp [UInt8.toNat_ofNat']; omega

theorem spare_step (base : List UInt8) (a b c d : UInt8) (r : List UInt8) : spare base (a :: b :: c :: d :: r) = spare base r := by
  unfold spare
  have e : (a :: b :: c :: d :: r).length % 4 = r.length % 4 := by simp; omega
  rw [e]
  cases r with
  | nil => simp
  | cons x y => simp [List.getLastD]

/-- What is read in base 64 is the text of what is read. -/
theorem enc_dec (base : List UInt8) (hb : base.length = 64) : ∀ l : List UInt8, allIn base l = true → l.length % 4 ≠ 1 → spare base l = 0 → enc base (dec base l) = l
  | a :: b :: c :: d :: r, hall, hl, hs => by
    have va := val_lt base a hb
    have vb := val_lt base b hb
    have vc := val_lt base c hb
    have vd := val_lt base d hb
    have ih := enc_dec base hb r (by rw [allIn_iff] at *; exact fun x hx => hall x (by simp [hx])) (by simp at hl; omega) (by rw [spare_step] at hs; exact hs)
    simp only [dec, enc]
    rw [ih, nat_ofNat _ (by omega), nat_ofNat _ (by omega), nat_ofNat _ (by omega)]
    rw [show (val base a * 4 + val base b / 16) / 4 = val base a by omega, show (val base a * 4 + val base b / 16) % 4 * 16 + (val base b % 16 * 16 + val base c / 4) / 16 = val base b by omega,
      show (val base b % 16 * 16 + val base c / 4) % 16 * 4 + (val base c % 4 * 64 + val base d) / 64 = val base c by omega, show (val base c % 4 * 64 + val base d) % 64 = val base d by omega]
    rw [lt_val' base _ hall (show a ∈ _ by simp), lt_val' base _ hall (show b ∈ _ by simp), lt_val' base _ hall (show c ∈ _ by simp), lt_val' base _ hall (show d ∈ _ by simp)]
  | [a, b, c], hall, _, hs => by
    have va := val_lt base a hb
    have vb := val_lt base b hb
    have vc := val_lt base c hb
    have h0 : val base c % 4 = 0 := by simpa [spare, List.getLastD] using hs
    simp only [dec, enc]
    rw [nat_ofNat _ (by omega), nat_ofNat _ (by omega)]
    rw [show (val base a * 4 + val base b / 16) / 4 = val base a by omega, show (val base a * 4 + val base b / 16) % 4 * 16 + (val base b % 16 * 16 + val base c / 4) / 16 = val base b by omega,
      show (val base b % 16 * 16 + val base c / 4) % 16 * 4 = val base c by omega]
    rw [lt_val' base _ hall (show a ∈ _ by simp), lt_val' base _ hall (show b ∈ _ by simp), lt_val' base _ hall (show c ∈ _ by simp)]
  | [a, b], hall, _, hs => by
    have va := val_lt base a hb
    have vb := val_lt base b hb
    have h0 : val base b % 16 = 0 := by simpa [spare, List.getLastD] using hs
    simp only [dec, enc]
    rw [nat_ofNat _ (by omega)]
    rw [show (val base a * 4 + val base b / 16) / 4 = val base a by omega, show (val base a * 4 + val base b / 16) % 4 * 16 = val base b by omega]
    rw [lt_val' base _ hall (show a ∈ _ by simp), lt_val' base _ hall (show b ∈ _ by simp)]
  | [a], _, hl, _ => by simp at hl
  | [], _, _, _ => by simp [dec, enc]

theorem one64 (l : List UInt8) (h : code64 l = 0) : enc urlL (dec urlL l) = l := by
  unfold code64 at h
  split at h
  · split at h
    · cases h
    · split at h
      · exact enc_dec urlL rfl l ‹_› ‹_› ‹_›
      · cases h
  · cases h

theorem one16 : ∀ l : List UInt8, code16 l = 0 → enc16 (dec16 l) = l := by
  intro l h
  unfold code16 at h
  split at h
  · split at h
    · rename_i hall hl
      exact go l hall hl
    · cases h
  · cases h
where
  go : ∀ l : List UInt8, allIn hexL l = true → l.length % 2 = 0 → enc16 (dec16 l) = l
    | a :: b :: r, hall, hl => by
      have va := val_hex a
      have vb := val_hex b
      have ih := go r (by rw [allIn_iff] at *; exact fun x hx => hall x (by simp [hx])) (by simp at hl; omega)
      simp only [dec16, enc16]
      rw [ih, nat_ofNat _ (by omega), show (val hexL a * 16 + val hexL b) / 16 = val hexL a by omega, show (val hexL a * 16 + val hexL b) % 16 = val hexL b by omega]
      rw [lt_val' hexL _ hall (show a ∈ _ by simp), lt_val' hexL _ hall (show b ∈ _ by simp)]
    | [a], _, hl => by simp at hl
    | [], _, _ => by simp [dec16, enc16]

/-- A text is what is ahead of its pads, and the pads. -/
theorem pads_split (l : List UInt8) (n : Nat) (h : PadsIs l n) : l = l.take (l.length - n) ++ List.replicate n 61 := by
  obtain ⟨_, h2, h3, _⟩ := h
  apply List.ext_getElem
  · simp; omega
  · intro i h1 h4
    by_cases hi : i < l.length - n
    · rw [List.getElem_append_left (by rw [List.length_take]; omega)]
      simp
    · rw [List.getElem_append_right (by rw [List.length_take]; omega), List.getElem_replicate]
      have := h3 (l.length - 1 - i) (by omega)
      rw [show l.length - 1 - (l.length - 1 - i) = i by omega] at this
      rw [List.getD, List.getElem?_eq_getElem h1] at this
      exact this

theorem pad_count (L n : Nat) (hl : L % 4 = 0) (h2 : n ≤ 2) (h3 : n ≤ L) : (3 - (L - n) * 3 / 4 % 3) % 3 = n := by
  obtain ⟨q, rfl⟩ : ∃ q, L = 4 * q := ⟨L / 4, by omega⟩
  have hn : n = 0 ∨ n = 1 ∨ n = 2 := by omega
  rcases hn with rfl | rfl | rfl
  · rw [Nat.sub_zero]; omega
  · obtain ⟨p, rfl⟩ : ∃ p, q = p + 1 := ⟨q - 1, by omega⟩
    rw [show 4 * (p + 1) - 1 = 4 * p + 3 by omega]; omega
  · obtain ⟨p, rfl⟩ : ∃ p, q = p + 1 := ⟨q - 1, by omega⟩
    rw [show 4 * (p + 1) - 2 = 4 * p + 2 by omega]; omega

theorem onePad (l : List UInt8) (n : Nat) (hp : PadsIs l n) (h : codePad l (l.take (l.length - n)) = 0) : encPad (dec padL (l.take (l.length - n))) = l := by
  have hs := pads_split l n hp
  have h2 := hp.1
  have h3 := hp.2.1
  unfold codePad at h
  split at h
  · split at h
    · split at h
      · rename_i hall hl hsp
        have hla : (l.take (l.length - n)).length = l.length - n := by rw [List.length_take]; omega
        unfold encPad
        rw [enc_dec padL rfl _ hall (by rw [hla]; omega) hsp, dec_length, hla]
        rw [pad_count l.length n hl h2 h3]
        exact hs.symm
      · cases h
    · cases h
  · cases h

/-! Decimals. -/

theorem val_digit : ∀ c : UInt8, 0 ≤ Lib.indexByte digL c → UInt8.ofNat (48 + val digL c) = c := by
  intro c h
  have h1 := lt_val digL c h
  have h2 := val_dig c
  rw [← h1]
  generalize val digL c = v at h2
  have h3 : ∀ v : Fin 10, UInt8.ofNat (48 + val digL (lt digL v.val)) = lt digL v.val := by decide +kernel
  exact h3 ⟨v, h2⟩

theorem natVal_pos (c : UInt8) (r : List UInt8) (h : 0 < val digL c) : 0 < natVal (c :: r) := by
  unfold natVal
  simp only [List.foldl_cons]
  exact Nat.lt_of_lt_of_le (by omega) (foldl_ge r _)

theorem val_zero (c : UInt8) (h : 0 ≤ Lib.indexByte digL c) (h0 : val digL c = 0) : c = 48 := by
  have := val_digit c h
  rw [h0] at this
  exact this.symm

/-- The digits of the number that plain digits tell. -/
theorem dec_natVal (d : List UInt8) (h : plainB d = true) : Lib.decDigits (natVal d) = d := by
  have hall := plainB_all d h
  unfold plainB at h
  simp only [Bool.and_eq_true, decide_eq_true_eq, Bool.not_eq_true'] at h
  obtain ⟨⟨hpos, hlead⟩, _⟩ := h
  have key : ∀ n, ∀ e : List UInt8, e.length = n → allIn digL e = true → 0 < e.length → (1 < e.length → e.getD 0 0 ≠ 48) → Lib.decDigits (natVal e) = e := by
    intro n
    induction n with
    | zero => intro e he _ hp; omega
    | succ n ih =>
      intro e he ha _ hl
      obtain ⟨e', c, rfl⟩ : ∃ e' c, e = e' ++ [c] := ⟨e.dropLast, e.getLast (by intro h; rw [h] at he; simp at he), (List.dropLast_concat_getLast _).symm⟩
      have hc : 0 ≤ Lib.indexByte digL c := (allIn_iff _ _).1 ha c (by simp)
      have v9 := val_dig c
      rw [natVal_snoc]
      cases e' with
      | nil =>
        rw [Lib.decDigits, dif_pos (by simp [natVal]; omega)]
        simp [natVal, val_digit c hc]
      | cons x y =>
        have hx : 0 ≤ Lib.indexByte digL x := (allIn_iff _ _).1 ha x (by simp)
        have hx48 : x ≠ 48 := by simpa using hl (by simp)
        have hvx : 0 < val digL x := by
          rcases Nat.eq_zero_or_pos (val digL x) with h0 | h0
          · exact absurd (val_zero x hx h0) hx48
          · exact h0
        have hN := natVal_pos x y hvx
        rw [Lib.decDigits, dif_neg (by omega), show (10 * natVal (x :: y) + val digL c) / 10 = natVal (x :: y) by omega, show (10 * natVal (x :: y) + val digL c) % 10 = val digL c by omega]
        rw [ih (x :: y) (by simp at he ⊢; omega) (by rw [allIn_iff] at *; exact fun z hz => ha z (by simp at hz ⊢; exact Or.imp_right .inl hz)) (by simp) (fun _ => by simpa using hx48), val_digit c hc]
  exact key d.length d rfl hall hpos (fun h1 => by
    intro h2
    rw [h2] at hlead
    simp [h1] at hlead)

theorem natVal_zero (d : List UInt8) (h : plainB d = true) (h0 : natVal d = 0) : d = [48] := by
  have := dec_natVal d h
  rw [h0] at this
  rw [← this]
  decide +kernel

theorem prefix_split (l : List UInt8) : (Lib.hasPrefix l [45] = true ∧ l = 45 :: Lib.trimPrefix l [45]) ∨ (Lib.hasPrefix l [45] = false ∧ l = Lib.trimPrefix l [45]) := by
  cases l with
  | nil => right; exact ⟨by decide, rfl⟩
  | cons a r =>
    by_cases h : a = 45
    · subst h
      left
      have hp : Lib.hasPrefix (45 :: r) [45] = true := by simp [Lib.hasPrefix]
      refine ⟨hp, ?_⟩
      unfold Lib.trimPrefix
      rw [if_pos hp]
      simp
    · right
      have hp : Lib.hasPrefix (a :: r) [45] = false := by
        show ((45 : UInt8) == a && _) = false
        rw [beq_eq_false_iff_ne.2 (Ne.symm h)]
        rfl
      refine ⟨hp, ?_⟩
      unfold Lib.trimPrefix
      rw [if_neg (by rw [hp]; decide)]

/-- What is read as a decimal is the decimal of what is read. -/
theorem one10 (l : List UInt8) (h : (num10 (Lib.hasPrefix l [45]) (Lib.trimPrefix l [45])).2 = 0) : Lib.itoa (num10 (Lib.hasPrefix l [45]) (Lib.trimPrefix l [45])).1 = l ∧ -9223372036854775808 ≤ (num10 (Lib.hasPrefix l [45]) (Lib.trimPrefix l [45])).1 ∧ (num10 (Lib.hasPrefix l [45]) (Lib.trimPrefix l [45])).1 ≤ 9223372036854775807 := by
  rcases prefix_split l with ⟨hp, hl⟩ | ⟨hp, hl⟩
  · rw [hp] at h ⊢
    generalize Lib.trimPrefix l [45] = d at h hl ⊢
    unfold num10 at h ⊢
    by_cases h1 : plainB d = true ∧ ¬ (true = true ∧ d = [48])
    · rw [if_pos h1] at h ⊢
      by_cases h2 : natVal d ≤ 9223372036854775808 ∧ ¬ (true = false ∧ natVal d = 9223372036854775808)
      · rw [if_pos h2, if_pos rfl]
        have hN : natVal d ≠ 0 := fun h0 => h1.2 ⟨rfl, natVal_zero d h1.1 h0⟩
        have h3 := h2.1
        refine ⟨?_, by simp only []; omega, by simp only []; omega⟩
        simp only [Lib.itoa]
        rw [if_pos (by omega), Int.natAbs_neg, Int.natAbs_natCast, dec_natVal d h1.1]
        exact hl.symm
      · rw [if_neg h2] at h; cases h
    · rw [if_neg h1] at h; cases h
  · rw [hp] at h ⊢
    generalize Lib.trimPrefix l [45] = d at h hl ⊢
    unfold num10 at h ⊢
    by_cases h1 : plainB d = true ∧ ¬ (false = true ∧ d = [48])
    · rw [if_pos h1] at h ⊢
      by_cases h2 : natVal d ≤ 9223372036854775808 ∧ ¬ (false = false ∧ natVal d = 9223372036854775808)
      · rw [if_pos h2, if_neg (by decide)]
        have h3 := h2.1
        have h4 : natVal d ≠ 9223372036854775808 := fun h0 => h2.2 ⟨rfl, h0⟩
        refine ⟨?_, by simp only []; omega, by simp only []; omega⟩
        simp only [Lib.itoa]
        rw [if_neg (by omega), Int.toNat_natCast, dec_natVal d h1.1]
        exact hl.symm
      · rw [if_neg h2] at h; cases h
    · rw [if_neg h1] at h; cases h

/-! With a letter more that is none. -/

theorem notIn_snoc (base l : List UInt8) (c : UInt8) (h : Lib.indexByte base c < 0) : allIn base (l ++ [c]) = false := by
  cases h2 : allIn base (l ++ [c]) with
  | false => rfl
  | true => have := (allIn_iff _ _).1 h2 c (by simp); omega

theorem bad64 (l : List UInt8) : code64 (l ++ [10]) = 10 := by
  unfold code64
  rw [notIn_snoc urlL l 10 (by decide +kernel)]
  rfl

theorem bad16 (l : List UInt8) : code16 (l ++ [10]) = 10 := by
  unfold code16
  rw [notIn_snoc hexL l 10 (by decide +kernel)]
  rfl

theorem badPad (l : List UInt8) (n : Nat) (h : PadsIs (32 :: l) n) : codePad (32 :: l) ((32 :: l).take ((32 :: l).length - n)) = 10 := by
  have hn : n < (32 :: l).length := by
    rcases Nat.lt_or_ge n (32 :: l).length with h1 | h1
    · exact h1
    · have h2 := h.2.1
      have h3 := h.2.2.1 ((32 :: l).length - 1) (by simp at h1 ⊢; omega)
      simp at h3
  obtain ⟨k, hk⟩ : ∃ k, (32 :: l).length - n = k + 1 := ⟨(32 :: l).length - n - 1, by omega⟩
  rw [hk]
  unfold codePad
  rw [if_neg]
  intro h2
  have := (allIn_iff _ _).1 h2 32 (by simp)
  exact absurd this (by decide +kernel)

theorem bad10 (l : List UInt8) : (num10 (Lib.hasPrefix (l ++ [10]) [45]) (Lib.trimPrefix (l ++ [10]) [45])).2 = 13 := by
  have hd : plainB (Lib.trimPrefix (l ++ [10]) [45]) = false := by
    cases h2 : plainB (Lib.trimPrefix (l ++ [10]) [45]) with
    | false => rfl
    | true =>
      exfalso
      have h3 := plainB_all _ h2
      rcases prefix_split (l ++ [10]) with ⟨_, hl⟩ | ⟨_, hl⟩
      · cases l with
        | nil => simp at hl
        | cons a r =>
          simp only [List.cons_append, List.cons.injEq] at hl
          have hl' : r ++ [10] = Lib.trimPrefix (a :: r ++ [10]) [45] := hl.2
          rw [← hl', notIn_snoc digL r 10 (by decide +kernel)] at h3
          cases h3
      · rw [← hl, notIn_snoc digL l 10 (by decide +kernel)] at h3
        cases h3
  unfold num10
  rw [if_neg (fun h => by rw [hd] at h; exact absurd h.1 (by decide))]
end Go.Proofs.YtipjjhccbgbdiaaGreatDoor
