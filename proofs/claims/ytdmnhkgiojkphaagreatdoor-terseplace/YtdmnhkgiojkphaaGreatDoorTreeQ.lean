/- Plain facts: a text that is printed is read back. -/
import Derived.Test.YtdmnhkgiojkphaaGreatDoorTree
namespace Go.Proofs.YtdmnhkgiojkphaaGreatDoor
open Go

theorem escP_width {l : List UInt8} {p w : Nat} (h : escP l = some (p, w)) : 2 ≤ w := by
  unfold escP at h
  repeat' split at h
  all_goals first | (simp at h; done) | (simp only [Option.some.injEq, Prod.mk.injEq] at h; omega)

theorem unq_fuel : ∀ (f g : Nat) (l : List UInt8), l.length ≤ f → l.length ≤ g → unq f l = unq g l
  | 0, 0, _, _, _ => rfl
  | 0, g + 1, l, h, _ => by
    have : l = [] := List.eq_nil_of_length_eq_zero (by omega)
    subst this; rfl
  | f + 1, 0, l, _, h => by
    have : l = [] := List.eq_nil_of_length_eq_zero (by omega)
    subst this; rfl
  | f + 1, g + 1, [], _, _ => rfl
  | f + 1, g + 1, c :: r, hf, hg => by
    simp only [List.length_cons] at hf hg
    unfold unq
    by_cases h1 : c = 34
    · simp [h1]
    · rw [if_neg h1, if_neg h1]
      by_cases h2 : c = 92
      · rw [if_pos h2, if_pos h2]
        cases he : escP (c :: r) with
        | none => rfl
        | some pw =>
          obtain ⟨p, w⟩ := pw
          have := escP_width he
          simp only []
          rw [unq_fuel f g ((c :: r).drop w) (by rw [List.length_drop, List.length_cons]; omega) (by rw [List.length_drop, List.length_cons]; omega)]
      · rw [if_neg h2, if_neg h2]
        have hw := Lib.decodeL_width (c :: r)
        rw [unq_fuel f g ((c :: r).drop (Lib.decodeL (c :: r)).2) (by rw [List.length_drop, List.length_cons]; omega) (by rw [List.length_drop, List.length_cons]; omega)]

theorem unquote_cons (c : UInt8) (r : List UInt8) : unquote (c :: r) =
    if c = 34 then some ([], r)
    else if c = 92 then match escP (c :: r) with
      | none => none
      | some (p, w) => addFront (Lib.encodeRune p) (unquote ((c :: r).drop w))
    else if c.toNat < 32 ∨ ((Lib.decodeL (c :: r)).1 = 65533 ∧ (Lib.decodeL (c :: r)).2 = 1) then none
    else addFront ((c :: r).take (Lib.decodeL (c :: r)).2) (unquote ((c :: r).drop (Lib.decodeL (c :: r)).2)) := by
  have key : ∀ w, 1 ≤ w → unq r.length ((c :: r).drop w) = unquote ((c :: r).drop w) := fun w hw =>
    unq_fuel _ _ _ (by rw [List.length_drop, List.length_cons]; omega) (Nat.le_refl _)
  conv => lhs; unfold unquote; rw [List.length_cons]; unfold unq
  by_cases h1 : c = 34
  · simp [h1]
  · rw [if_neg h1, if_neg h1]
    by_cases h2 : c = 92
    · rw [if_pos h2, if_pos h2]
      cases he : escP (c :: r) with
      | none => rfl
      | some pw =>
        obtain ⟨p, w⟩ := pw
        have := escP_width he
        simp only []
        rw [key w (by omega)]
    · rw [if_neg h2, if_neg h2, key _ (Lib.decodeL_width (c :: r))]
/-- What a text says and what is left is no longer than it. -/
theorem unquote_rest : ∀ (n : Nat) (l t r : List UInt8), l.length ≤ n → unquote l = some (t, r) → r.length < l.length ∧ ∃ p, l = p ++ r
  | 0, l, t, r, h, hu => by
    have : l = [] := List.eq_nil_of_length_eq_zero (by omega)
    subst this; cases hu
  | n + 1, [], t, r, _, hu => by cases hu
  | n + 1, c :: q, t, r, h, hu => by
    simp only [List.length_cons] at h
    have step : ∀ (w : Nat) (p : List UInt8), 1 ≤ w → addFront p (unquote ((c :: q).drop w)) = some (t, r) → r.length < (c :: q).length ∧ ∃ p, c :: q = p ++ r := by
      intro w p hw hs
      cases hd : unquote ((c :: q).drop w) with
      | none => rw [hd] at hs; cases hs
      | some tr =>
        obtain ⟨t', r'⟩ := tr
        rw [hd] at hs
        simp only [addFront, Option.some.injEq, Prod.mk.injEq] at hs
        obtain ⟨_, rfl⟩ := hs
        have ih := unquote_rest n _ _ _ (by rw [List.length_drop, List.length_cons]; omega) hd
        obtain ⟨p', hp'⟩ := ih.2
        refine ⟨Nat.lt_of_lt_of_le ih.1 (by rw [List.length_drop]; omega), (c :: q).take w ++ p', ?_⟩
        rw [List.append_assoc, ← hp', List.take_append_drop]
    rw [unquote_cons] at hu
    split at hu
    · simp only [Option.some.injEq, Prod.mk.injEq] at hu
      obtain ⟨_, rfl⟩ := hu
      exact ⟨by simp, [c], rfl⟩
    · split at hu
      · split at hu
        · cases hu
        · rename_i he
          exact step _ _ (by have := escP_width he; omega) hu
      · split at hu
        · cases hu
        · exact step _ _ (Lib.decodeL_width _) hu

/-! ### a rune of valid bytes, whatever follows -/
theorem decodeL_front (l m : List UInt8) (hne : l ≠ []) (hv : ¬ ((Lib.decodeL l).1 = 65533 ∧ (Lib.decodeL l).2 = 1)) : Lib.decodeL (l.take (Lib.decodeL l).2 ++ m) = Lib.decodeL l := by
  have hl : 0 < l.length := List.length_pos_iff.2 hne
  have hle := Lib.decodeL_le l hne
  have hw := Lib.decodeL_width l
  generalize hk : (Lib.decodeL l).2 = k at *
  have hlen : (l.take k).length = k := by rw [List.length_take]; omega
  have g : ∀ i, i < k → (l.take k ++ m).getD i 0 = l.getD i 0 := by
    intro i hi
    rw [List.getD_eq_getElem?_getD, List.getElem?_append_left (by omega), List.getElem?_take_of_lt hi, ← List.getD_eq_getElem?_getD]
  rw [Lib.decodeL_N] at hk hv
  rw [Lib.decodeL_N, Lib.decodeL_N, g 0 (by omega), List.length_append, hlen]
  rcases Lib.decodeN_shape l.length (l.getD 0 0).toNat (l.getD 1 0).toNat (l.getD 2 0).toNat (l.getD 3 0).toNat with ⟨c, e⟩ | ⟨c1, c2, c3, cv, e⟩ | ⟨c1, c2, c3, c4, cv, cs, e⟩ | ⟨c1, c2, c3, c4, c5, cv, cw, e⟩ | e
  · rw [e, Lib.decodeN_ascii _ _ _ _ _ c]
  · rw [e] at hk ⊢
    simp only at hk
    subst hk
    rw [g 1 (by omega)]
    unfold Lib.decodeN
    rw [if_neg (by omega), if_pos ⟨c1, by omega, c3⟩, if_pos cv]
  · rw [e] at hk ⊢
    simp only at hk
    subst hk
    rw [g 1 (by omega), g 2 (by omega)]
    unfold Lib.decodeN
    rw [if_neg (by omega), if_neg (by omega), if_pos ⟨c1, ⟨by omega, c3⟩, by omega, c4⟩, if_pos ⟨cv, by omega⟩]
  · rw [e] at hk ⊢
    simp only at hk
    subst hk
    rw [g 1 (by omega), g 2 (by omega), g 3 (by omega)]
    unfold Lib.decodeN
    rw [if_neg (by omega), if_neg (by omega), if_neg (by omega), if_pos ⟨c1, ⟨by omega, c3⟩, ⟨by omega, c4⟩, by omega, c5⟩, if_pos ⟨cv, by omega⟩]
  · rw [e] at hv hk
    exact absurd ⟨rfl, hk.symm⟩ hv

/-- The bytes of a rune beyond 127 are all beyond 127. -/
theorem decodeL_high (l : List UInt8) (hne : l ≠ []) (hv : ¬ ((Lib.decodeL l).1 = 65533 ∧ (Lib.decodeL l).2 = 1)) (h : 128 ≤ (l.getD 0 0).toNat) : ∀ b ∈ l.take (Lib.decodeL l).2, 128 ≤ b.toNat := by
  have hl : 0 < l.length := List.length_pos_iff.2 hne
  have hle := Lib.decodeL_le l hne
  intro b hb
  obtain ⟨i, hi, rfl⟩ := List.mem_iff_getElem.1 hb
  rw [List.length_take] at hi
  rw [List.getElem_take]
  have e0 : l[i]'(by omega) = l.getD i 0 := by simp [List.getD, List.getElem?_eq_getElem (show i < l.length by omega)]
  rw [e0]
  rw [Lib.decodeL_N] at hi hv
  rcases Lib.decodeN_shape l.length (l.getD 0 0).toNat (l.getD 1 0).toNat (l.getD 2 0).toNat (l.getD 3 0).toNat with ⟨c, e⟩ | ⟨c1, c2, c3, cv, e⟩ | ⟨c1, c2, c3, c4, cv, cs, e⟩ | ⟨c1, c2, c3, c4, c5, cv, cw, e⟩ | e
  · omega
  · rw [e] at hi
    simp only at hi
    match i, hi with
    | 0, _ => exact h
    | 1, _ => omega
    | i + 2, hi => omega
  · rw [e] at hi
    simp only at hi
    match i, hi with
    | 0, _ => exact h
    | 1, _ => omega
    | 2, _ => omega
    | i + 3, hi => omega
  · rw [e] at hi
    simp only at hi
    match i, hi with
    | 0, _ => exact h
    | 1, _ => omega
    | 2, _ => omega
    | 3, _ => omega
    | i + 4, hi => omega
  · rw [e] at hv
    exact absurd ⟨rfl, rfl⟩ hv

theorem escB_high (b : UInt8) (h : 128 ≤ b.toNat) : escB b = [b] := by
  have e : ∀ k : Nat, k < 128 → b ≠ UInt8.ofNat k := by
    intro k hk hb
    subst hb
    simp at h
    omega
  unfold escB
  rw [if_neg (by intro hh; rcases hh with hh | hh; exact e 34 (by omega) hh; exact e 92 (by omega) hh), if_neg (show ¬ b = 10 from e 10 (by omega)), if_neg (show ¬ b = 13 from e 13 (by omega)), if_neg (show ¬ b = 9 from e 9 (by omega)), if_neg (by omega)]
theorem escL_high : ∀ (l : List UInt8), (∀ b ∈ l, 128 ≤ b.toNat) → escL l = l
  | [], _ => rfl
  | b :: r, h => by
    show escB b ++ escL r = b :: r
    rw [escB_high b (h b (by simp)), escL_high r (fun c hc => h c (by simp [hc]))]
    rfl
theorem escL_append (l m : List UInt8) : escL (l ++ m) = escL l ++ escL m := by simp [escL]

theorem encode_ascii (n : Nat) (h : n < 128) : Lib.encodeRune (n : Int) = [UInt8.ofNat n] := by
  unfold Lib.encodeRune
  rw [Lib.encodeRuneZ_one (by omega) (by omega)]
  simp

theorem esc_ctl : ∀ b : UInt8, b.toNat < 32 → b ≠ 10 → b ≠ 13 → b ≠ 9 → ∀ m, escP (92 :: 117 :: 48 :: 48 :: hexd (b.toNat / 16) :: hexd (b.toNat % 16) :: m) = some (b.toNat, 6) := by
  intro b hb _ _ _ m
  have hx : ∀ k : Nat, k < 16 → hexv (hexd k) = some k := by decide
  have h0 : hexv 48 = some 0 := by decide
  unfold escP
  have f4 : fourN (92 :: 117 :: 48 :: 48 :: hexd (b.toNat / 16) :: hexd (b.toNat % 16) :: m) = some b.toNat := by
    unfold fourN
    simp only [h0, hx _ (show b.toNat / 16 < 16 by omega), hx _ (show b.toNat % 16 < 16 by omega)]
    congr 1
    omega
  simp only [f4]
  rw [if_neg (by decide), if_neg (by decide), if_neg (by decide), if_neg (by decide), if_neg (by decide), if_neg (by decide), if_pos (by decide), if_pos (by omega)]

/-- A byte below 128 that is printed is read back. -/
theorem unquote_ascii (b : UInt8) (h : b.toNat < 128) (m : List UInt8) : unquote (escB b ++ m) = addFront [b] (unquote m) := by
  have one : Lib.encodeRune (b.toNat : Int) = [b] := by rw [encode_ascii _ h]; simp
  by_cases h1 : b = 34 ∨ b = 92
  · have e : escB b = [92, b] := by unfold escB; rw [if_pos h1]
    rw [e]
    show unquote (92 :: b :: m) = _
    rw [unquote_cons, if_neg (by decide), if_pos rfl]
    have : escP (92 :: b :: m) = some (b.toNat, 2) := by
      unfold escP
      simp only []
      rw [if_pos (by rcases h1 with h1 | h1 <;> simp [h1])]
    rw [this]
    simp only [List.drop_succ_cons, List.drop_zero]
    rw [one]
  · by_cases h2 : b = 10
    · subst h2
      show unquote (92 :: 110 :: m) = _
      rw [unquote_cons, if_neg (by decide), if_pos rfl]
      rfl
    · by_cases h3 : b = 13
      · subst h3
        show unquote (92 :: 114 :: m) = _
        rw [unquote_cons, if_neg (by decide), if_pos rfl]
        rfl
      · by_cases h4 : b = 9
        · subst h4
          show unquote (92 :: 116 :: m) = _
          rw [unquote_cons, if_neg (by decide), if_pos rfl]
          rfl
        · by_cases h5 : b.toNat < 32
          · have e : escB b = [92, 117, 48, 48, hexd (b.toNat / 16), hexd (b.toNat % 16)] := by
              unfold escB; rw [if_neg h1, if_neg h2, if_neg h3, if_neg h4, if_pos h5]
            rw [e]
            show unquote (92 :: 117 :: 48 :: 48 :: hexd (b.toNat / 16) :: hexd (b.toNat % 16) :: m) = _
            rw [unquote_cons, if_neg (by decide), if_pos rfl, esc_ctl b h5 h2 h3 h4 m]
            simp only [List.drop_succ_cons, List.drop_zero]
            rw [one]
          · have e : escB b = [b] := by unfold escB; rw [if_neg h1, if_neg h2, if_neg h3, if_neg h4, if_neg h5]
            rw [e]
            show unquote (b :: m) = _
            have hd := Lib.decodeL_ascii b m h
            rw [unquote_cons, if_neg (fun hh => h1 (.inl hh)), if_neg (fun hh => h1 (.inr hh)), hd, if_neg (by simp only; omega)]
            rfl

/-- A text that is printed is read back. -/
theorem unquote_esc : ∀ (n : Nat) (t m : List UInt8), t.length ≤ n → Lib.validD t = true → unquote (escL t ++ 34 :: m) = some (t, m)
  | 0, t, m, h, _ => by
    have : t = [] := List.eq_nil_of_length_eq_zero (by omega)
    subst this
    show unquote (34 :: m) = _
    rw [unquote_cons, if_pos rfl]
  | n + 1, [], m, _, _ => by
    show unquote (34 :: m) = _
    rw [unquote_cons, if_pos rfl]
  | n + 1, c :: r, m, h, hv => by
    simp only [List.length_cons] at h
    by_cases hc : c.toNat < 128
    · rw [Lib.validD_cons c r hc] at hv
      have ih := unquote_esc n r m (by omega) hv
      show unquote ((escB c ++ escL r) ++ 34 :: m) = _
      rw [List.append_assoc, unquote_ascii c hc, ih]
      rfl
    · have hne : c :: r ≠ [] := by simp
      rw [Lib.validD_step _ hne] at hv
      by_cases hb : (Lib.decodeL (c :: r)).1 = 65533 ∧ (Lib.decodeL (c :: r)).2 = 1
      · rw [if_pos hb] at hv; cases hv
      · rw [if_neg hb] at hv
        have hw := Lib.decodeL_width (c :: r)
        have ih := unquote_esc n ((c :: r).drop (Lib.decodeL (c :: r)).2) m (by rw [List.length_drop, List.length_cons]; omega) hv
        have hhi := decodeL_high (c :: r) hne hb (by simp; omega)
        have hsplit : escL (c :: r) ++ 34 :: m = (c :: r).take (Lib.decodeL (c :: r)).2 ++ (escL ((c :: r).drop (Lib.decodeL (c :: r)).2) ++ 34 :: m) := by
          conv => lhs; rw [← List.take_append_drop (Lib.decodeL (c :: r)).2 (c :: r), escL_append, escL_high _ hhi]
          rw [List.append_assoc]
        rw [hsplit]
        generalize hk : escL ((c :: r).drop (Lib.decodeL (c :: r)).2) ++ 34 :: m = k at ih
        have hf := decodeL_front (c :: r) k hne hb
        generalize hd : Lib.decodeL (c :: r) = d at *
        obtain ⟨p, w⟩ := d
        simp only at *
        have hw' : (c :: r).take w = c :: r.take (w - 1) := by
          cases w with
          | zero => omega
          | succ w => rfl
        have hle : w ≤ (c :: r).length := by have := Lib.decodeL_le (c :: r) hne; rw [hd] at this; exact this
        rw [hw'] at hf ⊢
        rw [List.cons_append] at hf ⊢
        have q34 : ¬ c = 34 := by intro hh; subst hh; simp at hc
        have q92 : ¬ c = 92 := by intro hh; subst hh; simp at hc
        rw [unquote_cons, if_neg q34, if_neg q92, hf]
        simp only []
        rw [if_neg (by intro hh; rcases hh with hh | hh; omega; exact hb hh)]
        have hlen : (c :: r.take (w - 1)).length = w := by rw [← hw', List.length_take]; omega
        have e1 : (c :: (r.take (w - 1) ++ k)).take w = (c :: r).take w := by
          rw [hw', ← List.cons_append, List.take_append_of_le_length (by omega), List.take_of_length_le (by omega)]
        have e2 : (c :: (r.take (w - 1) ++ k)).drop w = k := by
          rw [← List.cons_append, List.drop_append_of_le_length (by omega), List.drop_eq_nil_of_le (by omega)]
          rfl
        rw [e1, e2, ih]
        simp only [addFront, Option.some.injEq, Prod.mk.injEq, and_true]
        rw [List.take_append_drop]
end Go.Proofs.YtdmnhkgiojkphaaGreatDoor
