/- Plain facts: what is printed, blanks about its tokens or not, is read back. -/
import Derived.Test.YtdmnhkgiojkphaaGreatDoorTreeQ
namespace Go.Proofs.YtdmnhkgiojkphaaGreatDoor
open Go

/-! ### numbers -/
theorem isDig_of (n : Nat) (h : n < 10) : isDig (UInt8.ofNat (48 + n)) = true := by
  unfold isDig
  have : (UInt8.ofNat (48 + n)).toNat = 48 + n := by simp; omega
  rw [this]
  simp
  omega
theorem dec_digits : ∀ (u : Nat), ∀ b ∈ Lib.decDigits u, isDig b = true := by
  intro u
  induction u using Nat.strongRecOn with
  | _ u ih =>
    intro b hb
    rw [Lib.decDigits] at hb
    split at hb
    · rename_i h
      simp only [List.mem_singleton] at hb
      subst hb
      exact isDig_of u h
    · rename_i h
      rcases List.mem_append.1 hb with hb | hb
      · exact ih (u / 10) (by omega) b hb
      · simp only [List.mem_singleton] at hb
        subst hb
        exact isDig_of _ (by omega)
theorem dec_ne (u : Nat) : Lib.decDigits u ≠ [] := by
  rw [Lib.decDigits]
  split <;> simp
theorem dec_head : ∀ (u : Nat), 1 ≤ u → (Lib.decDigits u).head? ≠ some 48 := by
  intro u
  induction u using Nat.strongRecOn with
  | _ u ih =>
    intro h1
    rw [Lib.decDigits]
    split
    · rename_i h
      intro hh
      simp only [List.head?_cons, Option.some.injEq] at hh
      have := congrArg UInt8.toNat hh
      simp at this
      omega
    · rename_i h
      have hne := dec_ne (u / 10)
      cases hd : Lib.decDigits (u / 10) with
      | nil => exact absurd hd hne
      | cons a r =>
        have := ih (u / 10) (by omega) (by omega)
        rw [hd] at this
        simpa using this
theorem dec_zero : Lib.decDigits 0 = [48] := by rw [Lib.decDigits]; simp
theorem parse_append (M : Nat) : ∀ (l m : List UInt8) (acc : Nat), Lib.parseUintM M acc (l ++ m) = match Lib.parseUintM M acc l with | .ok v => Lib.parseUintM M v m | .range => .range | .syntax => .syntax
  | [], m, acc => rfl
  | c :: r, m, acc => by
    simp only [List.cons_append, Lib.parseUintM]
    split
    · split
      · rfl
      · split
        · rfl
        · exact parse_append M r m _
    · rfl
theorem parse_dec (M : Nat) (hM : M < 18446744073709551616) : ∀ (u : Nat), u ≤ M → Lib.parseUintM M 0 (Lib.decDigits u) = .ok u := by
  intro u
  induction u using Nat.strongRecOn with
  | _ u ih =>
    intro hu
    have dig : ∀ n, n < 10 → (UInt8.ofNat (48 + n)).toNat = 48 + n := by intro n hn; simp; omega
    rw [Lib.decDigits]
    split
    · rename_i h
      simp only [Lib.parseUintM, dig u h]
      rw [if_pos (by omega), if_neg (by omega), if_neg (by omega)]
      congr 1
      omega
    · rename_i h
      rw [parse_append, ih (u / 10) (by omega) (by omega)]
      simp only [Lib.parseUintM, dig (u % 10) (by omega)]
      rw [if_pos (by omega), if_neg (by omega), if_neg (by omega)]
      congr 1
      omega
theorem dig_ne {b : UInt8} (h : isDig b = true) (k : UInt8) (hk : k.toNat < 48 ∨ 57 < k.toNat) : b ≠ k := by
  intro hh
  subst hh
  unfold isDig at h
  simp at h
  omega
theorem parse_itoa (n : Int) (h0 : -9223372036854775808 ≤ n) (h1 : n ≤ 9223372036854775807) : Lib.parseIntB 64 (Lib.itoa n) = .ok n := by
  unfold Lib.itoa
  by_cases hn : n < 0
  · rw [if_pos hn]
    have hp := parse_dec (2 ^ 64 - 1) (by omega) n.natAbs (by omega)
    have hne := dec_ne n.natAbs
    unfold Lib.parseIntB
    simp only []
    rw [if_pos (by decide)]
    unfold Lib.parseUintB
    rw [if_neg hne, hp]
    simp only []
    rw [if_neg (by simp), if_neg (by simp; omega)]
    rw [if_pos (by decide)]
    congr 1
    omega
  · rw [if_neg hn]
    have hp := parse_dec (2 ^ 64 - 1) (by omega) n.toNat (by omega)
    have hne := dec_ne n.toNat
    have hd := dec_digits n.toNat
    cases hl : Lib.decDigits n.toNat with
    | nil => exact absurd hl hne
    | cons c r =>
      have hc := hd c (by rw [hl]; simp)
      have c43 : ¬ c.toNat = 43 := by unfold isDig at hc; simp at hc; omega
      have c45 : ¬ c.toNat = 45 := by unfold isDig at hc; simp at hc; omega
      unfold Lib.parseIntB
      simp only []
      rw [if_neg (by simp [c43, c45])]
      unfold Lib.parseUintB
      rw [← hl, if_neg hne, hp]
      simp only []
      rw [if_neg (by simp; omega), if_neg (by simp [c45]), if_neg c45]
      congr 1
      omega
theorem digs_all : ∀ (l : List UInt8), (∀ b ∈ l, isDig b = true) → digs l = l.length
  | [], _ => rfl
  | b :: r, h => by
    have hb := h b (by simp)
    have := digs_all r (fun c hc => h c (by simp [hc]))
    unfold digs at this ⊢
    rw [List.takeWhile_cons, if_pos hb, List.length_cons, List.length_cons, this]
theorem dec_isnum (u : Nat) (w : List UInt8) (hw : w = Lib.decDigits u) : digs w = w.length ∧ ¬ (digs w = 0 ∨ (1 < digs w ∧ w.head? = some 48)) := by
  subst hw
  have hd := digs_all _ (dec_digits u)
  refine ⟨hd, ?_⟩
  rw [hd]
  have hl : 0 < (Lib.decDigits u).length := List.length_pos_iff.2 (dec_ne u)
  rintro (h | ⟨h, h'⟩)
  · omega
  · by_cases hu : u = 0
    · subst hu
      rw [dec_zero] at h
      simp at h
    · exact dec_head u (by omega) h'
theorem isNum_itoa (n : Int) : isNum (Lib.itoa n) = true := by
  have key : ∀ u : Nat, wholeNum (Lib.decDigits u) = true := by
    intro u
    obtain ⟨h1, h2⟩ := dec_isnum u _ rfl
    unfold wholeNum
    rw [if_neg h2, h1, List.drop_length]
    rfl
  unfold Lib.itoa isNum
  by_cases hn : n < 0
  · rw [if_pos hn]
    exact key n.natAbs
  · rw [if_neg hn]
    have : noMinus (Lib.decDigits n.toNat) = Lib.decDigits n.toNat := by
      cases hl : Lib.decDigits n.toNat with
      | nil => rfl
      | cons c r =>
        have hc := dec_digits n.toNat c (by rw [hl]; simp)
        have : c ≠ 45 := dig_ne hc 45 (by decide)
        unfold noMinus
        split
        · rename_i h
          injection h with h _
          exact absurd h this
        · rfl
    rw [this]
    exact key n.toNat
theorem itoa_cons (n : Int) : ∃ c r, Lib.itoa n = c :: r ∧ (isDig c = true ∨ (c = 45 ∧ r ≠ [48])) ∧ ∀ b ∈ r, isDig b = true := by
  unfold Lib.itoa
  by_cases hn : n < 0
  · rw [if_pos hn]
    refine ⟨45, _, rfl, .inr ⟨rfl, ?_⟩, dec_digits _⟩
    intro hh
    have := dec_head n.natAbs (by omega)
    rw [hh] at this
    simp at this
  · rw [if_neg hn]
    cases hl : Lib.decDigits n.toNat with
    | nil => exact absurd hl (dec_ne _)
    | cons c r =>
      have hd := dec_digits n.toNat
      rw [hl] at hd
      exact ⟨c, r, rfl, .inl (hd c (by simp)), fun b hb => hd b (by simp [hb])⟩
theorem readWord_itoa (n : Int) (h0 : -9223372036854775808 ≤ n) (h1 : n ≤ 9223372036854775807) : readWord (Lib.itoa n) = .ok (.mk 3 false n ⟨#[]⟩ [] []) := by
  obtain ⟨c, r, e, hc, hr⟩ := itoa_cons n
  have ne : ∀ k q, (k.toNat < 45 ∨ 57 < k.toNat) → Lib.itoa n ≠ k :: q := by
    intro k q hk hh
    rw [e] at hh
    have hck : c = k := by injection hh
    rcases hc with hc | ⟨hc, _⟩
    · exact dig_ne hc k (by omega) hck
    · rw [← hck, hc] at hk
      exact absurd hk (by decide)
  have nz : Lib.itoa n ≠ [45, 48] := by
    intro hh
    rw [e] at hh
    injection hh with h1 h2
    rcases hc with hc | ⟨_, hc⟩
    · exact dig_ne hc 45 (by decide) h1
    · exact hc h2
  unfold readWord
  rw [if_neg (show ¬ Lib.itoa n = nullW from ne 110 _ (by decide)), if_neg (show ¬ Lib.itoa n = falseW from ne 102 _ (by decide)), if_neg (show ¬ Lib.itoa n = trueW from ne 116 _ (by decide)), isNum_itoa, if_neg (by decide), parse_itoa n h0 h1]
  simp only []
  rw [if_neg nz]

/-! ### blanks, words -/
def Bl (b : List UInt8) : Prop := ∀ c ∈ b, isBlank c = true
def EndsAt (r : List UInt8) : Prop := ∀ c q, r = c :: q → isEnd c = true
theorem skip_blank : ∀ (b x : List UInt8), Bl b → skip (b ++ x) = skip x
  | [], _, _ => rfl
  | c :: r, x, h => by
    have hc := h c (by simp)
    have := skip_blank r x (fun d hd => h d (by simp [hd]))
    unfold skip at this ⊢
    rw [List.cons_append, List.dropWhile_cons, if_pos hc, this]
theorem skip_none {c : UInt8} {r : List UInt8} (h : isBlank c = false) : skip (c :: r) = c :: r := by
  unfold skip
  rw [List.dropWhile_cons, if_neg (by simp [h])]
theorem skip_to {b x : List UInt8} {c : UInt8} {r : List UInt8} (hb : Bl b) (hx : x = c :: r) (h : isBlank c = false) (m : List UInt8) : skip (b ++ (x ++ m)) = c :: (r ++ m) := by
  rw [skip_blank b _ hb, hx, List.cons_append, skip_none h]
theorem ends_blank {c z : List UInt8} (hc : Bl c) (hz : EndsAt z) : EndsAt (c ++ z) := by
  intro d q h
  cases c with
  | nil => exact hz d q h
  | cons a r =>
    have := hc a (by simp)
    rw [List.cons_append] at h
    injection h with h1 h2
    subst h1
    unfold isBlank at this
    unfold isEnd
    simp at this ⊢
    rcases this with ((h | h) | h) | h <;> simp [h]
theorem wordOf_ends {w r : List UInt8} (hw : ∀ b ∈ w, isEnd b = false) (hr : EndsAt r) : wordOf (w ++ r) = w := by
  unfold wordOf
  induction w with
  | nil =>
    cases r with
    | nil => rfl
    | cons c q => rw [List.nil_append, List.takeWhile_cons, if_neg (by simp [hr c q rfl])]
  | cons a q ih =>
    rw [List.cons_append, List.takeWhile_cons, if_pos (by simp [hw a (by simp)]), ih (fun b hb => hw b (by simp [hb]))]
theorem dig_noend {b : UInt8} (h : isDig b = true) : isEnd b = false := by
  unfold isEnd
  have k : ∀ k : UInt8, (k.toNat < 48 ∨ 57 < k.toNat) → (b == k) = false := fun k hk => by simp; exact dig_ne h k hk
  rw [k 91 (by decide), k 93 (by decide), k 123 (by decide), k 125 (by decide), k 44 (by decide), k 58 (by decide), k 34 (by decide), k 9 (by decide), k 10 (by decide), k 13 (by decide), k 32 (by decide)]
  rfl
theorem noend_blank {c : UInt8} (h : isEnd c = false) : isBlank c = false := by
  unfold isEnd at h
  unfold isBlank
  simp at h ⊢
  exact ⟨⟨⟨h.2, h.1.1.1.2⟩, h.1.1.2⟩, h.1.2⟩

/-- An item that is a word. -/
theorem item_word (d : Option (List UInt8 → Res Tree)) (b w r : List UInt8) (t : Tree) (hb : Bl b) (hw : ∀ c ∈ w, isEnd c = false) (hr : EndsAt r) (ht : readWord w = .ok t) (hne : w ≠ []) : itemW d (b ++ (w ++ r)) = .ok t r := by
  cases w with
  | nil => exact absurd rfl hne
  | cons c q =>
    have hc := hw c (by simp)
    unfold itemW
    rw [skip_to hb rfl (noend_blank hc)]
    have e91 : ¬ c = 91 := by intro h; subst h; cases hc
    have e123 : ¬ c = 123 := by intro h; subst h; cases hc
    have e34 : ¬ c = 34 := by intro h; subst h; cases hc
    simp only []
    have hwo : wordOf (c :: (q ++ r)) = c :: q := wordOf_ends (w := c :: q) hw hr
    rw [if_neg e91, if_neg e123, if_neg e34, hwo, ht]
    simp only []
    rw [show c :: (q ++ r) = (c :: q) ++ r from rfl, List.drop_left]

/-- An item that is a text. -/
theorem item_text (d : Option (List UInt8 → Res Tree)) (b t r : List UInt8) (hb : Bl b) (ht : Lib.validD t = true) : itemW d (b ++ (quo t ++ r)) = .ok (.mk 4 false 0 (str t) [] []) r := by
  unfold itemW
  rw [skip_to (x := quo t) hb rfl (by decide)]
  simp only []
  rw [if_neg (by decide), if_neg (by decide), if_pos trivial, List.append_assoc, List.singleton_append, unquote_esc _ t r (Nat.le_refl _) ht]

/-! ### what spells a tree -/
mutual
def SpT : Tree → List UInt8 → Prop
  | .mk k f n t ks is, x =>
    if k = 5 then ∃ y, x = 91 :: (y ++ [93]) ∧ SpL is y
    else if k = 6 then ∃ y, x = 123 :: (y ++ [125]) ∧ SpM is ks y
    else x = pr (.mk k f n t ks is)
def SpL : List Tree → List UInt8 → Prop
  | [], y => Bl y
  | t :: r, y => ∃ b x c z, y = b ++ (x ++ (c ++ z)) ∧ Bl b ∧ Bl c ∧ SpT t x ∧ (r = [] → z = []) ∧ (r ≠ [] → ∃ z', z = 44 :: z' ∧ SpL r z')
def SpM : List Tree → List ByteArray → List UInt8 → Prop
  | [], _, y => Bl y
  | t :: r, ks, y => ∃ k kr, ks = k :: kr ∧ ∃ b d e x c z, y = b ++ (quo k.data.toList ++ (d ++ 58 :: (e ++ (x ++ (c ++ z))))) ∧ Bl b ∧ Bl d ∧ Bl e ∧ Bl c ∧ SpT t x ∧ (r = [] → z = []) ∧ (r ≠ [] → ∃ z', z = 44 :: z' ∧ SpM r kr z')
end
theorem SpT_eq (t : Tree) (x : List UInt8) : SpT t x = if t.kind = 5 then ∃ y, x = 91 :: (y ++ [93]) ∧ SpL t.items y
    else if t.kind = 6 then ∃ y, x = 123 :: (y ++ [125]) ∧ SpM t.items t.keys y else x = pr t := by
  cases t with | mk k f n t ks is => rw [SpT]; rfl

/-- Numbers of 64 bits. -/
def fitsN (n : Int) : Prop := -9223372036854775808 ≤ n ∧ n ≤ 9223372036854775807
mutual
def Fits : Tree → Prop
  | .mk _ _ n _ _ is => fitsN n ∧ FitsL is
def FitsL : List Tree → Prop
  | [] => True
  | t :: r => Fits t ∧ FitsL r
end
theorem Fits_eq (t : Tree) : Fits t = (fitsN t.n ∧ FitsL t.items) := by cases t with | mk => rw [Fits]; rfl
theorem FitsL_mem {l : List Tree} (h : FitsL l) : ∀ t ∈ l, Fits t := by
  induction l with
  | nil => intro t ht; cases ht
  | cons a r ih =>
    rw [FitsL] at h
    intro t ht
    rcases List.mem_cons.1 ht with rfl | ht
    · exact h.1
    · exact ih h.2 t ht
theorem FitsL_of {l : List Tree} (h : ∀ t ∈ l, Fits t) : FitsL l := by
  induction l with
  | nil => trivial
  | cons a r ih =>
    rw [FitsL]
    exact ⟨h a (by simp), ih (fun t ht => h t (by simp [ht]))⟩

/-- A reader of items reads t, however it is spelt. -/
def Reads (it : List UInt8 → Res Tree) (t : Tree) : Prop := ∀ b x r, Bl b → SpT t x → EndsAt r → it (b ++ (x ++ r)) = .ok t r

theorem ends_at {c : UInt8} {q : List UInt8} (h : isEnd c = true) : EndsAt (c :: q) := by
  intro d r hd
  injection hd with h1 h2
  rw [← h1]
  exact h

theorem listGo_reads (it : List UInt8 → Res Tree) : ∀ (ts : List Tree) (y r : List UInt8) (acc : List Tree) (f : Nat), ts ≠ [] → (∀ t ∈ ts, Reads it t) → SpL ts y → ts.length ≤ f →
    listGo it f (y ++ 93 :: r) acc = .ok (.mk 5 false 0 ⟨#[]⟩ [] (acc ++ ts)) r
  | [], _, _, _, _, h, _, _, _ => absurd rfl h
  | _ :: _, _, _, _, 0, _, _, _, h => by simp at h
  | t :: ts, y, r, acc, f + 1, _, hr, hs, hf => by
    rw [SpL] at hs
    obtain ⟨b, x, c, z, rfl, hb, hc, hx, hz0, hz1⟩ := hs
    have e : b ++ (x ++ (c ++ z)) ++ 93 :: r = b ++ (x ++ (c ++ (z ++ 93 :: r))) := by simp
    rw [e]
    unfold listGo
    by_cases h0 : ts = []
    · have hz := hz0 h0
      subst h0
      subst hz
      rw [hr t (by simp) b x (c ++ ([] ++ 93 :: r)) hb hx (ends_blank hc (ends_at (by decide)))]
      simp only []
      rw [List.nil_append, skip_blank c _ hc, skip_none (by decide)]
      rfl
    · obtain ⟨z', rfl, hz'⟩ := hz1 h0
      rw [hr t (by simp) b x (c ++ (44 :: z' ++ 93 :: r)) hb hx (ends_blank hc (ends_at (by decide)))]
      simp only []
      rw [skip_blank c _ hc, List.cons_append, skip_none (by decide)]
      simp only []
      rw [listGo_reads it ts z' r (acc ++ [t]) f h0 (fun t ht => hr t (by simp [ht])) hz' (by simp at hf; omega)]
      simp

theorem spl_notend {ts : List Tree} {y : List UInt8} (h : ts ≠ []) (hs : SpL ts y) : ts.length ≤ y.length := by
  induction ts generalizing y with
  | nil => exact absurd rfl h
  | cons t r ih =>
    rw [SpL] at hs
    obtain ⟨b, x, c, z, rfl, hb, hc, hx, hz0, hz1⟩ := hs
    have hx1 : 1 ≤ x.length := by
      rw [SpT_eq] at hx
      split at hx
      · obtain ⟨y, rfl, _⟩ := hx; simp
      · split at hx
        · obtain ⟨y, rfl, _⟩ := hx; simp
        · rename_i h5 h6
          rw [hx, pr_eq]
          rw [if_neg h5]
          repeat' split
          all_goals first
            | (simp [nullW, trueW, falseW, quo]; done)
            | (have := itoa_cons t.n; obtain ⟨c, r, e, _⟩ := this; rw [e]; simp)
            | simp
    simp only [List.length_append, List.length_cons]
    by_cases h0 : r = []
    · subst h0; simp; omega
    · obtain ⟨z', rfl, hz'⟩ := hz1 h0
      have := ih h0 hz'
      simp only [List.length_cons]
      omega

theorem spt_head {t : Tree} {x : List UInt8} (hc : 1 ≤ t.kind ∧ t.kind ≤ 6) (hx : SpT t x) : ∃ c q, x = c :: q ∧ isBlank c = false ∧ c ≠ 93 ∧ c ≠ 125 := by
  rw [SpT_eq] at hx
  split at hx
  · obtain ⟨y, rfl, _⟩ := hx; exact ⟨_, _, rfl, by decide, by decide, by decide⟩
  · split at hx
    · obtain ⟨y, rfl, _⟩ := hx; exact ⟨_, _, rfl, by decide, by decide, by decide⟩
    · rename_i h5 h6
      rw [hx, pr_eq, if_neg h5]
      repeat' split
      · exact ⟨_, _, rfl, by decide, by decide, by decide⟩
      · exact ⟨_, _, rfl, by decide, by decide, by decide⟩
      · exact ⟨_, _, rfl, by decide, by decide, by decide⟩
      · obtain ⟨c, r, e, h, _⟩ := itoa_cons t.n
        refine ⟨c, r, e, ?_⟩
        rcases h with h | ⟨h, _⟩
        · exact ⟨noend_blank (dig_noend h), dig_ne h 93 (by decide), dig_ne h 125 (by decide)⟩
        · subst h; exact ⟨by decide, by decide, by decide⟩
      · exact ⟨_, _, rfl, by decide, by decide, by decide⟩
      · exfalso; omega

theorem listR_reads (it : List UInt8 → Res Tree) (ts : List Tree) (y r : List UInt8) (hk : ∀ t ∈ ts, 1 ≤ t.kind ∧ t.kind ≤ 6) (hr : ∀ t ∈ ts, Reads it t) (hs : SpL ts y) :
    listR it (y ++ 93 :: r) = .ok (.mk 5 false 0 ⟨#[]⟩ [] ts) r := by
  unfold listR
  cases ts with
  | nil =>
    rw [SpL] at hs
    rw [skip_blank y _ hs, skip_none (by decide)]
    rfl
  | cons t ts =>
    have hl := spl_notend (by simp) hs
    have hs' := hs
    rw [SpL] at hs'
    obtain ⟨b, x, c, z, e, hb, hc, hx, _, _⟩ := hs'
    obtain ⟨d, q, rfl, hd, hd1, hd2⟩ := spt_head (hk t (by simp)) hx
    have hsk : skip (y ++ 93 :: r) = d :: (q ++ ((c ++ z) ++ 93 :: r)) := by
      rw [e, List.append_assoc, List.append_assoc]
      exact skip_to hb rfl hd _
    rw [hsk]
    rw [show (t :: ts : List Tree) = [] ++ (t :: ts) from rfl, ← listGo_reads it (t :: ts) y r [] ((y ++ 93 :: r).length + 1) (by simp) hr hs (by rw [List.length_append]; omega)]
    split
    · rename_i h; injection h with h _; exact absurd h hd1
    · rfl

/-! ### maps -/
theorem contains_append (ks : List ByteArray) (k : ByteArray) (kr : List ByteArray) (h : nodup (ks ++ k :: kr) = true) : k ∉ ks := by
  induction ks with
  | nil => simp
  | cons a r ih =>
    simp only [List.cons_append, nodup, Bool.and_eq_true, Bool.not_eq_true'] at h
    intro hk
    rcases List.mem_cons.1 hk with rfl | hk
    · exact hasK_false.1 h.1 (by simp)
    · exact ih h.2 hk

theorem keyR_reads (ks : List ByteArray) (k : ByteArray) (b r : List UInt8) (hb : Bl b) (hk : good k = true) (hn : k ∉ ks) : keyR ks (b ++ (quo k.data.toList ++ r)) = .ok k r := by
  unfold keyR
  rw [skip_to (x := quo k.data.toList) hb rfl (by decide)]
  rw [List.append_assoc, List.singleton_append]
  show (match unquote (escL k.data.toList ++ 34 :: r) with | none => _ | some (k, q) => _) = _
  rw [unquote_esc _ _ r (Nat.le_refl _) hk]
  simp only []
  rw [list_str, hasK_false.2 hn]
  rfl

theorem mapGo_reads (it : List UInt8 → Res Tree) : ∀ (ts : List Tree) (kr : List ByteArray) (y r : List UInt8) (ks : List ByteArray) (acc : List Tree) (f : Nat), ts ≠ [] → (∀ t ∈ ts, Reads it t) → (∀ k ∈ kr, good k = true) → nodup (ks ++ kr) = true → kr.length = ts.length → SpM ts kr y → ts.length ≤ f →
    mapGo it f (y ++ 125 :: r) ks acc = .ok (.mk 6 false 0 ⟨#[]⟩ (ks ++ kr) (acc ++ ts)) r
  | [], _, _, _, _, _, _, h, _, _, _, _, _, _ => absurd rfl h
  | _ :: _, _, _, _, _, _, 0, _, _, _, _, _, _, h => by simp at h
  | t :: ts, kr, y, r, ks, acc, f + 1, _, hr, hg, hn, hl, hs, hf => by
    rw [SpM] at hs
    obtain ⟨k, kr, rfl, b, d, e, x, c, z, rfl, hb, hd, he, hc, hx, hz0, hz1⟩ := hs
    have e1 : b ++ (quo k.data.toList ++ (d ++ 58 :: (e ++ (x ++ (c ++ z))))) ++ 125 :: r = b ++ (quo k.data.toList ++ (d ++ 58 :: (e ++ (x ++ (c ++ (z ++ 125 :: r)))))) := by simp
    rw [e1]
    unfold mapGo
    rw [keyR_reads ks k b _ hb (hg k (by simp)) (contains_append ks k kr hn)]
    simp only []
    rw [skip_blank d _ hd, skip_none (by decide)]
    simp only []
    by_cases h0 : ts = []
    · have hz := hz0 h0
      subst h0
      subst hz
      have hkr : kr = [] := List.eq_nil_of_length_eq_zero (by simpa using hl)
      subst hkr
      rw [hr t (by simp) e x (c ++ ([] ++ 125 :: r)) he hx (ends_blank hc (ends_at (by decide)))]
      simp only []
      rw [List.nil_append, skip_blank c _ hc, skip_none (by decide)]
      rfl
    · obtain ⟨z', rfl, hz'⟩ := hz1 h0
      rw [hr t (by simp) e x (c ++ (44 :: z' ++ 125 :: r)) he hx (ends_blank hc (ends_at (by decide)))]
      simp only []
      rw [skip_blank c _ hc, List.cons_append, skip_none (by decide)]
      simp only []
      rw [mapGo_reads it ts kr z' r (ks ++ [k]) (acc ++ [t]) f h0 (fun t ht => hr t (by simp [ht])) (fun k hk => hg k (by simp [hk])) (by simpa using hn) (by simpa using hl) hz' (by simp at hf; omega)]
      simp

theorem spm_long {ts : List Tree} {ks : List ByteArray} {y : List UInt8} (hs : SpM ts ks y) : ts.length ≤ y.length := by
  induction ts generalizing y ks with
  | nil => simp
  | cons t r ih =>
    rw [SpM] at hs
    obtain ⟨k, kr, rfl, b, d, e, x, c, z, rfl, hb, hd, he, hc, hx, hz0, hz1⟩ := hs
    simp only [List.length_append, List.length_cons]
    by_cases h0 : r = []
    · subst h0; simp; omega
    · obtain ⟨z', rfl, hz'⟩ := hz1 h0
      have := ih hz'
      simp only [List.length_cons]
      omega

theorem mapR_reads (it : List UInt8 → Res Tree) (ts : List Tree) (kr : List ByteArray) (y r : List UInt8) (hr : ∀ t ∈ ts, Reads it t) (hg : ∀ k ∈ kr, good k = true) (hn : nodup kr = true) (hl : kr.length = ts.length) (hs : SpM ts kr y) :
    mapR it (y ++ 125 :: r) = .ok (.mk 6 false 0 ⟨#[]⟩ kr ts) r := by
  unfold mapR
  cases ts with
  | nil =>
    have : kr = [] := List.eq_nil_of_length_eq_zero (by simpa using hl)
    subst this
    rw [SpM] at hs
    rw [skip_blank y _ hs, skip_none (by decide)]
    rfl
  | cons t ts =>
    have hlen := spm_long hs
    have hs' := hs
    rw [SpM] at hs'
    obtain ⟨k, kr', ek, b, d, e, x, c, z, ey, hb, _⟩ := hs'
    have hsk : ∃ q, skip (y ++ 125 :: r) = 34 :: q := by
      rw [ey, List.append_assoc, List.append_assoc]
      exact ⟨_, skip_to (x := quo k.data.toList) hb rfl (by decide) _⟩
    obtain ⟨q, hsk⟩ := hsk
    rw [hsk]
    show mapGo it _ _ [] [] = _
    rw [mapGo_reads it (t :: ts) kr y r [] [] _ (by simp) hr hg (by simpa using hn) hl hs (by rw [List.length_append]; omega)]
    rfl

/-! ### the whole -/
theorem one_kind {t : Tree} {about : Nat} (h : oneE t about = 0) : 1 ≤ t.kind ∧ t.kind ≤ 6 ∧ spareB t = true ∧ good t.text = true ∧ t.keys.all good = true ∧ (t.kind = 6 → t.keys.length = t.items.length ∧ nodup t.keys = true) ∧ (hasItems t.kind = true → about < 32) := by
  unfold oneE at h
  split at h
  · cases h
  · rename_i h1
    split at h
    · cases h
    · rename_i h2
      split at h
      · cases h
      · rename_i h3
        split at h
        · cases h
        · rename_i h4
          simp only [Bool.or_eq_true, decide_eq_true_eq, Bool.not_eq_true', not_or, Bool.and_eq_true, not_and, Bool.not_eq_false] at h1 h2 h3 h4
          refine ⟨by omega, by omega, h2.2, h3.1, h3.2, fun h6 => ?_, fun hh => by have := h1 hh; omega⟩
          have := h4 (by simp [h6])
          unfold keysFit at this
          simp only [Bool.and_eq_true, beq_iff_eq] at this
          exact this
theorem check_one {t : Tree} {about : Nat} (h : checkT t about = 0) : oneE t about = 0 ∧ ∀ x ∈ t.items, checkT x (about + 1) = 0 := by
  rw [checkT_eq] at h
  split at h
  · rename_i h1
    exact ⟨h1, checkL_zero.1 h⟩
  · rename_i h1
    exact absurd h h1

/-- The fields that a kind does not use are zero. -/
theorem leaf_shape {t : Tree} {about : Nat} (h : oneE t about = 0) :
    (t.kind = 1 → t = .mk 1 false 0 ⟨#[]⟩ [] []) ∧ (t.kind = 2 → t = .mk 2 t.flag 0 ⟨#[]⟩ [] []) ∧ (t.kind = 3 → t = .mk 3 false t.n ⟨#[]⟩ [] []) ∧ (t.kind = 4 → t = .mk 4 false 0 t.text [] []) ∧ (t.kind = 5 → t = .mk 5 false 0 ⟨#[]⟩ [] t.items) ∧ (t.kind = 6 → t = .mk 6 false 0 ⟨#[]⟩ t.keys t.items) := by
  have hs := (one_kind h).2.2.1
  cases t with | mk k f n t ks is =>
  unfold spareB at hs
  simp only [Tree.kind, Tree.flag, Tree.n, Tree.text, Tree.keys, Tree.items, Bool.and_eq_true, Bool.or_eq_true, Bool.not_eq_true', beq_iff_eq, hasItems] at hs ⊢
  obtain ⟨⟨⟨⟨h1, h2⟩, h3⟩, h4⟩, h5⟩ := hs
  have ht : t.size = 0 → t = ⟨#[]⟩ := fun h => by
    cases t with | mk d =>
    have : d.size = 0 := h
    simp [Array.eq_empty_of_size_eq_zero this]
  have hk : ks.length = 0 → ks = [] := List.eq_nil_of_length_eq_zero
  have hi : is.length = 0 → is = [] := List.eq_nil_of_length_eq_zero
  refine ⟨?_, ?_, ?_, ?_, ?_, ?_⟩ <;> intro hkk <;> subst hkk <;> simp [-ByteArray.size_eq_zero_iff] at h1 h2 h3 h4 h5 ⊢
  · exact ⟨h1, h2, ht h3, h4, h5⟩
  · exact ⟨h2, ht h3, h4, h5⟩
  · exact ⟨h1, ht h3, h4, h5⟩
  · exact ⟨h1, h2, h4, h5⟩
  · exact ⟨h1, h2, ht h3, h4⟩
  · exact ⟨h1, h2, ht h3⟩

/-- A tree that may be is read, however it is spelt, where its depth may be. -/
theorem itemR_reads : ∀ (k : Nat) (t : Tree) (about : Nat), checkT t about = 0 → Fits t → depthT t ≤ k → Reads (itemR k) t := by
  have leaf : ∀ (d : Option (List UInt8 → Res Tree)) (t : Tree) (about : Nat), checkT t about = 0 → Fits t → t.kind ≠ 5 → t.kind ≠ 6 → Reads (itemW d) t := by
    intro d t about hc hf h5 h6 b x r hb hx hr
    have h1 := (check_one hc).1
    have hk := one_kind h1
    obtain ⟨s1, s2, s3, s4, _, _⟩ := leaf_shape h1
    rw [SpT_eq, if_neg h5, if_neg h6, pr_eq, if_neg h5] at hx
    by_cases e1 : t.kind = 1
    · rw [if_pos e1] at hx
      subst hx
      rw [s1 e1]
      exact item_word d b nullW r _ hb (by decide) hr rfl (by decide)
    · rw [if_neg e1] at hx
      by_cases e2 : t.kind = 2
      · rw [if_pos e2] at hx
        rw [s2 e2]
        by_cases hfl : t.flag = true
        · rw [if_pos hfl] at hx
          subst hx
          rw [hfl]
          exact item_word d b trueW r _ hb (by decide) hr rfl (by decide)
        · rw [if_neg hfl] at hx
          subst hx
          rw [show t.flag = false by simpa using hfl]
          exact item_word d b falseW r _ hb (by decide) hr rfl (by decide)
      · rw [if_neg e2] at hx
        by_cases e3 : t.kind = 3
        · rw [if_pos e3] at hx
          subst hx
          rw [Fits_eq] at hf
          obtain ⟨c, q, e, h, hq⟩ := itoa_cons t.n
          refine (item_word d b _ r _ hb ?_ hr (readWord_itoa t.n hf.1.1 hf.1.2) (by rw [e]; simp)).trans (congrArg (Res.ok · r) (s3 e3).symm)
          rw [e]
          intro y hy
          rcases List.mem_cons.1 hy with rfl | hy
          · rcases h with h | ⟨h, _⟩
            · exact dig_noend h
            · subst h; decide
          · exact dig_noend (hq y hy)
        · rw [if_neg e3] at hx
          have e4 : t.kind = 4 := by omega
          rw [if_pos e4] at hx
          subst hx
          have := item_text d b t.text.data.toList r hb hk.2.2.2.1
          rw [list_str] at this
          exact this.trans (congrArg (Res.ok · r) (s4 e4).symm)
  intro k
  induction k with
  | zero =>
    intro t about hc hf hd
    have hni : hasItems t.kind = false := by
      rw [depthT_eq] at hd
      split at hd
      · omega
      · rename_i h; simpa using h
    have : t.kind ≠ 5 ∧ t.kind ≠ 6 := by
      unfold hasItems at hni
      simp at hni
      exact hni
    exact leaf none t about hc hf this.1 this.2
  | succ k ih =>
    intro t about hc hf hd
    have h1 := check_one hc
    have hk := one_kind h1.1
    obtain ⟨_, _, _, _, s5, s6⟩ := leaf_shape h1.1
    rw [Fits_eq] at hf
    have hr : hasItems t.kind = true → ∀ x ∈ t.items, Reads (itemR k) x := by
      intro hi x hx
      rw [depthT_eq, if_pos hi] at hd
      exact ih x (about + 1) (h1.2 x hx) (FitsL_mem hf.2 x hx) (Nat.le_trans (depthL_mem hx) (by omega))
    have hki : ∀ x ∈ t.items, 1 ≤ x.kind ∧ x.kind ≤ 6 := fun x hx => by
      have := one_kind (check_one (h1.2 x hx)).1
      exact ⟨this.1, this.2.1⟩
    by_cases h5 : t.kind = 5
    · intro b x r hb hx hre
      rw [SpT_eq, if_pos h5] at hx
      obtain ⟨y, rfl, hy⟩ := hx
      show itemW (some (itemR k)) _ = _
      unfold itemW
      rw [skip_to hb rfl (by decide)]
      simp only []
      rw [if_pos trivial, List.append_assoc, List.singleton_append, listR_reads _ t.items y r hki (hr (by rw [h5]; rfl)) hy, ← s5 h5]
    · by_cases h6 : t.kind = 6
      · intro b x r hb hx hre
        rw [SpT_eq, if_neg h5, if_pos h6] at hx
        obtain ⟨y, rfl, hy⟩ := hx
        obtain ⟨q1, q2⟩ := hk.2.2.2.2.2.1 h6
        show itemW (some (itemR k)) _ = _
        unfold itemW
        rw [skip_to hb rfl (by decide)]
        simp only []
        rw [if_neg (by decide), if_pos trivial, List.append_assoc, List.singleton_append, mapR_reads _ t.items t.keys y r (hr (by rw [h6]; rfl)) (List.all_eq_true.1 hk.2.2.2.2.1) q2 q1 hy, ← s6 h6]
      · exact leaf (some (itemR k)) t about hc (by rw [Fits_eq]; exact hf) h5 h6

/-! ### the print itself spells the tree -/
theorem bl_nil : Bl [] := fun c h => by cases h
mutual
theorem pr_sp : ∀ (t : Tree) (about : Nat), checkT t about = 0 → SpT t (pr t)
  | .mk k f n t ks is, about, hc => by
    have h1 := check_one hc
    have hk := one_kind h1.1
    rw [SpT, pr_eq]
    by_cases h5 : k = 5
    · rw [if_pos h5]
      subst h5
      refine ⟨sep (is.map pr), rfl, prl_sp is (about + 1) h1.2⟩
    · rw [if_neg h5]
      by_cases h6 : k = 6
      · subst h6
        rw [if_pos rfl]
        refine ⟨sep (ents ks (is.map pr)), rfl, prm_sp is ks (about + 1) (hk.2.2.2.2.2.1 rfl).1 h1.2⟩
      · rw [if_neg h6]
theorem prl_sp : ∀ (l : List Tree) (about : Nat), (∀ t ∈ l, checkT t about = 0) → SpL l (sep (l.map pr))
  | [], _, _ => by rw [SpL]; exact bl_nil
  | [t], about, h => by
    rw [SpL]
    exact ⟨[], pr t, [], [], by simp [sep], bl_nil, bl_nil, pr_sp t about (h t (by simp)), fun _ => rfl, fun h => absurd rfl h⟩
  | t :: u :: r, about, h => by
    rw [SpL]
    refine ⟨[], pr t, [], 44 :: sep ((u :: r).map pr), by simp [sep], bl_nil, bl_nil, pr_sp t about (h t (by simp)), fun h => by simp at h, fun _ => ⟨_, rfl, prl_sp (u :: r) about (fun x hx => h x (by simp [hx]))⟩⟩
theorem prm_sp : ∀ (l : List Tree) (ks : List ByteArray) (about : Nat), ks.length = l.length → (∀ t ∈ l, checkT t about = 0) → SpM l ks (sep (ents ks (l.map pr)))
  | [], ks, _, hl, _ => by
    have : ks = [] := List.eq_nil_of_length_eq_zero (by simpa using hl)
    subst this
    rw [SpM]; exact bl_nil
  | [t], ks, about, hl, h => by
    obtain ⟨k, rfl⟩ : ∃ k, ks = [k] := List.length_eq_one_iff.1 hl
    rw [SpM]
    exact ⟨k, [], rfl, [], [], [], pr t, [], [], by simp [sep, ents], bl_nil, bl_nil, bl_nil, bl_nil, pr_sp t about (h t (by simp)), fun _ => rfl, fun h => absurd rfl h⟩
  | t :: u :: r, [], about, hl, h => by simp at hl
  | t :: u :: r, [k], about, hl, h => by simp at hl
  | t :: u :: r, k :: k2 :: kr, about, hl, h => by
    rw [SpM]
    refine ⟨k, k2 :: kr, rfl, [], [], [], pr t, [], 44 :: sep (ents (k2 :: kr) ((u :: r).map pr)), by simp [sep, ents], bl_nil, bl_nil, bl_nil, bl_nil, pr_sp t about (h t (by simp)), fun h => by simp at h, fun _ => ⟨_, rfl, prm_sp (u :: r) (k2 :: kr) about (by simpa using hl) (fun x hx => h x (by simp [hx]))⟩⟩
end

/-- What is printed is read back. -/
theorem parse_print (d : Nat) (t : Tree) (hc : checkT t 0 = 0) (hf : Fits t) (hd : depthT t ≤ d) : parseR d (pr t) = .ok t [] := by
  have := itemR_reads d t 0 hc hf hd [] (pr t) [] bl_nil (pr_sp t 0 hc) (fun c q h => by cases h)
  unfold parseR
  rw [List.nil_append, List.append_nil] at this
  rw [this]
  rfl
end Go.Proofs.YtdmnhkgiojkphaaGreatDoor
