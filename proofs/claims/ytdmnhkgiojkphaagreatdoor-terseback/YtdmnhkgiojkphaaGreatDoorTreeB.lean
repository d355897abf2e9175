/- Plain facts: a print with blanks about its tokens, one that is too deep, one with more behind it. -/
import Derived.Test.YtdmnhkgiojkphaaGreatDoorTreeR
namespace Go.Proofs.YtdmnhkgiojkphaaGreatDoor
open Go

def isMark (c : UInt8) : Bool := c == 91 || c == 93 || c == 123 || c == 125 || c == 44 || c == 58
/-- Where the scan stands behind a byte: 0 outside of texts, 1 within one, 2 behind a backslash. -/
def nextS (st : Nat) (c : UInt8) : Nat := if st = 2 then 1 else if st = 1 then (if c = 92 then 2 else if c = 34 then 0 else 1) else if c = 34 then 1 else 0
def blk (B : Nat → List UInt8) : Nat → Nat → List UInt8 → List UInt8
  | _, _, [] => []
  | st, i, c :: r => (if st = 0 ∧ isMark c = true then B i ++ c :: B (i + 1) else [c]) ++ blk B (nextS st c) (i + 1) r
def finS : Nat → List UInt8 → Nat
  | st, [] => st
  | st, c :: r => finS (nextS st c) r
theorem finS_append : ∀ (p q : List UInt8) (st : Nat), finS st (p ++ q) = finS (finS st p) q
  | [], _, _ => rfl
  | c :: r, q, st => by rw [List.cons_append, finS, finS, finS_append r q]
theorem blk_append (B : Nat → List UInt8) : ∀ (p q : List UInt8) (st i : Nat), blk B st i (p ++ q) = blk B st i p ++ blk B (finS st p) (i + p.length) q
  | [], q, st, i => by simp [blk, finS]
  | c :: r, q, st, i => by
    rw [List.cons_append, blk, blk, finS, blk_append B r q, List.append_assoc, List.length_cons, show i + 1 + r.length = i + (r.length + 1) by omega]
/-- No state on the way is 'outside'. -/
def staysS : Nat → List UInt8 → Bool
  | _, [] => true
  | st, c :: r => decide (st ≠ 0) && staysS (nextS st c) r
theorem blk_stays (B : Nat → List UInt8) : ∀ (l : List UInt8) (st i : Nat), staysS st l = true → blk B st i l = l
  | [], _, _, _ => rfl
  | c :: r, st, i, h => by
    rw [staysS, Bool.and_eq_true] at h
    rw [blk, if_neg (fun h' => absurd h'.1 (of_decide_eq_true h.1)), blk_stays B r _ _ h.2]
    rfl
theorem hexd_plain : ∀ k : Nat, k < 16 → hexd k ≠ 92 ∧ hexd k ≠ 34 := by decide
theorem esc_scan (b : UInt8) : finS 1 (escB b) = 1 ∧ staysS 1 (escB b) = true := by
  unfold escB
  split
  · constructor <;> rfl
  split
  · constructor <;> rfl
  split
  · constructor <;> rfl
  split
  · constructor <;> rfl
  split
  · rename_i h
    obtain ⟨x1, x2⟩ := hexd_plain (b.toNat / 16) (by omega)
    obtain ⟨y1, y2⟩ := hexd_plain (b.toNat % 16) (by omega)
    generalize hexd (b.toNat / 16) = x at x1 x2 ⊢
    generalize hexd (b.toNat % 16) = y at y1 y2 ⊢
    have n1 : nextS 1 92 = 2 := rfl
    have n2 : nextS 2 117 = 1 := rfl
    have n3 : nextS 1 48 = 1 := rfl
    have nx : nextS 1 x = 1 := by unfold nextS; rw [if_neg (by decide), if_pos rfl, if_neg x1, if_neg x2]
    have ny : nextS 1 y = 1 := by unfold nextS; rw [if_neg (by decide), if_pos rfl, if_neg y1, if_neg y2]
    constructor
    · simp only [finS, n1, n2, n3, nx, ny]
    · simp only [staysS, n1, n2, n3, nx]; rfl
  · rename_i h0 h1 h2 h3 h4
    have n : nextS 1 b = 1 := by unfold nextS; rw [if_neg (by decide), if_pos rfl, if_neg (fun h => h0 (.inr h)), if_neg (fun h => h0 (.inl h))]
    constructor
    · simp only [finS, n]
    · simp only [staysS]; rfl
theorem stays_append : ∀ (p q : List UInt8) (st : Nat), staysS st p = true → staysS (finS st p) q = true → staysS st (p ++ q) = true
  | [], _, _, _, h => h
  | c :: r, q, st, h, h' => by
    rw [staysS, Bool.and_eq_true] at h
    rw [List.cons_append, staysS, Bool.and_eq_true]
    exact ⟨h.1, stays_append r q _ h.2 h'⟩
theorem escL_scan : ∀ (l : List UInt8), finS 1 (escL l) = 1 ∧ staysS 1 (escL l) = true
  | [] => ⟨rfl, rfl⟩
  | b :: r => by
    have h := esc_scan b
    have ih := escL_scan r
    have e : escL (b :: r) = escB b ++ escL r := rfl
    rw [e, finS_append, h.1]
    exact ⟨ih.1, stays_append _ _ _ h.2 (by rw [h.1]; exact ih.2)⟩
theorem quo_scan (B : Nat → List UInt8) (l : List UInt8) (i : Nat) : finS 0 (quo l) = 0 ∧ blk B 0 i (quo l) = quo l := by
  have h := escL_scan l
  have n1 : nextS 0 34 = 1 := rfl
  have n2 : nextS 1 34 = 0 := rfl
  unfold quo
  constructor
  · rw [finS, n1, finS_append, h.1]; rfl
  · rw [blk, n1, if_neg (fun h' => by have := h'.2; revert this; decide), blk_append, h.1, blk_stays B _ _ _ h.2]; rfl
theorem word_scan (B : Nat → List UInt8) : ∀ (l : List UInt8) (i : Nat), (∀ c ∈ l, isEnd c = false) → finS 0 l = 0 ∧ blk B 0 i l = l
  | [], _, _ => ⟨rfl, rfl⟩
  | c :: r, i, h => by
    have hc := h c (by simp)
    have ih := word_scan B r (i + 1) (fun x hx => h x (by simp [hx]))
    unfold isEnd at hc
    simp only [Bool.or_eq_false_iff, beq_eq_false_iff_ne, ne_eq] at hc
    obtain ⟨⟨⟨⟨⟨⟨⟨⟨⟨⟨c1, c2⟩, c3⟩, c4⟩, c5⟩, c6⟩, c7⟩, _⟩, _⟩, _⟩, _⟩ := hc
    have n : nextS 0 c = 0 := by unfold nextS; rw [if_neg (by decide), if_neg (by decide), if_neg c7]
    have m : isMark c = false := by unfold isMark; simp [c1, c2, c3, c4, c5, c6]
    rw [finS, blk, n, ih.1, ih.2, m]
    exact ⟨rfl, rfl⟩
theorem mark_scan (B : Nat → List UInt8) (c : UInt8) (i : Nat) (r : List UInt8) (h : isMark c = true) (hq : c ≠ 34) : finS 0 (c :: r) = finS 0 r ∧ blk B 0 i (c :: r) = B i ++ c :: (B (i + 1) ++ blk B 0 (i + 1) r) := by
  have n : nextS 0 c = 0 := by unfold nextS; rw [if_neg (by decide), if_neg (by decide), if_neg hq]
  rw [finS, blk, n, if_pos ⟨rfl, h⟩]
  simp
theorem bl_append {a b : List UInt8} (ha : Bl a) (hb : Bl b) : Bl (a ++ b) := fun c h => by
  rcases List.mem_append.1 h with h | h
  · exact ha c h
  · exact hb c h
theorem itoa_noend (n : Int) : ∀ c ∈ Lib.itoa n, isEnd c = false := by
  obtain ⟨c, q, e, h, hq⟩ := itoa_cons n
  rw [e]
  intro y hy
  rcases List.mem_cons.1 hy with rfl | hy
  · rcases h with h | ⟨h, _⟩
    · exact dig_noend h
    · subst h; decide
  · exact dig_noend (hq y hy)

section
variable (B : Nat → List UInt8) (hB : ∀ i, Bl (B i))
include hB
mutual
theorem blk_sp : ∀ (t : Tree) (about i : Nat), checkT t about = 0 → finS 0 (pr t) = 0 ∧ ∃ b x c, blk B 0 i (pr t) = b ++ (x ++ c) ∧ Bl b ∧ Bl c ∧ SpT t x
  | .mk k f n t ks is, about, i, hc => by
    have h1 := check_one hc
    have hk := one_kind h1.1
    by_cases h5 : k = 5
    · subst h5
      rw [pr_eq]
      change finS 0 (91 :: (sep (is.map pr) ++ [93])) = 0 ∧ ∃ b x c, blk B 0 i (91 :: (sep (is.map pr) ++ [93])) = b ++ (x ++ c) ∧ Bl b ∧ Bl c ∧ SpT (.mk 5 f n t ks is) x
      obtain ⟨m1, m2⟩ := mark_scan B 91 i (sep (is.map pr) ++ [93]) (by decide) (by decide)
      obtain ⟨l1, l2⟩ := blkl_sp is (about + 1) (i + 1) h1.2
      rw [m1, m2, finS_append, l1, blk_append, l1]
      obtain ⟨e1, e2⟩ := mark_scan B 93 (i + 1 + (sep (is.map pr)).length) [] (by decide) (by decide)
      rw [e1, e2]
      refine ⟨rfl, B i, 91 :: ((B (i + 1) ++ (blk B 0 (i + 1) (sep (is.map pr)) ++ B (i + 1 + (sep (is.map pr)).length))) ++ [93]), B (i + 1 + (sep (is.map pr)).length + 1), by simp [blk], hB _, hB _, ?_⟩
      rw [SpT, if_pos rfl]
      exact ⟨_, rfl, l2 _ _ (hB _) (hB _)⟩
    · by_cases h6 : k = 6
      · subst h6
        rw [pr_eq]
        change finS 0 (123 :: (sep (ents ks (is.map pr)) ++ [125])) = 0 ∧ ∃ b x c, blk B 0 i (123 :: (sep (ents ks (is.map pr)) ++ [125])) = b ++ (x ++ c) ∧ Bl b ∧ Bl c ∧ SpT (.mk 6 f n t ks is) x
        obtain ⟨m1, m2⟩ := mark_scan B 123 i (sep (ents ks (is.map pr)) ++ [125]) (by decide) (by decide)
        obtain ⟨l1, l2⟩ := blkm_sp is ks (about + 1) (i + 1) (hk.2.2.2.2.2.1 rfl).1 h1.2
        rw [m1, m2, finS_append, l1, blk_append, l1]
        obtain ⟨e1, e2⟩ := mark_scan B 125 (i + 1 + (sep (ents ks (is.map pr))).length) [] (by decide) (by decide)
        rw [e1, e2]
        refine ⟨rfl, B i, 123 :: ((B (i + 1) ++ (blk B 0 (i + 1) (sep (ents ks (is.map pr))) ++ B (i + 1 + (sep (ents ks (is.map pr))).length))) ++ [125]), B (i + 1 + (sep (ents ks (is.map pr))).length + 1), by simp [blk], hB _, hB _, ?_⟩
        rw [SpT, if_neg (by decide), if_pos rfl]
        exact ⟨_, rfl, l2 _ _ (hB _) (hB _)⟩
      · have key : finS 0 (pr (.mk k f n t ks is)) = 0 ∧ blk B 0 i (pr (.mk k f n t ks is)) = pr (.mk k f n t ks is) := by
          rw [pr]
          by_cases e1 : k = 1
          · rw [if_pos e1]; exact word_scan B nullW i (by decide)
          · rw [if_neg e1]
            by_cases e2 : k = 2
            · rw [if_pos e2]
              by_cases hf : f = true
              · rw [if_pos hf]; exact word_scan B trueW i (by decide)
              · rw [if_neg hf]; exact word_scan B falseW i (by decide)
            · rw [if_neg e2]
              by_cases e3 : k = 3
              · rw [if_pos e3]; exact word_scan B _ i (itoa_noend n)
              · rw [if_neg e3]
                have e4 : k = 4 := by
                  have a1 : 1 ≤ k := hk.1
                  have a2 : k ≤ 6 := hk.2.1
                  omega
                rw [if_pos e4]
                exact quo_scan B _ i
        refine ⟨key.1, [], pr (.mk k f n t ks is), [], by rw [key.2]; simp, bl_nil, bl_nil, ?_⟩
        rw [SpT, if_neg h5, if_neg h6]
theorem blkl_sp : ∀ (l : List Tree) (about i : Nat), (∀ t ∈ l, checkT t about = 0) → finS 0 (sep (l.map pr)) = 0 ∧ ∀ b0 c0, Bl b0 → Bl c0 → SpL l (b0 ++ (blk B 0 i (sep (l.map pr)) ++ c0))
  | [], _, _, _ => by
    refine ⟨rfl, fun b0 c0 hb hc => ?_⟩
    rw [SpL]
    exact bl_append hb (by simpa [sep, blk] using hc)
  | [t], about, i, h => by
    obtain ⟨h1, b, x, c, e, hb, hc, hx⟩ := blk_sp t about i (h t (by simp))
    have es : sep ([t].map pr) = pr t := rfl
    rw [es]
    refine ⟨h1, fun b0 c0 hb0 hc0 => ?_⟩
    rw [SpL, e]
    exact ⟨b0 ++ b, x, c ++ c0, [], by simp, bl_append hb0 hb, bl_append hc hc0, hx, fun _ => rfl, fun h => absurd rfl h⟩
  | t :: u :: r, about, i, h => by
    obtain ⟨h1, b, x, c, e, hb, hc, hx⟩ := blk_sp t about i (h t (by simp))
    have es : sep ((t :: u :: r).map pr) = pr t ++ 44 :: sep ((u :: r).map pr) := rfl
    obtain ⟨l1, l2⟩ := blkl_sp (u :: r) about (i + (pr t).length + 1) (fun x hx => h x (by simp [hx]))
    obtain ⟨m1, m2⟩ := mark_scan B 44 (i + (pr t).length) (sep ((u :: r).map pr)) (by decide) (by decide)
    rw [es, finS_append, h1, m1, blk_append, h1, m2]
    refine ⟨l1, fun b0 c0 hb0 hc0 => ?_⟩
    rw [SpL, e]
    exact ⟨b0 ++ b, x, c ++ B (i + (pr t).length), 44 :: (B (i + (pr t).length + 1) ++ (blk B 0 (i + (pr t).length + 1) (sep ((u :: r).map pr)) ++ c0)), by simp, bl_append hb0 hb, bl_append hc (hB _), hx, fun h => by simp at h, fun _ => ⟨_, rfl, l2 _ _ (hB _) hc0⟩⟩
theorem blkm_sp : ∀ (l : List Tree) (ks : List ByteArray) (about i : Nat), ks.length = l.length → (∀ t ∈ l, checkT t about = 0) → finS 0 (sep (ents ks (l.map pr))) = 0 ∧ ∀ b0 c0, Bl b0 → Bl c0 → SpM l ks (b0 ++ (blk B 0 i (sep (ents ks (l.map pr))) ++ c0))
  | [], ks, _, _, hl, _ => by
    have : ks = [] := List.eq_nil_of_length_eq_zero (by simpa using hl)
    subst this
    refine ⟨rfl, fun b0 c0 hb hc => ?_⟩
    rw [SpM]
    exact bl_append hb (by simpa [sep, ents, blk] using hc)
  | [t], ks, about, i, hl, h => by
    obtain ⟨k, rfl⟩ : ∃ k, ks = [k] := List.length_eq_one_iff.1 hl
    have es : sep (ents [k] ([t].map pr)) = quo k.data.toList ++ 58 :: pr t := rfl
    obtain ⟨q1, q2⟩ := quo_scan B k.data.toList i
    obtain ⟨m1, m2⟩ := mark_scan B 58 (i + (quo k.data.toList).length) (pr t) (by decide) (by decide)
    obtain ⟨h1, b, x, c, e, hb, hc, hx⟩ := blk_sp t about (i + (quo k.data.toList).length + 1) (h t (by simp))
    rw [es, finS_append, q1, m1, blk_append, q1, q2, m2]
    refine ⟨h1, fun b0 c0 hb0 hc0 => ?_⟩
    rw [SpM, e]
    exact ⟨k, [], rfl, b0, B (i + (quo k.data.toList).length), B (i + (quo k.data.toList).length + 1) ++ b, x, c ++ c0, [], by simp, hb0, hB _, bl_append (hB _) hb, bl_append hc hc0, hx, fun _ => rfl, fun h => absurd rfl h⟩
  | t :: u :: r, [], about, _, hl, h => by simp at hl
  | t :: u :: r, [k], about, _, hl, h => by simp at hl
  | t :: u :: r, k :: k2 :: kr, about, i, hl, h => by
    have es : sep (ents (k :: k2 :: kr) ((t :: u :: r).map pr)) = quo k.data.toList ++ 58 :: (pr t ++ 44 :: sep (ents (k2 :: kr) ((u :: r).map pr))) := by simp [ents, sep]
    obtain ⟨q1, q2⟩ := quo_scan B k.data.toList i
    obtain ⟨m1, m2⟩ := mark_scan B 58 (i + (quo k.data.toList).length) (pr t ++ 44 :: sep (ents (k2 :: kr) ((u :: r).map pr))) (by decide) (by decide)
    obtain ⟨h1, b, x, c, e, hb, hc, hx⟩ := blk_sp t about (i + (quo k.data.toList).length + 1) (h t (by simp))
    obtain ⟨n1, n2⟩ := mark_scan B 44 (i + (quo k.data.toList).length + 1 + (pr t).length) (sep (ents (k2 :: kr) ((u :: r).map pr))) (by decide) (by decide)
    obtain ⟨l1, l2⟩ := blkm_sp (u :: r) (k2 :: kr) about (i + (quo k.data.toList).length + 1 + (pr t).length + 1) (by simpa using hl) (fun x hx => h x (by simp [hx]))
    rw [es, finS_append, q1, m1, finS_append, h1, n1, blk_append, q1, q2, m2, blk_append, h1, n2]
    refine ⟨l1, fun b0 c0 hb0 hc0 => ?_⟩
    rw [SpM, e]
    refine ⟨k, k2 :: kr, rfl, b0, B (i + (quo k.data.toList).length), B (i + (quo k.data.toList).length + 1) ++ b, x, c ++ B (i + (quo k.data.toList).length + 1 + (pr t).length), 44 :: (B (i + (quo k.data.toList).length + 1 + (pr t).length + 1) ++ (blk B 0 (i + (quo k.data.toList).length + 1 + (pr t).length + 1) (sep (ents (k2 :: kr) ((u :: r).map pr))) ++ c0)), by simp, hb0, hB _, bl_append (hB _) hb, bl_append hc (hB _), hx, fun h => by simp at h, fun _ => ⟨_, rfl, l2 _ _ (hB _) hc0⟩⟩
end
/-- What is printed is read back, with blanks about its tokens too. -/
theorem parse_blk (d : Nat) (t : Tree) (hc : checkT t 0 = 0) (hf : Fits t) (hd : depthT t ≤ d) : parseR d (32 :: (blk B 0 0 (pr t) ++ [10])) = .ok t [] := by
  obtain ⟨_, b, x, c, e, hb, hbc, hx⟩ := blk_sp B hB t 0 0 hc
  have h10 : Bl [10] := fun y hy => by
    rw [List.mem_singleton] at hy
    subst hy; decide
  have hE : EndsAt (c ++ [10]) := by
    have := ends_blank (c := c ++ [10]) (z := []) (bl_append hbc h10) (fun c q h => by cases h)
    simpa using this
  have := itemR_reads d t 0 hc hf hd (32 :: b) x (c ++ [10]) (fun y hy => by rcases List.mem_cons.1 hy with rfl | hy; decide; exact hb y hy) hx hE
  unfold parseR
  rw [show 32 :: (blk B 0 0 (pr t) ++ [10]) = 32 :: b ++ (x ++ (c ++ [10])) by rw [e]; simp, this]
  have hs : skip (c ++ [10]) = [] := by
    rw [skip_blank c [10] hbc]; rfl
  simp only [hs]
end

/-- What is printed, with more behind it, is refused there. -/
theorem parse_left (d : Nat) (t : Tree) (hc : checkT t 0 = 0) (hf : Fits t) (hd : depthT t ≤ d) : parseR d (pr t ++ [32, 48]) = .bad 25 [48] := by
  have := itemR_reads d t 0 hc hf hd [] (pr t) [32, 48] bl_nil (pr_sp t 0 hc) (ends_at (by decide))
  unfold parseR
  rw [List.nil_append] at this
  rw [this]
  rfl

/-! ### a tree that is too deep is refused -/
def DeepAt (it : List UInt8 → Res Tree) (t : Tree) : Prop := ∀ r, ∃ q, it (pr t ++ r) = .bad 21 q
def OkAt (it : List UInt8 → Res Tree) (t : Tree) : Prop := ∀ r, EndsAt r → it (pr t ++ r) = .ok t r
theorem listGo_deep (it : List UInt8 → Res Tree) : ∀ (ts : List Tree) (r : List UInt8) (acc : List Tree) (f : Nat), (∀ t ∈ ts, OkAt it t ∨ DeepAt it t) → (∃ t ∈ ts, DeepAt it t) → ts.length ≤ f →
    ∃ q, listGo it f (sep (ts.map pr) ++ 93 :: r) acc = .bad 21 q
  | [], _, _, _, _, h, _ => by obtain ⟨t, ht, _⟩ := h; cases ht
  | _ :: _, _, _, 0, _, _, h => by simp at h
  | [t], r, acc, f + 1, ha, he, hf => by
    obtain ⟨u, hu, hd⟩ := he
    rw [List.mem_singleton] at hu
    subst hu
    obtain ⟨q, e⟩ := hd (93 :: r)
    exact ⟨q, by rw [listGo, show sep ([u].map pr) = pr u from rfl, e]⟩
  | t :: u :: ts, r, acc, f + 1, ha, he, hf => by
    have es : sep ((t :: u :: ts).map pr) ++ 93 :: r = pr t ++ (44 :: (sep ((u :: ts).map pr) ++ 93 :: r)) := by simp [sep]
    rw [es, listGo]
    rcases ha t (by simp) with h | h
    · by_cases hd : DeepAt it t
      · obtain ⟨q, e⟩ := hd (44 :: (sep ((u :: ts).map pr) ++ 93 :: r))
        exact ⟨q, by rw [e]⟩
      · rw [h _ (ends_at (by decide))]
        simp only []
        rw [skip_none (by decide)]
        exact listGo_deep it (u :: ts) r (acc ++ [t]) f (fun x hx => ha x (List.mem_cons_of_mem _ hx)) (by
          obtain ⟨x, hx, hxd⟩ := he
          rcases List.mem_cons.1 hx with rfl | hx
          · exact absurd hxd hd
          · exact ⟨x, hx, hxd⟩) (by simpa using hf)
    · obtain ⟨q, e⟩ := h (44 :: (sep ((u :: ts).map pr) ++ 93 :: r))
      exact ⟨q, by rw [e]⟩
theorem mapGo_deep (it : List UInt8 → Res Tree) : ∀ (ts : List Tree) (kr : List ByteArray) (r : List UInt8) (ks : List ByteArray) (acc : List Tree) (f : Nat), (∀ t ∈ ts, OkAt it t ∨ DeepAt it t) → (∃ t ∈ ts, DeepAt it t) → (∀ k ∈ kr, good k = true) → nodup (ks ++ kr) = true → kr.length = ts.length → ts.length ≤ f →
    ∃ q, mapGo it f (sep (ents kr (ts.map pr)) ++ 125 :: r) ks acc = .bad 21 q
  | [], _, _, _, _, _, _, h, _, _, _, _ => by obtain ⟨t, ht, _⟩ := h; cases ht
  | _ :: _, _, _, _, _, 0, _, _, _, _, _, h => by simp at h
  | _ :: _, [], _, _, _, _, _, _, _, _, h, _ => by simp at h
  | [t], k :: _ :: _, _, _, _, _, _, _, _, _, h, _ => by simp at h
  | _ :: _ :: _, [k], _, _, _, _, _, _, _, _, h, _ => by simp at h
  | [t], [k], r, ks, acc, f + 1, ha, he, hg, hn, hl, hf => by
    obtain ⟨u, hu, hd⟩ := he
    rw [List.mem_singleton] at hu
    subst hu
    obtain ⟨q, e⟩ := hd (125 :: r)
    have es : sep (ents [k] ([u].map pr)) ++ 125 :: r = [] ++ (quo k.data.toList ++ (58 :: (pr u ++ 125 :: r))) := by simp [sep, ents]
    refine ⟨q, ?_⟩
    rw [mapGo, es, keyR_reads ks k [] _ bl_nil (hg k (by simp)) (contains_append ks k [] hn)]
    simp only []
    rw [skip_none (by decide)]
    simp only [e]
  | t :: u :: ts, k :: k2 :: kr, r, ks, acc, f + 1, ha, he, hg, hn, hl, hf => by
    have es : sep (ents (k :: k2 :: kr) ((t :: u :: ts).map pr)) ++ 125 :: r = [] ++ (quo k.data.toList ++ (58 :: (pr t ++ (44 :: (sep (ents (k2 :: kr) ((u :: ts).map pr)) ++ 125 :: r))))) := by simp [sep, ents]
    rw [mapGo, es, keyR_reads ks k [] _ bl_nil (hg k (by simp)) (contains_append ks k _ hn)]
    simp only []
    rw [skip_none (by decide)]
    simp only []
    by_cases hd : DeepAt it t
    · obtain ⟨q, e⟩ := hd (44 :: (sep (ents (k2 :: kr) ((u :: ts).map pr)) ++ 125 :: r))
      exact ⟨q, by rw [e]⟩
    · rcases ha t (by simp) with h | h
      · rw [h _ (ends_at (by decide))]
        simp only []
        rw [skip_none (by decide)]
        exact mapGo_deep it (u :: ts) (k2 :: kr) r (ks ++ [k]) (acc ++ [t]) f (fun x hx => ha x (List.mem_cons_of_mem _ hx)) (by
          obtain ⟨x, hx, hxd⟩ := he
          rcases List.mem_cons.1 hx with rfl | hx
          · exact absurd hxd hd
          · exact ⟨x, hx, hxd⟩) (fun x hx => hg x (List.mem_cons_of_mem _ hx)) (by simpa using hn) (by simpa using hl) (by simpa using hf)
      · exact absurd h hd
theorem depthL_ex : ∀ {l : List Tree} {k : Nat}, k < depthL l → ∃ t ∈ l, k < depthT t
  | [], k, h => by simp [depthL] at h
  | t :: r, k, h => by
    rw [depthL] at h
    by_cases h1 : k < depthT t
    · exact ⟨t, by simp, h1⟩
    · obtain ⟨x, hx, h2⟩ := depthL_ex (l := r) (k := k) (by omega)
      exact ⟨x, List.mem_cons_of_mem _ hx, h2⟩
theorem sep_long : ∀ (ps : List (List UInt8)), (∀ p ∈ ps, 1 ≤ p.length) → ps.length ≤ (sep ps).length
  | [], _ => by simp
  | [p], h => by simpa [sep] using h p (by simp)
  | p :: q :: r, h => by
    have ih := sep_long (q :: r) (fun x hx => h x (List.mem_cons_of_mem _ hx))
    simp only [sep, List.length_append, List.length_cons] at ih ⊢
    omega
theorem pr_cons {t : Tree} {about : Nat} (hc : checkT t about = 0) : ∃ c q, pr t = c :: q ∧ isBlank c = false ∧ c ≠ 93 ∧ c ≠ 125 := by
  have hk := one_kind (check_one hc).1
  exact spt_head ⟨hk.1, hk.2.1⟩ (pr_sp t about hc)
theorem itemR_deep : ∀ (k : Nat) (t : Tree) (about : Nat), checkT t about = 0 → Fits t → k < depthT t → DeepAt (itemR k) t
  | k, t, about, hc, hf, hd => by
    have h1 := check_one hc
    have hk := one_kind h1.1
    have hi : hasItems t.kind = true := by
      rw [depthT_eq] at hd
      split at hd
      · assumption
      · omega
    rw [depthT_eq, if_pos hi] at hd
    rw [Fits_eq] at hf
    intro r
    cases k with
    | zero =>
      by_cases h5 : t.kind = 5
      · refine ⟨91 :: ((sep (t.items.map pr) ++ [93]) ++ r), ?_⟩
        rw [pr_eq, h5]
        rfl
      · have h6 : t.kind = 6 := by
          unfold hasItems at hi
          simpa [h5] using hi
        refine ⟨123 :: ((sep (ents t.keys (t.items.map pr)) ++ [125]) ++ r), ?_⟩
        rw [pr_eq, h6]
        rfl
    | succ k =>
      have hall : ∀ x ∈ t.items, OkAt (itemR k) x ∨ DeepAt (itemR k) x := fun x hx => by
        by_cases hx2 : depthT x ≤ k
        · refine .inl fun r hr => ?_
          have := itemR_reads k x (about + 1) (h1.2 x hx) (FitsL_mem hf.2 x hx) hx2 [] (pr x) r bl_nil (pr_sp x _ (h1.2 x hx)) hr
          simpa using this
        · exact .inr (itemR_deep k x (about + 1) (h1.2 x hx) (FitsL_mem hf.2 x hx) (by omega))
      have hex : ∃ x ∈ t.items, DeepAt (itemR k) x := by
        obtain ⟨x, hx, hx2⟩ := depthL_ex (l := t.items) (k := k) (by omega)
        exact ⟨x, hx, itemR_deep k x (about + 1) (h1.2 x hx) (FitsL_mem hf.2 x hx) hx2⟩
      have hne : t.items ≠ [] := by
        obtain ⟨x, hx, _⟩ := hex
        intro h; rw [h] at hx; cases hx
      have hone : ∀ p ∈ t.items.map pr, 1 ≤ p.length := fun p hp => by
        obtain ⟨x, hx, rfl⟩ := List.mem_map.1 hp
        obtain ⟨c, q, e, _⟩ := pr_cons (h1.2 x hx)
        rw [e]; simp
      by_cases h5 : t.kind = 5
      · obtain ⟨q, e⟩ := listGo_deep (itemR k) t.items r [] ((sep (t.items.map pr) ++ 93 :: r).length + 1) hall hex (by
          have := sep_long _ hone
          simp only [List.length_map, List.length_append] at this ⊢
          omega)
        refine ⟨q, ?_⟩
        have ep : pr t ++ r = 91 :: (sep (t.items.map pr) ++ 93 :: r) := by rw [pr_eq, h5]; simp
        rw [ep]
        show itemW (some (itemR k)) _ = _
        unfold itemW
        rw [skip_none (by decide)]
        simp only []
        rw [if_pos trivial]
        unfold listR
        obtain ⟨x, xs, hxs⟩ : ∃ x xs, t.items = x :: xs := List.exists_cons_of_ne_nil hne
        obtain ⟨c, q', e', c1, c2, _⟩ := pr_cons (h1.2 x (by rw [hxs]; simp))
        obtain ⟨m, em⟩ : ∃ m, sep (t.items.map pr) ++ 93 :: r = c :: m := by
          rw [hxs]
          cases xs with
          | nil => exact ⟨_, by simp [sep, e']; rfl⟩
          | cons y ys => exact ⟨_, by simp [sep, e']; rfl⟩
        rw [em] at e ⊢
        rw [skip_none c1]
        split
        · rename_i heq
          injection heq with h _
          exact absurd h c2
        · exact e
      · have h6 : t.kind = 6 := by
          unfold hasItems at hi
          simpa [h5] using hi
        obtain ⟨q1, q2⟩ := hk.2.2.2.2.2.1 h6
        have hents : (ents t.keys (t.items.map pr)).length = t.items.length := by simp [ents, q1]
        obtain ⟨q, e⟩ := mapGo_deep (itemR k) t.items t.keys r [] [] ((sep (ents t.keys (t.items.map pr)) ++ 125 :: r).length + 1) hall hex (List.all_eq_true.1 hk.2.2.2.2.1) (by simpa using q2) q1 (by
          have := sep_long (ents t.keys (t.items.map pr)) (fun p hp => by
            obtain ⟨a, b, _, _, rfl⟩ : ∃ a b, a ∈ t.keys ∧ b ∈ t.items.map pr ∧ p = quo a.data.toList ++ 58 :: b := by
              unfold ents at hp
              obtain ⟨j, hj, e⟩ := List.getElem_of_mem hp
              rw [List.getElem_zipWith] at e
              exact ⟨_, _, List.getElem_mem _, List.getElem_mem _, e.symm⟩
            simp only [List.length_append, List.length_cons]; omega)
          simp only [List.length_append] at this ⊢
          omega)
        refine ⟨q, ?_⟩
        have ep : pr t ++ r = 123 :: (sep (ents t.keys (t.items.map pr)) ++ 125 :: r) := by rw [pr_eq, h6]; simp
        rw [ep]
        show itemW (some (itemR k)) _ = _
        unfold itemW
        rw [skip_none (by decide)]
        simp only []
        rw [if_neg (by decide), if_pos trivial]
        unfold mapR
        obtain ⟨x, xs, hxs⟩ : ∃ x xs, t.items = x :: xs := List.exists_cons_of_ne_nil hne
        obtain ⟨m, em⟩ : ∃ m, sep (ents t.keys (t.items.map pr)) ++ 125 :: r = 34 :: m := by
          obtain ⟨a, as, has⟩ : ∃ a as, t.keys = a :: as := List.exists_cons_of_ne_nil (fun h => by rw [h, hxs] at q1; simp at q1)
          rw [hxs, has]
          cases xs with
          | nil =>
            cases as with
            | nil => exact ⟨_, by simp [sep, ents, quo]; rfl⟩
            | cons z zs => rw [hxs, has] at q1; simp at q1
          | cons y ys =>
            cases as with
            | nil => rw [hxs, has] at q1; simp at q1
            | cons z zs => exact ⟨_, by simp [sep, ents, quo]; rfl⟩
        rw [em] at e ⊢
        rw [skip_none (by decide)]
        exact e
/-- A tree is refused where its depth may not be. -/
theorem parse_deep (d : Nat) (t : Tree) (hc : checkT t 0 = 0) (hf : Fits t) (hd : d < depthT t) : ∃ q, parseR d (pr t) = .bad 21 q := by
  obtain ⟨q, e⟩ := itemR_deep d t 0 hc hf hd []
  rw [List.append_nil] at e
  exact ⟨q, by unfold parseR; rw [e]⟩
end Go.Proofs.YtdmnhkgiojkphaaGreatDoor
