/- Plain facts: numbers in bytes, frames. -/
import Derived.Test.YtpbiofnncdneoaaDoorCrc
namespace Go.Proofs.YtpbiofnncdneoaaDoor

/-- The first m of the k bytes of a number, the highest first. -/
def layP (n k m : Nat) : List UInt8 := (List.range m).map fun i => UInt8.ofNat (n / 2 ^ (8 * (k - 1 - i)))
def layL (n k : Nat) : List UInt8 := layP n k k
def numL (l : List UInt8) : Nat := l.foldl (fun n c => n * 256 + c.toNat) 0
theorem layP_length (n k m : Nat) : (layP n k m).length = m := by simp [layP]
theorem layL_length (n k : Nat) : (layL n k).length = k := layP_length ..
theorem layP_succ (n k m : Nat) : layP n k (m + 1) = layP n k m ++ [UInt8.ofNat (n / 2 ^ (8 * (k - 1 - m)))] := by
  unfold layP; rw [List.range_succ, List.map_append]; rfl
theorem layL_succ (n k : Nat) : layL n (k + 1) = layL (n / 256) k ++ [UInt8.ofNat n] := by
  unfold layL
  rw [layP_succ]
  congr 1
  · unfold layP
    refine List.map_congr_left fun i hi => ?_
    have := List.mem_range.1 hi
    rw [Nat.div_div_eq_div_mul, show (256 : Nat) = 2 ^ 8 by decide, ← Nat.pow_add]
    congr 3
    omega
  · rw [show k + 1 - 1 - k = 0 by omega]; simp
theorem numL_snoc (l : List UInt8) (c : UInt8) : numL (l ++ [c]) = numL l * 256 + c.toNat := by simp [numL, List.foldl_append]
theorem numL_layL : ∀ (k n : Nat), n < 256 ^ k → numL (layL n k) = n
  | 0, n, h => by simp at h; subst h; rfl
  | k + 1, n, h => by
    rw [layL_succ, numL_snoc, numL_layL k (n / 256) (by rw [Nat.pow_succ] at h; omega)]
    simp [UInt8.toNat_ofNat']; omega
theorem snoc_of {l : List UInt8} (h : l ≠ []) : ∃ m c, l = m ++ [c] := ⟨l.dropLast, l.getLast h, (List.dropLast_concat_getLast h).symm⟩
theorem layL_numL : ∀ (k : Nat) (l : List UInt8), l.length = k → layL (numL l) k = l
  | 0, l, h => by rw [List.eq_nil_of_length_eq_zero h]; rfl
  | k + 1, l, h => by
    obtain ⟨m, c, rfl⟩ := snoc_of (l := l) (fun e => by rw [e] at h; simp at h)
    have hc := c.toNat_lt
    rw [layL_succ, numL_snoc, show (numL m * 256 + c.toNat) / 256 = numL m by omega, layL_numL k m (by simpa using h)]
    congr 2
    apply UInt8.toNat_inj.1
    simp
theorem numL_lt : ∀ (k : Nat) (l : List UInt8), l.length = k → numL l < 256 ^ k
  | 0, l, h => by rw [List.eq_nil_of_length_eq_zero h]; decide
  | k + 1, l, h => by
    obtain ⟨m, c, rfl⟩ := snoc_of (l := l) (fun e => by rw [e] at h; simp at h)
    have := numL_lt k m (by simpa using h)
    have hc := c.toNat_lt
    rw [numL_snoc, Nat.pow_succ]; omega
theorem numL_inj (l m : List UInt8) (h : l.length = m.length) (e : numL l = numL m) : l = m := by
  rw [← layL_numL _ l rfl, ← layL_numL _ m rfl, h, e]

def head5 (n : Nat) : List UInt8 := 201 :: layL n 4
def frameL (b : List UInt8) : List UInt8 := head5 b.length ++ layL (sumL (head5 b.length)) 4 ++ b ++ layL (sumL b) 4
theorem frameL_length (b : List UInt8) : (frameL b).length = b.length + 13 := by simp [frameL, head5, layL_length]; omega

def cnt (b : List UInt8) : Nat := numL ((b.drop 1).take 4)
def headE (b : List UInt8) : Nat :=
  if b.length = 0 then 30 else if b.headD 0 ≠ 201 then 34 else if b.length < 9 then 30
  else if numL ((b.drop 5).take 4) ≠ sumL (b.take 5) then 32 else if 16777216 < cnt b then 31 else 0
def unfrE (b : List UInt8) : Nat :=
  if headE b ≠ 0 then headE b else if b.length < cnt b + 13 then 30
  else if numL ((b.drop (9 + cnt b)).take 4) ≠ sumL ((b.drop 9).take (cnt b)) then 32 else 0
def bodyL (b : List UInt8) : List UInt8 := (b.drop 9).take (cnt b)

theorem parts9 (m : UInt8) (A S r : List UInt8) (hA : A.length = 4) (hS : S.length = 4) :
    (m :: (A ++ S ++ r)).take 5 = m :: A ∧ ((m :: (A ++ S ++ r)).drop 1).take 4 = A ∧ ((m :: (A ++ S ++ r)).drop 5).take 4 = S ∧ (m :: (A ++ S ++ r)).drop 9 = r := by
  match A, hA with
  | [a, b, c, d], _ =>
    match S, hS with
    | [e, f, g, h], _ => simp
theorem headE_parts (m : UInt8) (A S r : List UInt8) (hA : A.length = 4) (hS : S.length = 4) :
    headE (m :: (A ++ S ++ r)) = if m ≠ 201 then 34 else if numL S ≠ sumL (m :: A) then 32 else if 16777216 < numL A then 31 else 0 := by
  obtain ⟨h1, h2, h3, _⟩ := parts9 m A S r hA hS
  unfold headE cnt
  rw [h1, h2, h3]
  have : (m :: (A ++ S ++ r)).length = r.length + 9 := by simp; omega
  have hh : (m :: (A ++ S ++ r)).headD 0 = m := rfl
  rw [this, if_neg (by omega), hh]
  by_cases hm : m ≠ 201
  · rw [if_pos hm, if_pos hm]
  · rw [if_neg hm, if_neg hm, if_neg (by omega)]
theorem unfrE_parts (m : UInt8) (A S B Z t : List UInt8) (hA : A.length = 4) (hS : S.length = 4) (hZ : Z.length = 4) (hn : numL A = B.length) (hB : B.length ≤ 16777216) :
    unfrE (m :: (A ++ S ++ (B ++ Z ++ t))) = if m ≠ 201 then 34 else if numL S ≠ sumL (m :: A) then 32 else if numL Z ≠ sumL B then 32 else 0 := by
  obtain ⟨h1, h2, h3, h4⟩ := parts9 m A S (B ++ Z ++ t) hA hS
  unfold unfrE
  rw [headE_parts m A S _ hA hS]
  have hc : cnt (m :: (A ++ S ++ (B ++ Z ++ t))) = B.length := by unfold cnt; rw [h2, hn]
  rw [hc, h4, hn]
  have hl : (m :: (A ++ S ++ (B ++ Z ++ t))).length = B.length + 13 + t.length := by simp; omega
  have hd : ((m :: (A ++ S ++ (B ++ Z ++ t))).drop (9 + B.length)).take 4 = Z := by
    rw [← List.drop_drop, h4, List.append_assoc, List.drop_left, ← hZ, List.take_left]
  have ht : (B ++ Z ++ t).take B.length = B := by rw [List.append_assoc, List.take_left]
  rw [hl, hd, ht]
  by_cases e1 : m ≠ 201
  · rw [if_pos e1, if_pos e1, if_pos (by decide)]
  · rw [if_neg e1, if_neg e1]
    by_cases e2 : numL S ≠ sumL (m :: A)
    · rw [if_pos e2, if_pos e2, if_pos (by decide)]
    · rw [if_neg e2, if_neg e2, if_neg (show ¬ 16777216 < B.length by omega), if_neg (by simp), if_neg (by omega)]

theorem frameL_parts (b t : List UInt8) : frameL b ++ t = 201 :: (layL b.length 4 ++ layL (sumL (head5 b.length)) 4 ++ (b ++ layL (sumL b) 4 ++ t)) := by
  simp [frameL, head5]
theorem sum_num (l : List UInt8) : numL (layL (sumL l) 4) = sumL l := numL_layL 4 _ (by have := sumL_lt l; omega)
theorem len_num (b : List UInt8) (h : b.length ≤ 16777216) : numL (layL b.length 4) = b.length := numL_layL 4 _ (by omega)
/-- What is framed, whatever stands behind it, is taken again. -/
theorem unfr_frame (b t : List UInt8) (hb : b.length ≤ 16777216) : unfrE (frameL b ++ t) = 0 ∧ cnt (frameL b ++ t) = b.length ∧ bodyL (frameL b ++ t) = b := by
  rw [frameL_parts]
  have hc : cnt (201 :: (layL b.length 4 ++ layL (sumL (head5 b.length)) 4 ++ (b ++ layL (sumL b) 4 ++ t))) = b.length := by
    obtain ⟨_, h2, _, _⟩ := parts9 201 (layL b.length 4) (layL (sumL (head5 b.length)) 4) (b ++ layL (sumL b) 4 ++ t) (layL_length ..) (layL_length ..)
    unfold cnt; rw [h2, len_num b hb]
  refine ⟨?_, hc, ?_⟩
  · rw [unfrE_parts 201 _ _ _ _ _ (layL_length ..) (layL_length ..) (layL_length ..) (len_num b hb) hb, if_neg (by decide), sum_num, sum_num, if_neg (by unfold head5; simp), if_neg (by simp)]
  · unfold bodyL
    obtain ⟨_, _, _, h4⟩ := parts9 201 (layL b.length 4) (layL (sumL (head5 b.length)) 4) (b ++ layL (sumL b) 4 ++ t) (layL_length ..) (layL_length ..)
    rw [h4, hc, List.append_assoc, List.take_left]
/-- Each shorter beginning is too short. -/
theorem unfr_short (b : List UInt8) (hb : b.length ≤ 16777216) (k : Nat) (hk : k < b.length + 13) : unfrE ((frameL b).take k) = 30 := by
  have hlen := frameL_length b
  have hl : ((frameL b).take k).length = k := by rw [List.length_take]; omega
  have hp := frameL_parts b []
  rw [List.append_nil] at hp
  have h0 : headE (frameL b) = 0 := by
    rw [hp, headE_parts 201 _ _ _ (layL_length ..) (layL_length ..), if_neg (by decide), sum_num, if_neg (by unfold head5; simp), len_num b hb, if_neg (by omega)]
  have hc := (unfr_frame b [] hb).2.1
  rw [List.append_nil] at hc
  by_cases k0 : k = 0
  · subst k0; rfl
  · have hh : ((frameL b).take k).headD 0 = 201 := by
      rw [hp]
      cases k with
      | zero => omega
      | succ k => simp
    by_cases k9 : k < 9
    · have : headE ((frameL b).take k) = 30 := by
        unfold headE
        rw [hl, hh, if_neg k0, if_neg (by simp), if_pos k9]
      unfold unfrE
      rw [this, if_pos (by decide)]
    · have t5 : ((frameL b).take k).take 5 = (frameL b).take 5 := by rw [List.take_take, Nat.min_eq_left (by omega)]
      have t4 : (((frameL b).take k).drop 5).take 4 = ((frameL b).drop 5).take 4 := by rw [List.drop_take, List.take_take, Nat.min_eq_left (by omega)]
      have t1 : (((frameL b).take k).drop 1).take 4 = ((frameL b).drop 1).take 4 := by rw [List.drop_take, List.take_take, Nat.min_eq_left (by omega)]
      have hc2 : cnt ((frameL b).take k) = b.length := by unfold cnt; rw [t1]; exact hc
      have : headE ((frameL b).take k) = 0 := by
        have hh0 : (frameL b).headD 0 = 201 := by rw [hp]; rfl
        unfold headE at h0 ⊢
        rw [hl, hh, t4, t5, hc2, if_neg k0, if_neg (by simp), if_neg k9]
        rw [hlen, hh0, hc, if_neg (by omega), if_neg (by simp), if_neg (by omega)] at h0
        exact h0
      unfold unfrE
      rw [this, hc2, hl, if_neg (by simp), if_pos (by omega)]
theorem set_ne (l : List UInt8) (i : Nat) (y : UInt8) (h : i < l.length) (hy : y ≠ l[i]) : l.set i y ≠ l := fun e => hy (by
  have : (l.set i y)[i]'(by simpa using h) = l[i] := by congr 1
  rw [List.getElem_set_self] at this
  exact this)
theorem set_split (l : List UInt8) (i : Nat) (y : UInt8) (h : i < l.length) : l.set i y = l.take i ++ [y] ++ l.drop (i + 1) ∧ l = l.take i ++ [l[i]] ++ l.drop (i + 1) := by
  constructor
  · rw [List.set_eq_take_append_cons_drop, if_pos h]; simp
  · simp
theorem sum_set (l : List UInt8) (i : Nat) (y : UInt8) (h : i < l.length) (hy : y ≠ l[i]) : sumL (l.set i y) ≠ sumL l := fun e => by
  obtain ⟨h1, h2⟩ := set_split l i y h
  rw [h1] at e
  have e' : sumL (l.take i ++ [y] ++ l.drop (i + 1)) = sumL (l.take i ++ [l[i]] ++ l.drop (i + 1)) := e.trans (congrArg sumL h2)
  have := sum_window (l.take i) [y] [l[i]] (l.drop (i + 1)) rfl (by simp) e'
  exact hy (by simpa using this)
/-- A frame with one byte changed is refused, and not as one that is too short. -/
theorem unfr_bent (b t : List UInt8) (hb : b.length ≤ 16777216) (i : Nat) (y : UInt8) (hi : i < (frameL b).length) (hy : y ≠ (frameL b)[i]) : unfrE ((frameL b).set i y ++ t) = 32 ∨ unfrE ((frameL b).set i y ++ t) = 34 := by
  obtain ⟨A, hAe⟩ : ∃ A, layL b.length 4 = A := ⟨_, rfl⟩
  obtain ⟨S, hSe⟩ : ∃ A, layL (sumL (head5 b.length)) 4 = A := ⟨_, rfl⟩
  obtain ⟨Z, hZe⟩ : ∃ A, layL (sumL b) 4 = A := ⟨_, rfl⟩
  have hA : A.length = 4 := by rw [← hAe, layL_length]
  have hS : S.length = 4 := by rw [← hSe, layL_length]
  have hZ : Z.length = 4 := by rw [← hZe, layL_length]
  have nA : numL A = b.length := by rw [← hAe, len_num b hb]
  have nS : numL S = sumL (201 :: A) := by rw [← hSe, sum_num, head5, hAe]
  have nZ : numL Z = sumL b := by rw [← hZe, sum_num]
  have hp : frameL b = 201 :: (A ++ S ++ (b ++ Z)) := by
    have := frameL_parts b []
    rw [List.append_nil, List.append_nil, hAe, hSe, hZe] at this
    exact this
  have hlen := frameL_length b
  simp only [hp] at hi hy ⊢
  have hi' : i < b.length + 13 := by rw [← hp, hlen] at hi; exact hi
  by_cases i0 : i = 0
  · subst i0
    right
    simp only [List.getElem_cons_zero] at hy
    simp only [List.set_cons_zero, List.cons_append, List.append_assoc]
    have := unfrE_parts y A S b Z t hA hS hZ nA hb
    rw [if_pos hy] at this
    simpa only [List.append_assoc] using this
  · obtain ⟨j, rfl⟩ : ∃ j, i = j + 1 := ⟨i - 1, by omega⟩
    left
    simp only [List.getElem_cons_succ] at hy
    simp only [List.set_cons_succ]
    by_cases j4 : j < 4
    · have g : (A ++ S ++ (b ++ Z))[j]'(by simp; omega) = A[j]'(by omega) := by
        rw [List.getElem_append_left (by simp; omega), List.getElem_append_left (by omega)]
      rw [g] at hy
      rw [List.append_assoc, List.set_append, if_pos (by omega)]
      have hA' : (A.set j y).length = 4 := by simpa using hA
      have hne := sum_set (201 :: A) (j + 1) y (by simp; omega) (by simpa using hy)
      have := headE_parts 201 (A.set j y) S (b ++ Z ++ t) hA' hS
      rw [if_neg (by decide), if_pos (by rw [nS]; exact fun e => hne e.symm)] at this
      have e : 201 :: (A.set j y ++ (S ++ (b ++ Z))) ++ t = 201 :: (A.set j y ++ S ++ (b ++ Z ++ t)) := by simp
      rw [e]
      unfold unfrE
      rw [this, if_pos (by decide)]
    · by_cases j8 : j < 8
      · have g : (A ++ S ++ (b ++ Z))[j]'(by simp; omega) = S[j - 4]'(by omega) := by
          rw [List.getElem_append_left (by simp; omega), List.getElem_append_right (by omega)]
          simp only [hA]
        rw [g] at hy
        rw [List.append_assoc, List.set_append, if_neg (by omega), hA, List.set_append, if_pos (by omega)]
        have hS' : (S.set (j - 4) y).length = 4 := by simpa using hS
        have hne : numL (S.set (j - 4) y) ≠ numL S := fun e => set_ne S (j - 4) y (by omega) hy (numL_inj _ _ (by simp) e)
        have := headE_parts 201 A (S.set (j - 4) y) (b ++ Z ++ t) hA hS'
        rw [if_neg (by decide), if_pos (by rw [← nS]; exact hne)] at this
        have e : 201 :: (A ++ (S.set (j - 4) y ++ (b ++ Z))) ++ t = 201 :: (A ++ S.set (j - 4) y ++ (b ++ Z ++ t)) := by simp
        rw [e]
        unfold unfrE
        rw [this, if_pos (by decide)]
      · by_cases jb : j < 8 + b.length
        · have g : (A ++ S ++ (b ++ Z))[j]'(by simp; omega) = b[j - 8]'(by omega) := by
            rw [List.getElem_append_right (by simp; omega), List.getElem_append_left (by simp; omega)]
            simp only [List.length_append, hA, hS]
          rw [g] at hy
          rw [List.set_append, if_neg (by simp; omega), List.length_append, hA, hS, List.set_append, if_pos (by omega)]
          have hne := sum_set b (j - 8) y (by omega) hy
          have := unfrE_parts 201 A S (b.set (j - 8) y) Z t hA hS hZ (by simpa using nA) (by simpa using hb)
          rw [if_neg (by decide), if_neg (by rw [nS]; simp), if_pos (by rw [nZ]; exact fun e => hne e.symm)] at this
          simpa only [List.append_assoc, List.cons_append] using this
        · have g : (A ++ S ++ (b ++ Z))[j]'(by simp; omega) = Z[j - 8 - b.length]'(by omega) := by
            rw [List.getElem_append_right (by simp; omega), List.getElem_append_right (by simp; omega)]
            simp only [List.length_append, hA, hS]
          rw [g] at hy
          rw [List.set_append, if_neg (by simp; omega), List.length_append, hA, hS, List.set_append, if_neg (by omega)]
          have hne : numL (Z.set (j - (4 + 4) - b.length) y) ≠ numL Z := fun e => set_ne Z (j - (4 + 4) - b.length) y (by omega) hy (numL_inj _ _ (by simp) e)
          have := unfrE_parts 201 A S b (Z.set (j - (4 + 4) - b.length) y) t hA hS (by simpa using hZ) nA hb
          rw [if_neg (by decide), if_neg (by rw [nS]; simp), if_pos (by rw [← nZ]; exact hne)] at this
          simpa only [List.append_assoc, List.cons_append] using this
end Go.Proofs.YtpbiofnncdneoaaDoor
