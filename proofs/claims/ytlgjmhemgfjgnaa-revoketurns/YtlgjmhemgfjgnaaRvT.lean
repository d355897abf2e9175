/- RevokeTurns, plain: grants by themselves. -/
import Derived.Test.YtlgjmhemgfjgnaaRvL
namespace Go.Proofs.Ytlgjmhemgfjgnaa

def kind (o : St) : Bool := decide (o.dO = 1) || decide (o.dO = 2)
def stepO (q : List Ky) (o : St) : List Ky := if o.dO = 1 then addO q o.g o.id o.ex else killO q o.g o.ex
theorem step_own {l : List Ky} (h : chk l = true) {o : St} (hk : kind o = true) : chk (stepL l o) = true ∧ (stepL l o).length ≤ l.length + 1 ∧ ∀ g, own (stepL l o) g = if g = o.g then stepO (own l o.g) o else own l g := by
  unfold stepL stepO
  by_cases h1 : o.dO = 1
  · rw [if_pos h1]
    refine ⟨chk_add h _ _ _, len_add _ _ _ _, fun g => ?_⟩
    rw [own_add h, if_pos h1]
  · have h2 : o.dO = 2 := by
      unfold kind at hk
      simp only [Bool.or_eq_true, decide_eq_true_eq] at hk
      exact hk.resolve_left h1
    rw [if_neg h1, if_pos h2]
    refine ⟨chk_kill h _ _, len_kill _ _ _, fun g => ?_⟩
    rw [own_kill h, if_neg h1]
theorem ltS_succ (T : Nat → St) (i : Nat) : ltS T (i + 1) = if kind (T i) = true then stepL (ltS T i) (T i) else ltS T i := by
  show (if (T i).dO = 1 then _ else _) = _
  unfold kind
  by_cases h1 : (T i).dO = 1
  · rw [if_pos h1, if_pos (by simp [h1])]
  · by_cases h2 : (T i).dO = 2
    · rw [if_neg h1, if_pos h2, if_pos (by simp [h2])]
    · rw [if_neg h1, if_neg h2, if_neg (by simp [h1, h2])]
theorem own_ltS (T : Nat → St) (i g : Nat) : own (ltS T (i + 1)) g = if kind (T i) = true ∧ g = (T i).g then stepO (own (ltS T i) (T i).g) (T i) else own (ltS T i) g := by
  rw [ltS_succ]
  by_cases hk : kind (T i) = true
  · rw [if_pos hk, (step_own (ltS_ok T i).1 hk).2.2]
    by_cases hg : g = (T i).g
    · rw [if_pos hg, if_pos ⟨hk, hg⟩]
    · rw [if_neg hg, if_neg (fun h => hg h.2)]
  · rw [if_neg hk, if_neg (fun h => hk h.1)]
theorem own_none (T : Nat → St) (g : Nat) : ∀ n, (∀ j, j < n → (T j).g ≠ g) → own (ltS T n) g = []
  | 0, _ => rfl
  | n + 1, h => by
    rw [own_ltS, if_neg (fun hh => h n (by omega) hh.2.symm)]
    exact own_none T g n (fun j hj => h j (by omega))
/-- what the second list is, grants from place k on being done. -/
structure Mt (T : Nat → St) (n k : Nat) (m : List Ky) : Prop where
  c : chk m = true
  l : m.length ≤ 40 * (n - k)
  d : ∀ g, (∃ j, k ≤ j ∧ j < n ∧ (T j).g = g) → own m g = own (ltS T n) g
  e : ∀ g, (¬ ∃ j, k ≤ j ∧ j < n ∧ (T j).g = g) → own m g = []
/-- the same while one grant's steps are taken. -/
structure Mi (T : Nat → St) (n k h i : Nat) (m0 m : List Ky) : Prop where
  c : chk m = true
  l : m.length ≤ m0.length + i
  o : own m h = own (ltS T i) h
  r : ∀ g, g ≠ h → own m g = own m0 g
theorem Mt.start (T : Nat → St) (n : Nat) : Mt T n n [] := ⟨rfl, Nat.zero_le _, fun g ⟨j, h1, h2, _⟩ => by omega, fun _ _ => rfl⟩
theorem Mt.fin {T : Nat → St} {n : Nat} {m : List Ky} (h : Mt T n 0 m) : ltS T n = m := by
  refine own_ext (ltS_ok T n).1 h.c (fun g => ?_)
  by_cases hg : ∃ j, 0 ≤ j ∧ j < n ∧ (T j).g = g
  · exact (h.d g hg).symm
  · rw [h.e g hg]
    exact own_none T g n (fun j hj e => hg ⟨j, Nat.zero_le _, hj, e⟩)
theorem later_iff (T : Nat → St) (n i : Nat) : laterT T n i (i + 1) = true ↔ ∃ j, i + 1 ≤ j ∧ j < n ∧ (T j).g = (T i).g := by
  unfold laterT
  rw [List.any_eq_true]
  constructor
  · rintro ⟨j, hj, he⟩
    have := List.mem_range'_1.1 hj
    exact ⟨j, this.1, by omega, by simpa using he⟩
  · rintro ⟨j, h1, h2, he⟩
    exact ⟨j, List.mem_range'_1.2 ⟨h1, by omega⟩, by simpa using he⟩
theorem Mt.skip {T : Nat → St} {n k : Nat} {m : List Ky} (h : Mt T n (k + 1) m) (hl : laterT T n k (k + 1) = true) : Mt T n k m := by
  obtain ⟨j0, h1, h2, h3⟩ := (later_iff T n k).1 hl
  have eq : ∀ g, (∃ j, k ≤ j ∧ j < n ∧ (T j).g = g) ↔ ∃ j, k + 1 ≤ j ∧ j < n ∧ (T j).g = g := fun g => by
    constructor
    · rintro ⟨j, a, b, c⟩
      rcases Nat.lt_or_ge k j with hkj | hkj
      · exact ⟨j, hkj, b, c⟩
      · have : j = k := by omega
        subst this
        exact ⟨j0, h1, h2, h3.trans c⟩
    · rintro ⟨j, a, b, c⟩
      exact ⟨j, by omega, b, c⟩
  exact ⟨h.c, Nat.le_trans h.l (Nat.mul_le_mul_left _ (by omega)), fun g hg => h.d g ((eq g).1 hg), fun g hg => h.e g (fun x => hg ((eq g).2 x))⟩
theorem Mi.start {T : Nat → St} {n k : Nat} {m : List Ky} (h : Mt T n (k + 1) m) (hl : laterT T n k (k + 1) = false) : Mi T n k (T k).g 0 m m := by
  refine ⟨h.c, Nat.le_refl _, ?_, fun _ _ => rfl⟩
  refine h.e _ (fun hx => ?_)
  rw [(later_iff T n k).2 hx] at hl
  cases hl
theorem Mi.step {T : Nat → St} {n k h i : Nat} {m0 m : List Ky} (x : Mi T n k h i m0 m) (hg : (T i).g = h) (hk : kind (T i) = true) : Mi T n k h (i + 1) m0 (stepL m (T i)) := by
  obtain ⟨s1, s2, s3⟩ := step_own x.c hk
  refine ⟨s1, by have := x.l; omega, ?_, fun g hne => ?_⟩
  · rw [s3, if_pos hg.symm, own_ltS, if_pos ⟨hk, hg.symm⟩, hg, x.o]
  · rw [s3, if_neg (by rw [hg]; exact hne), x.r g hne]
theorem Mi.pass {T : Nat → St} {n k h i : Nat} {m0 m : List Ky} (x : Mi T n k h i m0 m) (hg : ¬ (kind (T i) = true ∧ (T i).g = h)) : Mi T n k h (i + 1) m0 m :=
  ⟨x.c, by have := x.l; omega, by rw [own_ltS, if_neg (fun e => hg ⟨e.1, e.2.symm⟩), x.o], x.r⟩
theorem Mi.fin {T : Nat → St} {n k : Nat} {m0 m : List Ky} (h : Mt T n (k + 1) m0) (x : Mi T n k (T k).g n m0 m) (hk : k < n) (hn : n ≤ 40) : Mt T n k m := by
  refine ⟨x.c, ?_, fun g hg => ?_, fun g hg => ?_⟩
  · have h1 := x.l
    have h2 := h.l
    have : 40 * (n - k) = 40 * (n - (k + 1)) + 40 := by omega
    omega
  · by_cases e : g = (T k).g
    · rw [e]; exact x.o
    · rw [x.r g e]
      obtain ⟨j, a, b, c⟩ := hg
      refine h.d g ⟨j, ?_, b, c⟩
      rcases Nat.lt_or_ge k j with hkj | hkj
      · exact hkj
      · have : j = k := by omega
        subst this
        exact absurd c.symm e
  · have e : g ≠ (T k).g := fun e => hg ⟨k, Nat.le_refl _, hk, e.symm⟩
    rw [x.r g e]
    exact h.e g (fun ⟨j, a, b, c⟩ => hg ⟨j, by omega, b, c⟩)
end Go.Proofs.Ytlgjmhemgfjgnaa
