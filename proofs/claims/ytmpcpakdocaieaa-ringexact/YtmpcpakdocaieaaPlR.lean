/- Rings as lists: what is a ring, what Prune, Rotate and Distrust make of one. -/
import Derived.Test.YtmpcpakdocaieaaRingK
namespace Go.Proofs.Ytmpcpakdocaieaa
open Go Go.RowKit

def tilOk : List Ky → Prop
  | [] => True
  | k :: l => gu k.til l.isEmpty = true ∧ tilOk l
theorem goodFrom_iff : ∀ (l : List Ky) (a : Nat), goodFrom a l = true ↔ (l.Pairwise (fun x y => x.kid < y.kid) ∧ (∀ x ∈ l, a < x.kid) ∧ tilOk l)
  | [], a => by simp [goodFrom, tilOk]
  | k :: l, a => by
    have ih := goodFrom_iff l k.kid
    unfold goodFrom tilOk
    simp only [Bool.and_eq_true, decide_eq_true_eq, ih, List.pairwise_cons, List.mem_cons, forall_eq_or_imp]
    constructor
    · rintro ⟨h1, h2, h3, h4, h5⟩
      exact ⟨⟨h4, h3⟩, ⟨h1, fun x hx => Nat.lt_trans h1 (h4 x hx)⟩, h2, h5⟩
    · rintro ⟨⟨h4, h3⟩, ⟨h1, _⟩, h2, h5⟩
      exact ⟨h1, h2, h3, h4, h5⟩
theorem tilOk_snoc : ∀ (i : List Ky) (k : Ky), tilOk (i ++ [k]) ↔ ((∀ x ∈ i, 0 < x.til) ∧ k.til = 0)
  | [], k => by simp [tilOk, gu]
  | x :: i, k => by
    have ih := tilOk_snoc i k
    have e : (i ++ [k]).isEmpty = false := by cases i <;> rfl
    show gu x.til (i ++ [k]).isEmpty = true ∧ tilOk (i ++ [k]) ↔ _
    rw [e, ih]
    simp only [gu, List.mem_cons, forall_eq_or_imp]
    constructor
    · rintro ⟨h1, h2, h3⟩
      exact ⟨⟨by simpa using h1, h2⟩, h3⟩
    · rintro ⟨⟨h1, h2⟩, h3⟩
      exact ⟨by simpa using h1, h2, h3⟩
/-- A ring, its current key named. -/
structure Rg (l : List Ky) (nx : Nat) (i : List Ky) (k : Ky) : Prop where
  eq : l = i ++ [k]
  pw : l.Pairwise (fun x y => x.kid < y.kid)
  pos : ∀ x ∈ l, 0 < x.kid
  tils : ∀ x ∈ i, 0 < x.til
  til0 : k.til = 0
  klt : k.kid < nx
  nmax : nx ≤ 9223372036854775807
  len : l.length ≤ 8
theorem lastK_snoc (i : List Ky) (k : Ky) : lastK (i ++ [k]) = k := by unfold lastK; simp
theorem isRing_rg {l : List Ky} {nx : Nat} (h : isRing l nx = true) : ∃ i, Rg l nx i (lastK l) := by
  obtain ⟨h1, h2, h3⟩ := isRing_good h
  obtain ⟨h4, h5⟩ := goodL_pos h1
  have hne : l ≠ [] := fun e => by rw [e] at h4; simp at h4
  have e : l = l.dropLast ++ [lastK l] := by
    have := List.dropLast_concat_getLast hne
    unfold lastK
    rw [List.getLast?_eq_some_getLast hne]
    exact this.symm
  unfold goodL at h1
  simp only [Bool.and_eq_true, decide_eq_true_eq] at h1
  obtain ⟨p1, p2, p3⟩ := (goodFrom_iff l 0).1 h1.2.2
  have p4 := p3
  rw [e, tilOk_snoc] at p4
  refine ⟨l.dropLast, e, p1, p2, p4.1, ?_, h2, h3, h5⟩
  exact p4.2
theorem Rg.ring {l : List Ky} {nx : Nat} {i : List Ky} {k : Ky} (h : Rg l nx i k) : isRing l nx = true ∧ lastK l = k := by
  have hl : lastK l = k := by rw [h.eq]; exact lastK_snoc i k
  refine ⟨?_, hl⟩
  unfold isRing goodL
  rw [hl, decide_eq_true h.klt, decide_eq_true h.nmax, decide_eq_true h.len, decide_eq_true (show 0 < l.length by rw [h.eq]; simp)]
  simp only [Bool.true_and, Bool.and_true]
  refine (goodFrom_iff l 0).2 ⟨h.pw, h.pos, ?_⟩
  have ht := h.tils
  have h0 := h.til0
  rw [h.eq, tilOk_snoc]
  exact ⟨ht, h0⟩
theorem Rg.first (s : List UInt8) : Rg [⟨1, s, 0⟩] 2 [] ⟨1, s, 0⟩ :=
  ⟨rfl, by simp, by simp, by simp, rfl, by show 1 < 2; decide, by decide, by show 1 ≤ 8; decide⟩
theorem Rg.prune {l : List Ky} {nx : Nat} {i : List Ky} {k : Ky} (h : Rg l nx i k) (now : Int) : Rg (l.filter (fun x => !goesP now x)) nx (i.filter (fun x => !goesP now x)) k := by
  have hk : (!goesP now k) = true := by unfold goesP; rw [h.til0]; simp
  refine ⟨?_, h.pw.filter _, fun x hx => h.pos x ((List.mem_filter.1 hx).1), fun x hx => h.tils x ((List.mem_filter.1 hx).1), h.til0, h.klt, h.nmax, Nat.le_trans (List.length_filter_le _ _) h.len⟩
  rw [h.eq, List.filter_append, List.filter_cons, if_pos hk, List.filter_nil]
theorem pair_snoc {i : List Ky} {k : Ky} : (i ++ [k]).Pairwise (fun x y => x.kid < y.kid) ↔ (i.Pairwise (fun x y => x.kid < y.kid) ∧ ∀ x ∈ i, x.kid < k.kid) := by
  rw [List.pairwise_append]
  simp
theorem Rg.rot_eq {l : List Ky} {nx : Nat} {i : List Ky} {k : Ky} (h : Rg l nx i k) (sec : List UInt8) (til : Int) : rotL l nx sec til = (i ++ [⟨k.kid, k.sec, til⟩]) ++ [⟨nx, sec, 0⟩] := by
  unfold rotL
  rw [h.ring.2]
  have e : l.set (l.length - 1) ⟨k.kid, k.sec, til⟩ = i ++ [⟨k.kid, k.sec, til⟩] := by
    rw [h.eq, List.length_append]
    show (i ++ [k]).set (i.length + 1 - 1) _ = _
    rw [Nat.add_sub_cancel, List.set_append_right _ _ (Nat.le_refl _), Nat.sub_self]
    rfl
  rw [e]
theorem Rg.rotate {l : List Ky} {nx : Nat} {i : List Ky} {k : Ky} (h : Rg l nx i k) (sec : List UInt8) (til : Int) (ht : 0 < til) (hl : l.length ≠ 8) (hn : nx ≠ 9223372036854775807) : Rg (rotL l nx sec til) (nx + 1) (i ++ [⟨k.kid, k.sec, til⟩]) ⟨nx, sec, 0⟩ := by
  have hp := h.pw
  rw [h.eq, pair_snoc] at hp
  have hpos := h.pos
  rw [h.eq] at hpos
  have hmem : ∀ x ∈ i ++ [Ky.mk k.kid k.sec til], x.kid < nx ∧ 0 < x.kid := fun x hx => by
    rcases List.mem_append.1 hx with hx | hx
    · exact ⟨Nat.lt_trans (hp.2 x hx) h.klt, hpos x (by simp [hx])⟩
    · rw [List.mem_singleton.1 hx]
      exact ⟨h.klt, hpos k (by simp)⟩
  refine ⟨h.rot_eq sec til, ?_, ?_, fun x hx => ?_, rfl, Nat.lt_succ_self _, by have := h.nmax; omega, ?_⟩
  · rw [h.rot_eq, pair_snoc, pair_snoc]
    exact ⟨⟨hp.1, hp.2⟩, fun x hx => (hmem x hx).1⟩
  · rw [h.rot_eq]
    intro x hx
    rcases List.mem_append.1 hx with hx | hx
    · exact (hmem x hx).2
    · rw [List.mem_singleton.1 hx]
      have := h.klt
      show 0 < nx
      omega
  · rcases List.mem_append.1 hx with hx | hx
    · exact h.tils x hx
    · rw [List.mem_singleton.1 hx]; exact ht
  · rw [h.rot_eq, List.length_append, List.length_append]
    have := h.len
    rw [h.eq, List.length_append] at this hl
    simp only [List.length_cons, List.length_nil] at this hl ⊢
    omega
theorem Rg.kid_inj {l : List Ky} {nx : Nat} {i : List Ky} {k : Ky} (h : Rg l nx i k) {x y : Ky} (hx : x ∈ l) (hy : y ∈ l) (e : x.kid = y.kid) : x = y := by
  obtain ⟨a, ha, rfl⟩ := List.getElem_of_mem hx
  obtain ⟨b, hb, rfl⟩ := List.getElem_of_mem hy
  have hp := List.pairwise_iff_getElem.1 h.pw
  rcases Nat.lt_trichotomy a b with hlt | rfl | hlt
  · have := hp a b ha hb hlt
    omega
  · rfl
  · have := hp b a hb ha hlt
    omega
/-- a key is found by its kid. -/
theorem Rg.find_mem {l : List Ky} {nx : Nat} {i : List Ky} {k : Ky} (h : Rg l nx i k) {x : Ky} (hx : x ∈ l) : findK l x.kid = some x := by
  cases hf : findK l x.kid with
  | none =>
    unfold findK at hf
    have := List.find?_eq_none.1 hf x hx
    simp at this
  | some q =>
    have hq : q ∈ l := List.mem_of_find?_eq_some hf
    have he : q.kid = x.kid := by
      unfold findK at hf
      have := List.find?_some hf
      simpa using this
    rw [h.kid_inj hq hx he]
theorem find_gone {l : List Ky} {kid : Nat} (h : ∀ x ∈ l, x.kid ≠ kid) : findK l kid = none := by
  unfold findK
  exact List.find?_eq_none.2 (fun x hx => by simpa using h x hx)
theorem filter_ne_last {i : List Ky} {k : Ky} (h : ∀ x ∈ i, x ≠ k) : (i ++ [k]).filter (fun x => !(x == k)) = i := by
  rw [List.filter_append]
  have h1 : i.filter (fun x => !(x == k)) = i := List.filter_eq_self.2 (fun x hx => by simpa using h x hx)
  rw [h1]
  simp
theorem Rg.ne_last {l : List Ky} {nx : Nat} {i : List Ky} {k : Ky} (h : Rg l nx i k) : ∀ x ∈ i, x ≠ k := fun x hx e => by
  have hp := h.pw
  rw [h.eq, pair_snoc] at hp
  have := hp.2 x hx
  rw [e] at this
  omega
theorem Rg.bad {l : List Ky} {nx : Nat} {i : List Ky} {k : Ky} (h : Rg l nx i k) (q : Ky) (hq : q ≠ k) : Rg (l.filter (fun x => !(x == q))) nx (i.filter (fun x => !(x == q))) k := by
  refine ⟨?_, h.pw.filter _, fun x hx => h.pos x ((List.mem_filter.1 hx).1), fun x hx => h.tils x ((List.mem_filter.1 hx).1), h.til0, h.klt, h.nmax, Nat.le_trans (List.length_filter_le _ _) h.len⟩
  rw [h.eq, List.filter_append, List.filter_cons, if_pos (by simpa using fun e => hq e.symm), List.filter_nil]
theorem Rg.badLast {l : List Ky} {nx : Nat} {i : List Ky} {k : Ky} (h : Rg l nx i k) (sec : List UInt8) (hn : nx ≠ 9223372036854775807) : l.filter (fun x => !(x == k)) = i ∧ Rg (i ++ [⟨nx, sec, 0⟩]) (nx + 1) i ⟨nx, sec, 0⟩ := by
  have e : l.filter (fun x => !(x == k)) = i := by
    have := filter_ne_last h.ne_last
    rw [← h.eq] at this
    exact this
  have hp := h.pw
  rw [h.eq, pair_snoc] at hp
  refine ⟨e, rfl, ?_, fun x hx => ?_, h.tils, rfl, Nat.lt_succ_self _, by have := h.nmax; omega, ?_⟩
  · rw [pair_snoc]
    exact ⟨hp.1, fun x hx => Nat.lt_trans (hp.2 x hx) h.klt⟩
  · rcases List.mem_append.1 hx with hx | hx
    · exact h.pos x (by rw [h.eq]; simp [hx])
    · rw [List.mem_singleton.1 hx]
      have := h.klt
      show 0 < nx
      omega
  · have := h.len
    rw [h.eq] at this
    simpa using this
/-- what Distrust makes of a ring, where it is not refused. -/
theorem disE_zero {l : List Ky} {nx kid : Nat} (hr : isRing l nx = true) (h : disE l nx kid = 0) : ∃ q, findK l kid = some q ∧ ((q == lastK l) = true → nx ≠ 9223372036854775807) := by
  unfold disE at h
  rw [if_pos hr] at h
  cases hf : findK l kid with
  | none => rw [hf] at h; simp at h
  | some q =>
    refine ⟨q, rfl, fun he hn => ?_⟩
    rw [hf] at h
    simp only [he, decide_eq_true hn, Bool.and_self, if_true] at h
    omega
theorem disR_ring {l : List Ky} {nx kid : Nat} (sec : List UInt8) (hr : isRing l nx = true) (h : disE l nx kid = 0) : isRing (disR l nx kid sec).1 (disR l nx kid sec).2 = true := by
  obtain ⟨q, hf, hq⟩ := disE_zero hr h
  obtain ⟨i, hg⟩ := isRing_rg hr
  unfold disR
  rw [if_pos h, hf]
  simp only [disK]
  by_cases he : q = lastK l
  · have hb : (q == lastK l) = true := by simpa using he
    rw [if_pos hb]
    obtain ⟨e1, e2⟩ := hg.badLast sec (hq hb)
    rw [← he] at e1
    simp only []
    rw [e1]
    exact e2.ring.1
  · have hb : ¬ (q == lastK l) = true := by simpa using he
    rw [if_neg hb]
    exact (hg.bad q he).ring.1
theorem rotR_ring {l : List Ky} {nx : Nat} (sec : List UInt8) (til : Int) (hr : isRing l nx = true) (h : rotE l nx til = 0) : isRing (rotR l nx sec til).1 (rotR l nx sec til).2 = true := by
  obtain ⟨i, hg⟩ := isRing_rg hr
  unfold rotR
  rw [if_pos h]
  unfold rotE at h
  rw [if_pos hr] at h
  by_cases ht : til ≤ 0
  · rw [if_pos ht] at h; omega
  · rw [if_neg ht] at h
    by_cases hx : (decide (l.length = 8) || decide (nx = 9223372036854775807)) = true
    · rw [if_pos hx] at h; omega
    · simp only [Bool.or_eq_true, decide_eq_true_eq, not_or] at hx
      exact (hg.rotate sec til (by omega) hx.1 hx.2).ring.1
theorem prn_ring {l : List Ky} {nx : Nat} (now : Int) (hr : isRing l nx = true) : prn l nx now = (l.filter (fun x => !goesP now x), nx) ∧ isRing (l.filter (fun x => !goesP now x)) nx = true := by
  obtain ⟨i, hg⟩ := isRing_rg hr
  exact ⟨by unfold prn; rw [if_pos hr], (hg.prune now).ring.1⟩
end Go.Proofs.Ytmpcpakdocaieaa
