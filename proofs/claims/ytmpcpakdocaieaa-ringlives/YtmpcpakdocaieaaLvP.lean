/- RingLives: plain facts: what became of every key that ever was, and the ring that there is. -/
import Derived.Test.YtmpcpakdocaieaaSwP
namespace Go.Proofs.Ytmpcpakdocaieaa
open Go Go.RowKit

/-- What became of a key. -/
structure Ft where
  sec : List UInt8
  til : Int
  gone : Bool
/-- The keys that are there, the first one's kid being k. -/
def alive : Nat → List Ft → List Ky
  | _, [] => []
  | k, f :: fs => if f.gone = true then alive (k + 1) fs else ⟨k, f.sec, f.til⟩ :: alive (k + 1) fs
theorem alive_append : ∀ (xs ys : List Ft) (k : Nat), alive k (xs ++ ys) = alive k xs ++ alive (k + xs.length) ys
  | [], ys, k => rfl
  | f :: xs, ys, k => by
    have ih := alive_append xs ys (k + 1)
    show (if f.gone = true then alive (k + 1) (xs ++ ys) else ⟨k, f.sec, f.til⟩ :: alive (k + 1) (xs ++ ys)) = _
    rw [ih, show k + 1 + xs.length = k + (f :: xs).length by simp; omega]
    show _ = (if f.gone = true then alive (k + 1) xs else ⟨k, f.sec, f.til⟩ :: alive (k + 1) xs) ++ _
    split <;> rfl
theorem alive_mem {x : Ky} : ∀ {fs : List Ft} {k : Nat}, x ∈ alive k fs ↔ ∃ j f, fs[j]? = some f ∧ f.gone = false ∧ x = ⟨k + j, f.sec, f.til⟩
  | [], k => by
    constructor
    · intro h; cases h
    · rintro ⟨j, f, h, _⟩; simp at h
  | g :: fs, k => by
    have ih := @alive_mem x fs (k + 1)
    have hd : alive k (g :: fs) = if g.gone = true then alive (k + 1) fs else ⟨k, g.sec, g.til⟩ :: alive (k + 1) fs := rfl
    constructor
    · intro h
      rw [hd] at h
      cases hg : g.gone with
      | true =>
        rw [hg, if_pos rfl] at h
        obtain ⟨j, f, h1, h2, h3⟩ := ih.1 h
        exact ⟨j + 1, f, by simpa using h1, h2, by rw [h3]; congr 1; omega⟩
      | false =>
        rw [hg, if_neg (by decide)] at h
        rcases List.mem_cons.1 h with h | h
        · exact ⟨0, g, rfl, hg, h⟩
        · obtain ⟨j, f, h1, h2, h3⟩ := ih.1 h
          exact ⟨j + 1, f, by simpa using h1, h2, by rw [h3]; congr 1; omega⟩
    · rintro ⟨j, f, h1, h2, h3⟩
      rw [hd]
      cases j with
      | zero =>
        simp only [List.getElem?_cons_zero, Option.some.injEq] at h1
        subst h1
        rw [if_neg (by rw [h2]; decide), h3]
        exact List.mem_cons_self
      | succ j =>
        have h := ih.2 ⟨j, f, by simpa using h1, h2, by rw [h3]; congr 1; omega⟩
        split
        · exact h
        · exact List.mem_cons_of_mem _ h
theorem alive_length : ∀ (fs : List Ft) (k : Nat), (alive k fs).length = fs.countP (fun f => !f.gone)
  | [], _ => rfl
  | g :: fs, k => by
    have ih := alive_length fs (k + 1)
    show (if g.gone = true then alive (k + 1) fs else ⟨k, g.sec, g.til⟩ :: alive (k + 1) fs).length = _
    rw [List.countP_cons]
    cases hg : g.gone with
    | true => rw [if_pos rfl, ih]; rfl
    | false => rw [if_neg (by decide), List.length_cons, ih]; rfl
/-- What a Prune at now does. -/
def Ft.prune (now : Int) (f : Ft) : Ft := ⟨f.sec, f.til, f.gone || (decide (0 < f.til) && decide (f.til ≤ now))⟩
theorem alive_prune (now : Int) : ∀ (fs : List Ft) (k : Nat), alive k (fs.map (Ft.prune now)) = (alive k fs).filter (fun x => !goesP now x)
  | [], _ => rfl
  | g :: fs, k => by
    have ih := alive_prune now fs (k + 1)
    show (if (g.gone || (decide (0 < g.til) && decide (g.til ≤ now))) = true then alive (k + 1) (fs.map (Ft.prune now)) else ⟨k, g.sec, g.til⟩ :: alive (k + 1) (fs.map (Ft.prune now))) = (if g.gone = true then alive (k + 1) fs else ⟨k, g.sec, g.til⟩ :: alive (k + 1) fs).filter (fun x => !goesP now x)
    rw [ih]
    cases hg : g.gone with
    | true => rw [Bool.true_or, if_pos rfl, if_pos rfl]
    | false =>
      rw [Bool.false_or, if_neg (show ¬ false = true by decide), List.filter_cons]
      have e : goesP now ⟨k, g.sec, g.til⟩ = (decide (0 < g.til) && decide (g.til ≤ now)) := rfl
      rw [e]
      cases (decide (0 < g.til) && decide (g.til ≤ now)) <;> rfl
theorem alive_set : ∀ (fs : List Ft) (k j : Nat) (f : Ft), fs[j]? = some f → alive k (fs.set j ⟨f.sec, f.til, true⟩) = (alive k fs).filter (fun x => !decide (x.kid = k + j))
  | [], _, _, _, h => by simp at h
  | g :: fs, k, 0, f, h => by
    simp only [List.getElem?_cons_zero, Option.some.injEq] at h
    subst h
    show alive (k + 1) fs = (if g.gone = true then alive (k + 1) fs else ⟨k, g.sec, g.til⟩ :: alive (k + 1) fs).filter _
    have hself : (alive (k + 1) fs).filter (fun x => !decide (x.kid = k + 0)) = alive (k + 1) fs := by
      refine List.filter_eq_self.2 (fun x hx => ?_)
      obtain ⟨j, f, _, _, rfl⟩ := alive_mem.1 hx
      simp
      omega
    split
    · exact hself.symm
    · rw [List.filter_cons, if_neg (by simp), hself]
  | g :: fs, k, j + 1, f, h => by
    have ih := alive_set fs (k + 1) j f (by simpa using h)
    show (if g.gone = true then alive (k + 1) (fs.set j ⟨f.sec, f.til, true⟩) else ⟨k, g.sec, g.til⟩ :: alive (k + 1) (fs.set j ⟨f.sec, f.til, true⟩)) = (if g.gone = true then alive (k + 1) fs else ⟨k, g.sec, g.til⟩ :: alive (k + 1) fs).filter _
    rw [ih, show k + 1 + j = k + (j + 1) by omega]
    split
    · rfl
    · rw [List.filter_cons, if_pos (by simp)]
/-- The ring that there is, and what became of all keys. -/
structure Lv (l : List Ky) (nx : Nat) (fs : List Ft) : Prop where
  ring : isRing l nx = true
  eq : l = alive 1 fs
  nx_eq : nx = fs.length + 1
  last : ∃ gs f, fs = gs ++ [f] ∧ f.gone = false
theorem Lv.first (s : List UInt8) : Lv [⟨1, s, 0⟩] 2 [⟨s, 0, false⟩] := ⟨(Rg.first s).ring.1, rfl, rfl, [], _, rfl, rfl⟩
theorem Lv.find_some {l : List Ky} {nx : Nat} {fs : List Ft} (h : Lv l nx fs) {j : Nat} {f : Ft} (hj : fs[j]? = some f) (hg : f.gone = false) : findK l (j + 1) = some ⟨j + 1, f.sec, f.til⟩ := by
  obtain ⟨i, hr⟩ := isRing_rg h.ring
  have hm : (⟨1 + j, f.sec, f.til⟩ : Ky) ∈ l := by rw [h.eq]; exact alive_mem.2 ⟨j, f, hj, hg, rfl⟩
  have := hr.find_mem hm
  rw [show 1 + j = j + 1 by omega] at this
  exact this
theorem Lv.find_no {l : List Ky} {nx : Nat} {fs : List Ft} (h : Lv l nx fs) {kid : Nat} (hk : ∀ j f, fs[j]? = some f → f.gone = false → kid ≠ j + 1) : findK l kid = none :=
  find_gone (fun x hx e => by
    rw [h.eq] at hx
    obtain ⟨j, f, h1, h2, rfl⟩ := alive_mem.1 hx
    exact hk j f h1 h2 (by rw [← e]; show 1 + j = j + 1; omega))
theorem Lv.len {l : List Ky} {nx : Nat} {fs : List Ft} (h : Lv l nx fs) : l.length = fs.countP (fun f => !f.gone) := by rw [h.eq]; exact alive_length fs 1
theorem Lv.prune {l : List Ky} {nx : Nat} {fs : List Ft} (h : Lv l nx fs) (now : Int) : Lv (prn l nx now).1 (prn l nx now).2 (fs.map (Ft.prune now)) := by
  have hp := prn_ring now h.ring
  obtain ⟨i, hr⟩ := isRing_rg h.ring
  rw [hp.1]
  refine ⟨hp.2, ?_, by rw [List.length_map]; exact h.nx_eq, ?_⟩
  · rw [alive_prune, ← h.eq]
  · obtain ⟨gs, f, e, hf⟩ := h.last
    refine ⟨gs.map (Ft.prune now), f.prune now, by rw [e, List.map_append]; rfl, ?_⟩
    have hl : l = alive 1 gs ++ [⟨1 + gs.length, f.sec, f.til⟩] := by
      rw [h.eq, e, alive_append]
      show _ ++ (if f.gone = true then _ else _) = _
      rw [hf, if_neg (by decide)]
      rfl
    have hk : lastK l = ⟨1 + gs.length, f.sec, f.til⟩ := by rw [hl]; exact lastK_snoc _ _
    have h0 := hr.til0
    rw [hk] at h0
    have h0' : f.til = 0 := h0
    unfold Ft.prune
    rw [hf, h0']
    simp
end Go.Proofs.Ytmpcpakdocaieaa
