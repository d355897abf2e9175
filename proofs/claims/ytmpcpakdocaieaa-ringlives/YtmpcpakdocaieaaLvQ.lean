/- RingLives: plain facts: Rotate and Distrust. -/
import Derived.Test.YtmpcpakdocaieaaLvP
namespace Go.Proofs.Ytmpcpakdocaieaa
open Go Go.RowKit

theorem Lv.split {l : List Ky} {nx : Nat} {gs : List Ft} {f : Ft} (h : Lv l nx (gs ++ [f])) (hf : f.gone = false) : l = alive 1 gs ++ [⟨gs.length + 1, f.sec, f.til⟩] ∧ lastK l = ⟨gs.length + 1, f.sec, f.til⟩ ∧ f.til = 0 ∧ nx = gs.length + 2 := by
  have hl : l = alive 1 gs ++ [⟨gs.length + 1, f.sec, f.til⟩] := by
    rw [h.eq, alive_append]
    show _ ++ (if f.gone = true then _ else _) = _
    rw [hf, if_neg (by decide), show 1 + gs.length = gs.length + 1 by omega]
    rfl
  have hk : lastK l = ⟨gs.length + 1, f.sec, f.til⟩ := by rw [hl]; exact lastK_snoc _ _
  obtain ⟨i, hr⟩ := isRing_rg h.ring
  have h0 := hr.til0
  rw [hk] at h0
  refine ⟨hl, hk, h0, ?_⟩
  have := h.nx_eq
  simp at this
  omega
theorem Lv.rotE {l : List Ky} {nx : Nat} {fs : List Ft} (h : Lv l nx fs) (hn : nx ≤ 1000) (At : Int) : rotE l nx At = 0 ↔ (0 < At ∧ fs.countP (fun f => !f.gone) < 8) := by
  obtain ⟨i, hr⟩ := isRing_rg h.ring
  have h8 := hr.len
  unfold Proofs.Ytmpcpakdocaieaa.rotE
  rw [if_pos h.ring, ← h.len]
  by_cases ha : At ≤ 0
  · rw [if_pos ha]
    constructor
    · intro h; cases h
    · intro h; omega
  · rw [if_neg ha, decide_eq_false (show ¬ nx = 9223372036854775807 by omega), Bool.or_false]
    by_cases h7 : l.length = 8
    · rw [if_pos (by simpa using h7)]
      constructor
      · intro h; cases h
      · intro h; omega
    · rw [if_neg (by simpa using h7)]
      constructor
      · intro _; omega
      · intro _; rfl
theorem Lv.rotate {l : List Ky} {nx : Nat} {gs : List Ft} {f : Ft} (h : Lv l nx (gs ++ [f])) (hf : f.gone = false) (hn : nx ≤ 1000) (S : List UInt8) (At : Int) (ha : 0 < At) (hc : (gs ++ [f]).countP (fun f => !f.gone) < 8) : Lv (rotR l nx S At).1 (rotR l nx S At).2 (gs ++ [⟨f.sec, At, false⟩, ⟨S, 0, false⟩]) := by
  have he := (h.rotE hn At).2 ⟨ha, hc⟩
  obtain ⟨hl, hk, h0, hnx⟩ := h.split hf
  obtain ⟨i, hr⟩ := isRing_rg h.ring
  have hi : i = alive 1 gs := by
    have h1 := hr.eq
    rw [hk] at h1
    rw [h1] at hl
    exact List.append_cancel_right hl
  have hlen : l.length ≠ 8 := by rw [h.len]; omega
  have hro := hr.rotate S At ha hlen (by omega)
  have heq := hr.rot_eq S At
  unfold rotR
  rw [if_pos he]
  refine ⟨hro.ring.1, ?_, by simp; omega, gs ++ [⟨f.sec, At, false⟩], ⟨S, 0, false⟩, by simp, rfl⟩
  rw [heq, hk, hi, alive_append]
  show _ = _ ++ [(⟨1 + gs.length, f.sec, At⟩ : Ky), ⟨1 + gs.length + 1, S, 0⟩]
  rw [hnx, show 1 + gs.length = gs.length + 1 by omega]
  simp
theorem Lv.disE_no {l : List Ky} {nx : Nat} {fs : List Ft} (h : Lv l nx fs) {kid : Nat} (hk : ∀ j f, fs[j]? = some f → f.gone = false → kid ≠ j + 1) (S : List UInt8) : disE l nx kid = 53 ∧ disR l nx kid S = ([], 0) := by
  have hf := h.find_no hk
  have he : disE l nx kid = 53 := by unfold disE; rw [if_pos h.ring, hf]
  refine ⟨he, ?_⟩
  unfold disR
  rw [he, if_neg (by decide)]
theorem Lv.distrust {l : List Ky} {nx : Nat} {fs : List Ft} (h : Lv l nx fs) (hn : nx ≤ 1000) {j : Nat} {f : Ft} (hj : fs[j]? = some f) (hg : f.gone = false) (S : List UInt8) :
    disE l nx (j + 1) = 0 ∧ Lv (disR l nx (j + 1) S).1 (disR l nx (j + 1) S).2 (if j + 1 = fs.length then fs.set j ⟨f.sec, f.til, true⟩ ++ [⟨S, 0, false⟩] else fs.set j ⟨f.sec, f.til, true⟩) := by
  obtain ⟨i, hr⟩ := isRing_rg h.ring
  have hm : (⟨j + 1, f.sec, f.til⟩ : Ky) ∈ l := by rw [h.eq]; exact alive_mem.2 ⟨j, f, hj, hg, by rw [show 1 + j = j + 1 by omega]⟩
  have hjl : j < fs.length := (List.getElem?_eq_some_iff.1 hj).1
  obtain ⟨he, hs⟩ := swiftB S h.ring hn hm
  have he' : disE l nx (j + 1) = 0 := he
  refine ⟨he', ?_⟩
  have hring : isRing (disR l nx (j + 1) S).1 (disR l nx (j + 1) S).2 = true := hs.ring
  have hfl : l.filter (fun x => !(x == ⟨j + 1, f.sec, f.til⟩)) = alive 1 (fs.set j ⟨f.sec, f.til, true⟩) := by
    rw [alive_set fs 1 j f hj, ← h.eq]
    refine List.filter_congr (fun x hx => ?_)
    congr 1
    rw [Bool.eq_iff_iff]
    simp only [beq_iff_eq, decide_eq_true_eq]
    constructor
    · intro e; rw [e]; show j + 1 = 1 + j; omega
    · intro e; exact hr.kid_inj hx hm (by rw [e]; show 1 + j = j + 1; omega)
  obtain ⟨gs, g, e, hgg⟩ := h.last
  subst e
  obtain ⟨hl, hk, h0, hnx⟩ := h.split hgg
  have hR : disR l nx (j + 1) S = disK l nx S ⟨j + 1, f.sec, f.til⟩ := by
    unfold disR
    rw [if_pos he', h.find_some hj hg]
  by_cases hq : j + 1 = (gs ++ [g]).length
  · rw [if_pos hq]
    have hjg : j = gs.length := by simp at hq; omega
    have hfg : f = g := by
      rw [hjg, List.getElem?_append_right (Nat.le_refl _), Nat.sub_self] at hj
      simpa using hj.symm
    have hqk : (⟨j + 1, f.sec, f.til⟩ : Ky) = lastK l := by rw [hk, hjg, hfg]
    have hD : disK l nx S ⟨j + 1, f.sec, f.til⟩ = (l.filter (fun x => !(x == ⟨j + 1, f.sec, f.til⟩)) ++ [⟨nx, S, 0⟩], nx + 1) := by
      unfold disK
      rw [if_pos (by simpa using hqk)]
    rw [hR, hD] at hring ⊢
    refine ⟨hring, ?_, by simp at hq ⊢; omega, _, _, rfl, rfl⟩
    rw [hfl, alive_append]
    show _ = _ ++ [(⟨1 + ((gs ++ [g]).set j ⟨f.sec, f.til, true⟩).length, S, 0⟩ : Ky)]
    rw [List.length_set, List.length_append, hnx]
    show _ ++ [(⟨gs.length + 2, S, 0⟩ : Ky)] = _ ++ [(⟨1 + (gs.length + 1), S, 0⟩ : Ky)]
    rw [show 1 + (gs.length + 1) = gs.length + 2 by omega]
  · rw [if_neg hq]
    have hjg : j < gs.length := by simp at hq hjl; omega
    have hqk : ¬ (⟨j + 1, f.sec, f.til⟩ : Ky) = lastK l := fun e => by
      rw [hk] at e
      injection e with e1 e2 e3
      omega
    have hD : disK l nx S ⟨j + 1, f.sec, f.til⟩ = (l.filter (fun x => !(x == ⟨j + 1, f.sec, f.til⟩)), nx) := by
      unfold disK
      rw [if_neg (by simpa using hqk)]
    rw [hR, hD] at hring ⊢
    refine ⟨hring, hfl, by rw [List.length_set]; exact h.nx_eq, gs.set j ⟨f.sec, f.til, true⟩, g, ?_, hgg⟩
    rw [List.set_append_left _ _ hjg]
end Go.Proofs.Ytmpcpakdocaieaa
