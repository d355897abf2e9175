/- RingSwift: plain facts. -/
import Derived.Test.YtmpcpakdocaieaaPlR
namespace Go.Proofs.Ytmpcpakdocaieaa
open Go Go.RowKit

/-- What is true of a ring one of whose keys is distrusted. -/
structure Sw (l : List Ky) (nx : Nat) (S : List UInt8) (q : Ky) (X : List Ky) (NX : Nat) : Prop where
  ring : isRing X NX = true
  gone : fnd X NX q.kid = none
  again : disE X NX q.kid = 53
  rest : ∀ z ∈ l, z.kid ≠ q.kid → fnd X NX z.kid = some z
  len8 : X.length ≤ 8
  old : q.kid ≠ (lastK l).kid → lastK X = lastK l ∧ NX = nx ∧ X.length + 1 = l.length
  new : q.kid = (lastK l).kid → lastK X = ⟨nx, S, 0⟩ ∧ NX = nx + 1 ∧ X.length = l.length
theorem filter_count {i : List Ky} {q : Ky} (hp : i.Pairwise (fun x y => x.kid < y.kid)) (hq : q ∈ i) : (i.filter (fun x => !(x == q))).length + 1 = i.length := by
  induction i with
  | nil => cases hq
  | cons x i ih =>
    rw [List.pairwise_cons] at hp
    rcases List.mem_cons.1 hq with rfl | hq
    · have h1 : (q :: i).filter (fun x => !(x == q)) = i := by
        rw [List.filter_cons, if_neg (by simp)]
        refine List.filter_eq_self.2 (fun x hx => ?_)
        have := hp.1 x hx
        simp only [Bool.not_eq_true', beq_eq_false_iff_ne]
        intro e
        rw [e] at this
        omega
      rw [h1]
      rfl
    · have hne : x ≠ q := fun e => by
        have := hp.1 q hq
        rw [e] at this
        omega
      rw [List.filter_cons, if_pos (by simpa using hne)]
      have := ih hp.2 hq
      simp only [List.length_cons]
      omega
theorem swiftB {l : List Ky} {nx : Nat} (S : List UInt8) (hr : isRing l nx = true) (hn : nx ≤ 1000) {q : Ky} (hq : q ∈ l) : disE l nx q.kid = 0 ∧ Sw l nx S q (disR l nx q.kid S).1 (disR l nx q.kid S).2 := by
  obtain ⟨i, hg⟩ := isRing_rg hr
  have hf := hg.find_mem hq
  have he : disE l nx q.kid = 0 := by
    unfold disE
    rw [if_pos hr, hf]
    simp only [decide_eq_false (show ¬ nx = 9223372036854775807 by omega), Bool.and_false, Bool.false_eq_true, if_false]
  refine ⟨he, ?_⟩
  have hring := disR_ring S hr he
  have hkm : lastK l ∈ l := by
    have h0 : lastK l ∈ i ++ [lastK l] := by simp
    obtain ⟨k, hk⟩ : ∃ k, lastK l = k := ⟨_, rfl⟩
    have he := hg.eq
    rw [hk] at he h0 ⊢
    rw [he]
    exact h0
  unfold disR at hring ⊢
  rw [if_pos he, hf] at hring ⊢
  simp only [disK] at hring ⊢
  by_cases hk : q = lastK l
  · have hb : (q == lastK l) = true := by simpa using hk
    rw [if_pos hb] at hring ⊢
    obtain ⟨e1, e2⟩ := hg.badLast S (show nx ≠ 9223372036854775807 by omega)
    rw [← hk] at e1
    simp only [e1] at hring ⊢
    have hkq : ∀ x ∈ i ++ [Ky.mk nx S 0], x.kid ≠ q.kid := fun x hx => by
      rcases List.mem_append.1 hx with h | h
      · have hp := hg.pw
        rw [hg.eq, pair_snoc] at hp
        have := hp.2 x h
        rw [hk]
        omega
      · rw [List.mem_singleton.1 h, hk]
        have := hg.klt
        show nx ≠ _
        omega
    have hgone : findK (i ++ [Ky.mk nx S 0]) q.kid = none := find_gone hkq
    refine ⟨hring, by unfold fnd; rw [if_pos hring]; exact hgone, by unfold disE; rw [if_pos hring, hgone], fun z hz hne => ?_, e2.len, fun h => absurd (by rw [hk]) h, fun _ => ⟨lastK_snoc _ _, rfl, by rw [hg.eq]; simp⟩⟩
    have hzi : z ∈ i := by
      rw [hg.eq] at hz
      rcases List.mem_append.1 hz with h | h
      · exact h
      · rw [List.mem_singleton.1 h, hk] at hne; exact absurd rfl hne
    unfold fnd
    rw [if_pos hring]
    exact e2.find_mem (by simp [hzi])
  · have hb : ¬ (q == lastK l) = true := by simpa using hk
    rw [if_neg hb] at hring ⊢
    have e2 := hg.bad q hk
    have hgone : findK (l.filter (fun x => !(x == q))) q.kid = none := find_gone (fun x hx e => by
      obtain ⟨h1, h2⟩ := List.mem_filter.1 hx
      rw [hg.kid_inj h1 hq e] at h2
      simp at h2)
    have hqk : q.kid ≠ (lastK l).kid := fun e => hk (hg.kid_inj hq hkm e)
    refine ⟨hring, by unfold fnd; rw [if_pos hring]; exact hgone, by unfold disE; rw [if_pos hring, hgone], fun z hz hne => ?_, e2.len, fun _ => ⟨e2.ring.2, rfl, filter_count hg.pw hq⟩, fun h => absurd h hqk⟩
    unfold fnd
    rw [if_pos hring]
    exact e2.find_mem (List.mem_filter.2 ⟨hz, by simp only [Bool.not_eq_true', beq_eq_false_iff_ne]; exact fun e => hne (by rw [e])⟩)
theorem swift {l : List Ky} {nx : Nat} (S : List UInt8) (hr : isRing l nx = true) (hn : nx ≤ 42) {q : Ky} (hq : q ∈ l) : disE l nx q.kid = 0 ∧ Sw l nx S q (disR l nx q.kid S).1 (disR l nx q.kid S).2 := swiftB S hr (by omega) hq
end Go.Proofs.Ytmpcpakdocaieaa
