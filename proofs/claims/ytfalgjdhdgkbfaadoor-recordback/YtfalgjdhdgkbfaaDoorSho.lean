/- Plain facts: a field with a byte less is too short. -/
import Derived.Test.YtfalgjdhdgkbfaaDoorPutA
namespace Go.Proofs.YtfalgjdhdgkbfaaDoor
open Go Go.RowKit

theorem rb_sh {l : List UInt8} {k : Nat} (h : l.length < k) : rb l 0 k = 30 := by unfold rb ref; rw [if_pos h]; rfl
theorem rb_30 (l : List UInt8) (k : Nat) : rb l 30 k = 30 := by unfold rb ref; split <;> rfl
theorem rl_30 {l : List UInt8} {c k : Nat} (h : rb l c k = 30) : rl l c k = l := by unfold rl; rw [h]; rfl
theorem rt_30 {l : List UInt8} {c k : Nat} (h : rb l c k = 30) : rt l c k = [] := by unfold rt; rw [h]; rfl
theorem num_sh {l : List UInt8} {k : Nat} (h : l.length < k) : rt l 0 k = [] ∧ rl l 0 k = l ∧ rb l 0 k = 30 := ⟨rt_30 (rb_sh h), rl_30 (rb_sh h), rb_sh h⟩
theorem flag_sh {l : List UInt8} (h : l.length < 1) : rl l (fb l 0) 1 = l ∧ rb l (fb l 0) 1 = 30 := by
  have e : fb l 0 = 30 := by
    unfold fb
    obtain ⟨h1, _, h3⟩ := num_sh h
    rw [h1, h3]; rfl
  rw [e]
  exact ⟨rl_30 (rb_30 _ _), rb_30 _ _⟩
theorem row_sh (B : List UInt8) (h : B.length ≤ 1048576) : rowL (layL B.length 4 ++ B).dropLast 0 = (layL B.length 4 ++ B).dropLast ∧ rowE (layL B.length 4 ++ B).dropLast 0 = 30 := by
  by_cases hB : B = []
  · subst hB
    obtain ⟨l, hl⟩ : ∃ x, (layL ([] : List UInt8).length 4 ++ []).dropLast = x := ⟨_, rfl⟩
    have hn : l.length < 4 := by rw [← hl]; simp [layL_length]
    rw [hl]
    obtain ⟨h1, h2, h3⟩ := num_sh hn
    have e : rowB l 0 = 30 := by unfold rowB; rw [h1, h3]; rfl
    unfold rowL rowE
    rw [e]
    exact ⟨rl_30 (rb_30 _ _), rb_30 _ _⟩
  · rw [List.dropLast_append_of_ne_nil hB]
    have h0 : 0 < B.length := List.length_pos_iff.2 hB
    obtain ⟨h1, h2, h3⟩ := num_back B.length 4 B.dropLast (by omega)
    have e : rowB (layL B.length 4 ++ B.dropLast) 0 = 0 := by unfold rowB; rw [h1, h3, if_neg (by omega)]
    have e2 : rowN (layL B.length 4 ++ B.dropLast) 0 = 4 + B.length := by unfold rowN; rw [h1]
    have e3 : (layL B.length 4 ++ B.dropLast).length < 4 + B.length := by simp [layL_length]; omega
    unfold rowL rowE
    rw [e, e2]
    exact ⟨rl_30 (rb_sh e3), rb_sh e3⟩
end Go.Proofs.YtfalgjdhdgkbfaaDoor
