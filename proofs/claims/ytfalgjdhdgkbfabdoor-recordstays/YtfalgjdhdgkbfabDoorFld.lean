/- Plain facts: what is laid is taken again. -/
import Derived.Test.YtfalgjdhdgkbfabDoorWalkL
namespace Go.Proofs.YtfalgjdhdgkbfabDoor
open Go Go.RowKit

theorem rb_ok (x r : List UInt8) : rb (x ++ r) 0 x.length = 0 := by unfold rb; rw [if_neg (by simp)]
theorem rt_ok (x r : List UInt8) : rt (x ++ r) 0 x.length = x := by unfold rt; rw [if_pos (rb_ok x r), List.take_left]
theorem rl_ok (x r : List UInt8) : rl (x ++ r) 0 x.length = r := by unfold rl; rw [if_pos (rb_ok x r), List.drop_left]
theorem num_back (n k : Nat) (r : List UInt8) (h : n < 256 ^ k) : numL (rt (layL n k ++ r) 0 k) = n ∧ rl (layL n k ++ r) 0 k = r ∧ rb (layL n k ++ r) 0 k = 0 := by
  have e := layL_length n k
  have h1 := rt_ok (layL n k) r
  have h2 := rl_ok (layL n k) r
  have h3 := rb_ok (layL n k) r
  rw [e] at h1 h2 h3
  exact ⟨by rw [h1, numL_layL k n h], h2, h3⟩
theorem row_back (x r : List UInt8) (h : x.length ≤ 1048576) : rowT (layL x.length 4 ++ x ++ r) 0 = x ∧ rowL (layL x.length 4 ++ x ++ r) 0 = r ∧ rowE (layL x.length 4 ++ x ++ r) 0 = 0 := by
  have hn := num_back x.length 4 (x ++ r) (by omega)
  rw [← List.append_assoc] at hn
  have hN : rowN (layL x.length 4 ++ x ++ r) 0 = 4 + x.length := by unfold rowN; rw [hn.1]
  have hB : rowB (layL x.length 4 ++ x ++ r) 0 = 0 := by unfold rowB; rw [hn.1, if_neg (by omega), hn.2.2]
  have el : (layL x.length 4 ++ x).length = 4 + x.length := by rw [List.length_append, layL_length]
  have h1 := rt_ok (layL x.length 4 ++ x) r
  have h2 := rl_ok (layL x.length 4 ++ x) r
  have h3 := rb_ok (layL x.length 4 ++ x) r
  rw [el] at h1 h2 h3
  refine ⟨?_, ?_, ?_⟩
  · unfold rowT
    rw [hB, hN, h1]
    have := List.drop_left (l₁ := layL x.length 4) (l₂ := x)
    rw [layL_length] at this
    exact this
  · unfold rowL; rw [hB, hN, h2]
  · unfold rowE; rw [hB, hN, h3]
theorem flag_back (c : Bool) (r : List UInt8) : fb (layL c.toNat 1 ++ r) 0 = 0 ∧ (numL (rt (layL c.toNat 1 ++ r) 0 1) == 1) = c ∧ rl (layL c.toNat 1 ++ r) 0 1 = r ∧ rb (layL c.toNat 1 ++ r) 0 1 = 0 := by
  have hc : c.toNat < 256 ^ 1 := by cases c <;> decide
  obtain ⟨h1, h2, h3⟩ := num_back c.toNat 1 r hc
  refine ⟨?_, ?_, h2, h3⟩
  · unfold fb
    rw [h1, if_neg (by cases c <;> decide), h3]
  · rw [h1]; cases c <;> rfl
theorem int_back (x : Int) (h1 : -9223372036854775808 ≤ x) (h2 : x ≤ 9223372036854775807) : u64i (i64u x) = x := by
  unfold u64i i64u
  split <;> omega
theorem id_back (d r : List UInt8) (h : d.length = 16) : idL (rt (d ++ r) 0 16) = d ∧ rl (d ++ r) 0 16 = r ∧ rb (d ++ r) 0 16 = 0 := by
  have h1 := rt_ok d r
  have h2 := rl_ok d r
  have h3 := rb_ok d r
  rw [h] at h1 h2 h3
  refine ⟨?_, h2, h3⟩
  rw [h1]
  unfold idL
  rw [h]
  simp
end Go.Proofs.YtfalgjdhdgkbfabDoor
