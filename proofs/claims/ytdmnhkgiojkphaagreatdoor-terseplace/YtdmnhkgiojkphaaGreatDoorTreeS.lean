/- Plain facts: what is left behind an item. -/
import Derived.Test.YtdmnhkgiojkphaaGreatDoorTreeR
namespace Go.Proofs.YtdmnhkgiojkphaaGreatDoor
open Go

theorem skip_le (l : List UInt8) : (skip l).length ≤ l.length := List.Sublist.length_le (List.dropWhile_sublist _)
/-- What is left is no longer than the text. -/
def Shrinks (it : List UInt8 → Res Tree) : Prop := ∀ l t q, it l = .ok t q → q.length ≤ l.length
theorem listGo_shrinks {it : List UInt8 → Res Tree} (h : Shrinks it) : ∀ (f : Nat) (l : List UInt8) (acc : List Tree) t q, listGo it f l acc = .ok t q → q.length ≤ l.length
  | 0, l, acc, t, q, e => by cases e
  | f + 1, l, acc, t, q, e => by
    unfold listGo at e
    split at e
    · cases e
    · rename_i t' q' hit
      have h1 := h _ _ _ hit
      have h2 := skip_le q'
      split at e
      · rename_i q2 hq
        rw [hq] at h2
        injection e with _ e
        subst e
        simp at h2
        omega
      · rename_i q2 hq
        rw [hq] at h2
        have := listGo_shrinks h f _ _ _ _ e
        simp at h2
        omega
      · cases e
theorem keyR_shrinks {ks : List ByteArray} {l : List UInt8} {k : ByteArray} {q : List UInt8} (e : keyR ks l = .ok k q) : q.length ≤ l.length := by
  unfold keyR at e
  have h2 := skip_le l
  split at e
  · rename_i r hr
    rw [hr] at h2
    split at e
    · cases e
    · rename_i k' q' hu
      have := (unquote_rest _ _ _ _ (Nat.le_refl _) hu).1
      split at e
      · cases e
      · injection e with _ e
        subst e
        simp at h2
        omega
  · cases e
theorem mapGo_shrinks {it : List UInt8 → Res Tree} (h : Shrinks it) : ∀ (f : Nat) (l : List UInt8) (ks : List ByteArray) (acc : List Tree) t q, mapGo it f l ks acc = .ok t q → q.length ≤ l.length
  | 0, l, ks, acc, t, q, e => by cases e
  | f + 1, l, ks, acc, t, q, e => by
    unfold mapGo at e
    split at e
    · cases e
    · rename_i k' q0 hk
      have h0 := keyR_shrinks hk
      have h00 := skip_le q0
      split at e
      · rename_i q1 hq1
        rw [hq1] at h00
        split at e
        · cases e
        · rename_i t' q' hit
          have h1 := h _ _ _ hit
          have h2 := skip_le q'
          split at e
          · rename_i q2 hq
            rw [hq] at h2
            injection e with _ e
            subst e
            simp at h2 h00
            omega
          · rename_i q2 hq
            rw [hq] at h2
            have := mapGo_shrinks h f _ _ _ _ _ e
            simp at h2 h00
            omega
          · cases e
      · cases e
theorem itemW_shrinks {d : Option (List UInt8 → Res Tree)} (h : ∀ it, d = some it → Shrinks it) : Shrinks (itemW d) := by
  intro l t q e
  unfold itemW at e
  have hs := skip_le l
  split at e
  · cases e
  · rename_i c r hr
    rw [hr] at hs
    simp only [List.length_cons] at hs
    split at e
    · cases hd : d with
      | none => rw [hd] at e; cases e
      | some it =>
        rw [hd] at e
        simp only [] at e
        have hsr := skip_le r
        unfold listR at e
        split at e
        · rename_i q2 hq
          rw [hq] at hsr
          injection e with _ e
          subst e
          simp at hsr
          omega
        · have := listGo_shrinks (h it hd) _ _ _ _ _ e
          omega
    · split at e
      · cases hd : d with
        | none => rw [hd] at e; cases e
        | some it =>
          rw [hd] at e
          simp only [] at e
          have hsr := skip_le r
          unfold mapR at e
          split at e
          · rename_i q2 hq
            rw [hq] at hsr
            injection e with _ e
            subst e
            simp at hsr
            omega
          · have := mapGo_shrinks (h it hd) _ _ _ _ _ _ e
            omega
      · split at e
        · split at e
          · cases e
          · rename_i t' q' hu
            have := (unquote_rest _ _ _ _ (Nat.le_refl _) hu).1
            injection e with _ e
            subst e
            omega
        · split at e
          · cases e
          · injection e with _ e
            subst e
            rw [List.length_drop, List.length_cons]
            omega
theorem itemR_shrinks : ∀ k, Shrinks (itemR k)
  | 0 => itemW_shrinks (fun it h => by cases h)
  | k + 1 => itemW_shrinks (fun it h => by injection h with h; subst h; exact itemR_shrinks k)
end Go.Proofs.YtdmnhkgiojkphaaGreatDoor
