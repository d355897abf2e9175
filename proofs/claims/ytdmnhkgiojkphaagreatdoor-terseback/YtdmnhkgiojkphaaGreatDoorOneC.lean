/- Plain facts for TerseOne: a tree holds no more than its text. -/
import Derived.Test.YtdmnhkgiojkphaaGreatDoorOneB
namespace Go.Proofs.YtdmnhkgiojkphaaGreatDoor
open Go Go.RowKit

theorem sep_sum (f : Tree → Nat) (g : Tree → List UInt8) : ∀ (l : List Tree), (∀ x ∈ l, f x ≤ (g x).length) → (l.map f).sum ≤ (sep (l.map g)).length
  | [], _ => by simp
  | [x], h => by simp only [List.map_cons, List.map_nil, sep, List.sum_cons, List.sum_nil]; have := h x (by simp); omega
  | x :: y :: r, h => by
    have h1 := h x (by simp)
    have h2 := sep_sum f g (y :: r) (fun z hz => h z (by simp [List.mem_cons.1 hz]))
    simp only [List.map_cons, sep, List.sum_cons, List.length_append, List.length_cons] at h2 ⊢
    omega
theorem cntL_sum (l : List Tree) : cntL l = (l.map cntT).sum := by
  induction l with
  | nil => rfl
  | cons a r ih => rw [cntL, ih, List.map_cons, List.sum_cons]
theorem sep_ents : ∀ (ks : List ByteArray) (l : List Tree), ks.length = l.length → (∀ x ∈ l, cntT x ≤ (pr x).length) → cntL l + keyN ks ≤ (sep (ents ks (l.map pr))).length
  | [], [], _, _ => by simp [cntL, keyN]
  | [], _ :: _, h, _ => by simp at h
  | _ :: _, [], h, _ => by simp at h
  | [k], [x], _, h => by
    have h1 := h x (by simp)
    have h2 := escL_ge k.data.toList
    rw [Array.length_toList] at h2
    have h3 : k.size ≤ (escL k.data.toList).length := h2
    have e : sep (ents [k] ([x].map pr)) = quo k.data.toList ++ 58 :: pr x := rfl
    rw [e]
    simp only [cntL, keyN, quo, List.length_append, List.length_cons, List.length_nil]
    omega
  | [_], _ :: _ :: _, h, _ => by simp at h
  | _ :: _ :: _, [_], h, _ => by simp at h
  | k :: k2 :: kr, x :: y :: r, hl, h => by
    have h1 := h x (by simp)
    have ih := sep_ents (k2 :: kr) (y :: r) (by simpa using hl) (fun z hz => h z (by simp [List.mem_cons.1 hz]))
    have h2 := escL_ge k.data.toList
    rw [Array.length_toList] at h2
    have h3 : k.size ≤ (escL k.data.toList).length := h2
    have e : sep (ents (k :: k2 :: kr) ((x :: y :: r).map pr)) = (quo k.data.toList ++ 58 :: pr x) ++ 44 :: sep (ents (k2 :: kr) ((y :: r).map pr)) := rfl
    rw [e]
    rw [cntL, keyN]
    simp only [quo, List.length_append, List.length_cons, List.length_nil] at ih ⊢
    omega
theorem itoa_pos (n : Int) : 1 ≤ (Lib.itoa n).length := by
  obtain ⟨c, r, h, _⟩ := itoa_cons n
  rw [h]; simp
theorem cnt_pr : ∀ (n : Nat) (t : Tree), cntT t ≤ n → ∀ about, checkT t about = 0 → cntT t ≤ (pr t).length
  | 0, t, h, _, _ => by rw [cntT_eq] at h; omega
  | n + 1, t, h, about, hc => by
    have h1 := check_one hc
    have hk := one_kind h1.1
    have hs := leaf_shape h1.1
    have hitems : ∀ x ∈ t.items, cntT x ≤ (pr x).length := fun x hx => by
      have := cntL_mem hx
      rw [cntT_eq] at h
      exact cnt_pr n x (by omega) (about + 1) (h1.2 x hx)
    have hcases : t.kind = 1 ∨ t.kind = 2 ∨ t.kind = 3 ∨ t.kind = 4 ∨ t.kind = 5 ∨ t.kind = 6 := by omega
    rw [cntT_eq]
    rcases hcases with hh | hh | hh | hh | hh | hh
    · rw [hs.1 hh]; decide
    · have e := hs.2.1 hh
      generalize t.flag = f at e
      subst e
      cases f <;> decide
    · have e := hs.2.2.1 hh
      generalize t.n = z at e
      subst e
      have : pr (.mk 3 false z ⟨#[]⟩ [] []) = Lib.itoa z := by rw [pr_eq]; rfl
      rw [this]
      have := itoa_pos z
      show 0 + (0 + 0) + 1 ≤ _
      omega
    · have e := hs.2.2.2.1 hh
      generalize t.text = z at e
      subst e
      have : pr (.mk 4 false 0 z [] []) = quo z.data.toList := by rw [pr_eq]; rfl
      rw [this]
      have h2 := escL_ge z.data.toList
      rw [Array.length_toList] at h2
      have h3 : z.size ≤ (escL z.data.toList).length := h2
      show 0 + (z.size + 0) + 1 ≤ _
      simp only [quo, List.length_append, List.length_cons, List.length_nil]
      omega
    · have e := hs.2.2.2.2.1 hh
      have hp := pr_kind5 hh
      rw [pieces_list hh] at hp
      rw [hp]
      have hsum := sep_sum cntT pr t.items hitems
      rw [← cntL_sum] at hsum
      have ht : t.text.size = 0 := by rw [e]; rfl
      have hkk : t.keys = [] := by rw [e]; rfl
      rw [ht, hkk]
      simp only [keyN, List.length_cons, List.length_append, List.length_nil]
      omega
    · have e := hs.2.2.2.2.2 hh
      have hp := pr_kind6 hh
      rw [pieces_map hh] at hp
      rw [hp]
      have hsum := sep_ents t.keys t.items (hk.2.2.2.2.2.1 hh).1 hitems
      have ht : t.text.size = 0 := by rw [e]; rfl
      rw [ht]
      simp only [List.length_cons, List.length_append, List.length_nil]
      omega
end Go.Proofs.YtdmnhkgiojkphaaGreatDoor
