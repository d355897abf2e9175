/- Plain facts for SumMixes. -/
import Derived.Test.YtfalgjdhdgkbfabDoorFrm
namespace Go.Proofs.YtfalgjdhdgkbfabDoor

/-- The exclusive or of the first k bytes of three rows. -/
def mixI (l m n : List UInt8) (k : Nat) : List UInt8 := (List.range k).map fun i => l.getD i 0 ^^^ m.getD i 0 ^^^ n.getD i 0
theorem mixI_length (l m n : List UInt8) (k : Nat) : (mixI l m n k).length = k := by simp [mixI]
theorem mixI_succ (l m n : List UInt8) (k : Nat) : mixI l m n (k + 1) = mixI l m n k ++ [l.getD k 0 ^^^ m.getD k 0 ^^^ n.getD k 0] := by
  unfold mixI; rw [List.range_succ, List.map_append]; rfl
theorem mixI_cons (a b c : UInt8) (l m n : List UInt8) (k : Nat) : mixI (a :: l) (b :: m) (c :: n) (k + 1) = (a ^^^ b ^^^ c) :: mixI l m n k := by
  unfold mixI
  rw [List.range_succ_eq_map, List.map_cons, List.map_map]
  rfl
theorem mixI_mix3 : ∀ (k : Nat) (l m n : List UInt8), k ≤ l.length → k ≤ m.length → k ≤ n.length → mixI l m n k = mix3 (l.take k) (m.take k) (n.take k)
  | 0, _, _, _, _, _, _ => by simp [mixI, mix3]
  | k + 1, a :: l, b :: m, c :: n, h1, h2, h3 => by
    rw [mixI_cons, List.take_succ_cons, List.take_succ_cons, List.take_succ_cons, mix3, mixI_mix3 k l m n (by simpa using h1) (by simpa using h2) (by simpa using h3)]
theorem sum_mixI (l m n : List UInt8) (k : Nat) (h1 : k ≤ l.length) (h2 : k ≤ m.length) (h3 : k ≤ n.length) : sumL (mixI l m n k) = sumL (l.take k) ^^^ sumL (m.take k) ^^^ sumL (n.take k) := by
  rw [mixI_mix3 k l m n h1 h2 h3]
  exact sumL_mix _ _ _ (by rw [List.length_take, List.length_take]; omega) (by rw [List.length_take, List.length_take]; omega)

/-- k bytes from a place on, changed. -/
def bt (x : List UInt8) (p : Nat) (y : Nat → UInt8) : Nat → List UInt8
  | 0 => x
  | k + 1 => (bt x p y k).set (p + k) ((bt x p y k).getD (p + k) 0 ^^^ y k)
theorem bt_length (x : List UInt8) (p : Nat) (y : Nat → UInt8) : ∀ k, (bt x p y k).length = x.length
  | 0 => rfl
  | k + 1 => by rw [bt, List.length_set, bt_length x p y k]
def win (x : List UInt8) (p : Nat) (k : Nat) : List UInt8 := (List.range k).map fun t => x.getD (p + t) 0
def winY (x : List UInt8) (p : Nat) (y : Nat → UInt8) (k : Nat) : List UInt8 := (List.range k).map fun t => x.getD (p + t) 0 ^^^ y t
theorem win_split (x : List UInt8) (p : Nat) : ∀ k, p + k ≤ x.length → x = x.take p ++ win x p k ++ x.drop (p + k)
  | 0, _ => by simp [win]
  | k + 1, h => by
    have ih := win_split x p k (by omega)
    have e1 : win x p (k + 1) = win x p k ++ [x.getD (p + k) 0] := by unfold win; rw [List.range_succ, List.map_append]; rfl
    have e2 : x.drop (p + k) = x.getD (p + k) 0 :: x.drop (p + (k + 1)) := by
      rw [List.drop_eq_getElem_cons (by omega), List.getD_eq_getElem?_getD, List.getElem?_eq_getElem (by omega)]; rfl
    rw [e1]
    calc x = x.take p ++ win x p k ++ x.drop (p + k) := ih
      _ = _ := by rw [e2]; simp
theorem bt_split (x : List UInt8) (p : Nat) (y : Nat → UInt8) : ∀ k, p + k ≤ x.length → bt x p y k = x.take p ++ winY x p y k ++ x.drop (p + k)
  | 0, _ => by simp [bt, winY]
  | k + 1, h => by
    have ih := bt_split x p y k (by omega)
    have e1 : winY x p y (k + 1) = winY x p y k ++ [x.getD (p + k) 0 ^^^ y k] := by unfold winY; rw [List.range_succ, List.map_append]; rfl
    have e2 : x.drop (p + k) = x.getD (p + k) 0 :: x.drop (p + (k + 1)) := by
      rw [List.drop_eq_getElem_cons (by omega), List.getD_eq_getElem?_getD, List.getElem?_eq_getElem (by omega)]; rfl
    have hl : (x.take p ++ winY x p y k).length = p + k := by simp [winY, List.length_take]; omega
    have e3 : (bt x p y k).getD (p + k) 0 = x.getD (p + k) 0 := by
      rw [ih, e2, List.getD_eq_getElem?_getD, List.getElem?_append_right (by omega), hl, Nat.sub_self]; rfl
    rw [bt, e3, ih, e2, List.set_append, if_neg (by omega), hl, Nat.sub_self, List.set_cons_zero, e1]
    simp
/-- Was one of the first k changed? -/
def chg (y : Nat → UInt8) (k : Nat) : Bool := (List.range k).any fun t => y t != 0
theorem chg_succ (y : Nat → UInt8) (k : Nat) : chg y (k + 1) = (chg y k || y k != 0) := by
  unfold chg; rw [List.range_succ, List.any_append]; simp
theorem u8_xor_eq {a b : UInt8} (h : a ^^^ b = a) : b = 0 := by
  have h2 := congrArg UInt8.toNat h
  rw [UInt8.toNat_xor] at h2
  have : a.toNat ^^^ b.toNat = a.toNat ^^^ 0 := by rw [h2, Nat.xor_zero]
  have := xor_cancel_left this
  exact UInt8.toNat_inj.1 (by rw [this]; rfl)
theorem chg_sum (x : List UInt8) (p : Nat) (y : Nat → UInt8) (k : Nat) (hk : k ≤ 4) (h : p + k ≤ x.length) : (chg y k == (sumL (bt x p y k) == sumL x)) = false := by
  cases hc : chg y k with
  | false =>
    have hz : ∀ t, t < k → y t = 0 := fun t ht => by
      unfold chg at hc
      rw [List.any_eq_false] at hc
      have := hc t (List.mem_range.2 ht)
      simpa using this
    have hw : winY x p y k = win x p k := by
      unfold winY win
      refine List.map_congr_left fun t ht => ?_
      rw [hz t (List.mem_range.1 ht)]; simp
    have : bt x p y k = x := by rw [bt_split x p y k h, hw]; exact (win_split x p k h).symm
    rw [this]; simp
  | true =>
    have hne : sumL (bt x p y k) ≠ sumL x := fun e => by
      rw [bt_split x p y k h] at e
      have e' : sumL (x.take p ++ winY x p y k ++ x.drop (p + k)) = sumL (x.take p ++ win x p k ++ x.drop (p + k)) := e.trans (congrArg sumL (win_split x p k h))
      have hw := sum_window _ _ _ _ (by simp [winY, win]) (by simp [winY]; exact hk) e'
      unfold chg at hc
      rw [List.any_eq_true] at hc
      obtain ⟨t, ht, hy⟩ := hc
      have htk := List.mem_range.1 ht
      have h1 : (winY x p y k)[t]'(by simp [winY]; exact htk) = (win x p k)[t]'(by simp [win]; exact htk) := by simp only [hw]
      simp [winY, win] at h1
      have h2 := u8_xor_eq h1
      rw [h2] at hy
      simp at hy
    rw [beq_eq_false_iff_ne.2 hne]; rfl
theorem sum_known : sumL [49, 50, 51, 52, 53, 54, 55, 56, 57] = 3421780262 := by decide +kernel
end Go.Proofs.YtfalgjdhdgkbfabDoor
