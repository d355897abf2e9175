/- Plain: the reference's own look at UTF-8, and its order of texts. -/
import Derived.Lib.ValidLaws
import Derived.Lib.Strings
import Derived.Test.YtdmnhkgiojkphaaGreatDoorTree
namespace Go.Proofs.YtdmnhkgiojkphaaGreatDoor
open Go Go.Lib

def leadN (c : Nat) : Nat := if 194 ≤ c ∧ c ≤ 223 then 2 else if 224 ≤ c ∧ c ≤ 239 then 3 else if 240 ≤ c ∧ c ≤ 244 then 4 else 0
def leadLo (c : Nat) : Nat := if c = 240 then 144 else if c = 224 then 160 else 128
def leadHi (c : Nat) : Nat := if c = 244 then 143 else if c = 237 then 159 else 191
/-- How many bytes the code point at the front has: 0: there is none. -/
def oneR (l : List UInt8) : Nat :=
  if l = [] then 0 else
  if (l.getD 0 0).toNat < 128 then 1 else
  if leadN (l.getD 0 0).toNat = 0 ∨ l.length < leadN (l.getD 0 0).toNat ∨ (l.getD 1 0).toNat < leadLo (l.getD 0 0).toNat ∨ leadHi (l.getD 0 0).toNat < (l.getD 1 0).toNat then 0
  else if (3 ≤ leadN (l.getD 0 0).toNat ∧ ((l.getD 2 0).toNat < 128 ∨ 191 < (l.getD 2 0).toNat)) ∨ (4 ≤ leadN (l.getD 0 0).toNat ∧ ((l.getD 3 0).toNat < 128 ∨ 191 < (l.getD 3 0).toNat)) then 0
  else leadN (l.getD 0 0).toNat
theorem lead_tab : ∀ c : Fin 256, 128 ≤ c.val → (leadN c.val = firstT c.val % 8 ∧ leadLo c.val = accLo (firstT c.val / 16) ∧ leadHi c.val = accHi (firstT c.val / 16) ∧ 2 ≤ leadN c.val) ∨ (leadN c.val = 0 ∧ firstT c.val % 8 = 1) := by decide +kernel
theorem lead_tab' (c : Nat) (hc : c < 256) (h : 128 ≤ c) : (leadN c = firstT c % 8 ∧ leadLo c = accLo (firstT c / 16) ∧ leadHi c = accHi (firstT c / 16) ∧ 2 ≤ leadN c) ∨ (leadN c = 0 ∧ firstT c % 8 = 1) := lead_tab ⟨c, hc⟩ h
theorem lead_le (c : Nat) : leadN c ≤ 4 := by
  unfold leadN
  by_cases h1 : 194 ≤ c ∧ c ≤ 223
  · rw [if_pos h1]; decide
  · rw [if_neg h1]
    by_cases h2 : 224 ≤ c ∧ c ≤ 239
    · rw [if_pos h2]; decide
    · rw [if_neg h2]
      by_cases h3 : 240 ≤ c ∧ c ≤ 244
      · rw [if_pos h3]; decide
      · rw [if_neg h3]; decide
theorem one_nil {l : List UInt8} (h : l = []) : oneR l = 0 := by unfold oneR; rw [if_pos h]
theorem one_asc {l : List UInt8} (h : l ≠ []) (h1 : (l.getD 0 0).toNat < 128) : oneR l = 1 := by unfold oneR; rw [if_neg h, if_pos h1]
theorem one_le (l : List UInt8) : oneR l ≤ l.length ∧ oneR l ≤ 4 := by
  unfold oneR
  by_cases h : l = []
  · rw [if_pos h]; omega
  · have hl : 0 < l.length := List.length_pos_iff.2 h
    have h4 := lead_le (l.getD 0 0).toNat
    rw [if_neg h]
    split
    · omega
    · split
      · omega
      · rename_i q
        split <;> omega
theorem inner (len b1 b2 b3 n lo hi : Nat) (hn : n = 2 ∨ n = 3 ∨ n = 4) :
    (checkN len b1 b2 b3 n lo hi = none ∧ (if n = 0 ∨ len < n ∨ b1 < lo ∨ hi < b1 then 0 else if 3 ≤ n ∧ (b2 < 128 ∨ 191 < b2) ∨ 4 ≤ n ∧ (b3 < 128 ∨ 191 < b3) then 0 else n) = 0) ∨
    (checkN len b1 b2 b3 n lo hi = some n ∧ (if n = 0 ∨ len < n ∨ b1 < lo ∨ hi < b1 then 0 else if 3 ≤ n ∧ (b2 < 128 ∨ 191 < b2) ∨ 4 ≤ n ∧ (b3 < 128 ∨ 191 < b3) then 0 else n) = n) := by
  unfold checkN
  rcases hn with rfl | rfl | rfl <;> simp only [] <;> repeat' split
  all_goals first | (exfalso; omega) | (left; exact ⟨rfl, rfl⟩) | (right; exact ⟨rfl, rfl⟩) | simp_all | omega
/-- A text is good as the reference goes through it. -/
theorem good_one (l : List UInt8) (h : l ≠ []) : validD l = if oneR l = 0 then false else validD (l.drop (oneR l)) := by
  by_cases h1 : (l.getD 0 0).toNat < 128
  · rw [one_asc h h1, if_neg (by decide)]
    cases l with
    | nil => exact absurd rfl h
    | cons b t => exact validD_cons b t h1
  · rw [validD_lead l h (by omega)]
    have ht := lead_tab' (l.getD 0 0).toNat (UInt8.toNat_lt _) (by omega)
    unfold oneR
    rw [if_neg h, if_neg h1]
    revert ht
    generalize (l.getD 0 0).toNat = c
    generalize (l.getD 1 0).toNat = b1
    generalize (l.getD 2 0).toNat = b2
    generalize (l.getD 3 0).toNat = b3
    intro ht
    rcases ht with ⟨e1, e2, e3, e4⟩ | ⟨e1, e2⟩
    · rw [← e1, ← e2, ← e3]
      rcases inner l.length b1 b2 b3 (leadN c) (leadLo c) (leadHi c) (by have := lead_le c; omega) with ⟨h1, h2⟩ | ⟨h1, h2⟩
      · rw [h1, h2, if_pos rfl]
      · rw [h1, h2, if_neg (by omega)]
    · have h2 : checkN l.length b1 b2 b3 (firstT c % 8) (accLo (firstT c / 16)) (accHi (firstT c / 16)) = none := by unfold checkN; rw [e2, if_neg (by decide), if_neg (by decide), if_neg (by decide)]
      have h3 : (if leadN c = 0 ∨ l.length < leadN c ∨ b1 < leadLo c ∨ leadHi c < b1 then 0 else if 3 ≤ leadN c ∧ (b2 < 128 ∨ 191 < b2) ∨ 4 ≤ leadN c ∧ (b3 < 128 ∨ 191 < b3) then 0 else leadN c) = 0 := if_pos (Or.inl e1)
      rw [h2, h3, if_pos rfl]

/-! ### order -/
theorem bytes_lt : ∀ (x y : List UInt8), Op.bytesLess x y = decide (x < y)
  | x, [] => by cases x <;> simp [Op.bytesLess]
  | [], b :: y => by simp [Op.bytesLess]
  | a :: x, b :: y => by
    rw [Op.bytesLess, bytes_lt x y]
    simp only [List.cons_lt_cons_iff]
    by_cases h1 : a < b <;> by_cases h2 : a = b <;> by_cases h3 : x < y <;> simp [h1, h2, h3]
def leS (s t : ByteArray) : Bool := Op.bytesLess s.toList t.toList || (s.toList == t.toList)
theorem leS_iff (s t : ByteArray) : leS s t = true ↔ ¬ t.toList < s.toList := by
  unfold leS
  rw [Bool.or_eq_true, bytes_lt, decide_eq_true_eq, beq_iff_eq]
  constructor
  · rintro (h | h)
    · exact List.lt_asymm h
    · rw [h]; exact List.lt_irrefl _
  · intro h
    by_cases e : s.toList = t.toList
    · exact .inr e
    · refine .inl ?_
      rcases Classical.em (s.toList < t.toList) with q | q
      · exact q
      · exact absurd (List.le_antisymm (List.not_lt.1 h) (List.not_lt.1 q)) e
theorem leS_tr {a b c : ByteArray} (h1 : leS a b = true) (h2 : leS b c = true) : leS a c = true := by
  rw [leS_iff] at h1 h2 ⊢
  exact List.not_lt.2 (List.le_trans (List.not_lt.1 h1) (List.not_lt.1 h2))
theorem leS_or (a b : ByteArray) (h : leS a b = false) : leS b a = true := by
  rw [leS_iff]
  intro q
  have : leS a b = true := (leS_iff a b).2 (List.lt_asymm q)
  rw [h] at this; cases this
theorem leS_anti {a b : ByteArray} (h1 : leS a b = true) (h2 : leS b a = true) : a = b := by
  rw [leS_iff] at h1 h2
  have := List.le_antisymm (List.not_lt.1 h1) (List.not_lt.1 h2)
  have e : a.toList = b.toList := this
  rw [Lib.toList_data, Lib.toList_data] at e
  cases a; cases b
  simpa using e
end Go.Proofs.YtdmnhkgiojkphaaGreatDoor

namespace Go.Proofs.YtdmnhkgiojkphaaGreatDoor
open Go

/-- In order. -/
def InO (l : List ByteArray) : Prop := l.Pairwise (fun a b => leS a b = true)
/-- Two rows merged so far. -/
def Mg (a b : List ByteArray) (i k : Nat) (o : List ByteArray) : Prop :=
  o.Perm (a.take i ++ b.take k) ∧ InO o ∧ ∀ x ∈ o, ∀ y ∈ a.drop i ++ b.drop k, leS x y = true
theorem Mg.nil (a b : List ByteArray) : Mg a b 0 0 [] := ⟨by simp, List.Pairwise.nil, fun x hx => by cases hx⟩
theorem leS_refl (a : ByteArray) : leS a a = true := by rw [leS_iff]; exact List.lt_irrefl _
theorem InO.head {l : List ByteArray} (h : InO l) (i : Nat) (hi : i < l.length) : ∀ y ∈ l.drop i, leS l[i] y = true := by
  intro y hy
  rw [List.drop_eq_getElem_cons hi] at hy
  rcases List.mem_cons.1 hy with rfl | hy
  · exact leS_refl _
  · have h2 : InO (l.drop i) := List.Pairwise.sublist (List.drop_sublist i l) h
    rw [List.drop_eq_getElem_cons hi] at h2
    exact (List.pairwise_cons.1 h2).1 y hy
theorem snoc_in {o : List ByteArray} {x : ByteArray} (h : InO o) (hx : ∀ y ∈ o, leS y x = true) : InO (o ++ [x]) := by
  unfold InO
  rw [List.pairwise_append]
  exact ⟨h, List.pairwise_singleton _ _, fun a ha b hb => by rw [List.mem_singleton.1 hb]; exact hx a ha⟩
theorem Mg.left {a b : List ByteArray} {i k : Nat} {o : List ByteArray} (h : Mg a b i k o) (ha : InO a) (hb : InO b) (hi : i < a.length)
    (hq : k = b.length ∨ ∃ hk : k < b.length, leS a[i] b[k] = true) : Mg a b (i + 1) k (o ++ [a[i]]) := by
  obtain ⟨h1, h2, h3⟩ := h
  have hm : a[i] ∈ a.drop i ++ b.drop k := List.mem_append_left _ (by rw [List.drop_eq_getElem_cons hi]; exact List.mem_cons_self)
  refine ⟨?_, snoc_in h2 (fun y hy => h3 y hy _ hm), ?_⟩
  · rw [List.take_succ_eq_append_getElem hi, List.append_assoc]
    refine (List.Perm.append_right _ h1).trans ?_
    rw [List.append_assoc]
    exact List.Perm.append_left _ (List.perm_append_comm)
  · intro x hx y hy
    have hy2 : y ∈ a.drop i ++ b.drop k := by
      rcases List.mem_append.1 hy with q | q
      · exact List.mem_append_left _ (by rw [List.drop_eq_getElem_cons hi]; exact List.mem_cons_of_mem _ q)
      · exact List.mem_append_right _ q
    rcases List.mem_append.1 hx with q | q
    · exact h3 x q y hy2
    · rw [List.mem_singleton.1 q]
      rcases List.mem_append.1 hy2 with r | r
      · exact ha.head i hi y r
      · rcases hq with e | ⟨hk, hle⟩
        · rw [e, List.drop_length] at r; cases r
        · exact leS_tr hle (hb.head k hk y r)
theorem Mg.right {a b : List ByteArray} {i k : Nat} {o : List ByteArray} (h : Mg a b i k o) (ha : InO a) (hb : InO b) (hk : k < b.length)
    (hq : i = a.length ∨ ∃ hi : i < a.length, leS a[i] b[k] = false) : Mg a b i (k + 1) (o ++ [b[k]]) := by
  obtain ⟨h1, h2, h3⟩ := h
  have hm : b[k] ∈ a.drop i ++ b.drop k := List.mem_append_right _ (by rw [List.drop_eq_getElem_cons hk]; exact List.mem_cons_self)
  refine ⟨?_, snoc_in h2 (fun y hy => h3 y hy _ hm), ?_⟩
  · rw [List.take_succ_eq_append_getElem hk, ← List.append_assoc]
    exact List.Perm.append_right _ h1
  · intro x hx y hy
    have hy2 : y ∈ a.drop i ++ b.drop k := by
      rcases List.mem_append.1 hy with q | q
      · exact List.mem_append_left _ q
      · exact List.mem_append_right _ (by rw [List.drop_eq_getElem_cons hk]; exact List.mem_cons_of_mem _ q)
    rcases List.mem_append.1 hx with q | q
    · exact h3 x q y hy2
    · rw [List.mem_singleton.1 q]
      rcases List.mem_append.1 hy2 with r | r
      · rcases hq with e | ⟨hi, hle⟩
        · rw [e, List.drop_length] at r; cases r
        · exact leS_tr (leS_or _ _ hle) (ha.head i hi y r)
      · exact hb.head k hk y r
theorem Mg.done {a b : List ByteArray} {o : List ByteArray} (h : Mg a b a.length b.length o) : o.Perm (a ++ b) ∧ InO o := by
  obtain ⟨h1, h2, _⟩ := h
  rw [List.take_length, List.take_length] at h1
  exact ⟨h1, h2⟩
theorem Mg.len {a b : List ByteArray} {i k : Nat} {o : List ByteArray} (h : Mg a b i k o) (hi : i ≤ a.length) (hk : k ≤ b.length) : o.length = i + k := by
  rw [h.1.length_eq, List.length_append, List.length_take, List.length_take]
  omega
/-- In order, one stands twice just where two neighbours are alike. -/
theorem nodup_iff (l : List ByteArray) : nodup l = true ↔ l.Nodup := by
  induction l with
  | nil => simp [nodup]
  | cons k r ih =>
    rw [nodup, Bool.and_eq_true, ih, List.nodup_cons, Bool.not_eq_true', hasK_false]
theorem twice_near {m ks : List ByteArray} (hp : m.Perm ks) (hs : InO m) : nodup ks = false ↔ ∃ (i : Nat) (h : i + 1 < m.length), m[i + 1] = m[i] := by
  have e : nodup ks = false ↔ ¬ m.Nodup := by
    rw [← Bool.not_eq_true, nodup_iff, hp.nodup_iff]
  rw [e]
  constructor
  · intro h
    induction m generalizing ks with
    | nil => exact absurd List.nodup_nil h
    | cons x r ih =>
      by_cases hx : x ∈ r
      · cases r with
        | nil => cases hx
        | cons y q =>
          have h1 := List.pairwise_cons.1 hs
          have h2 := (List.pairwise_cons.1 h1.2)
          refine ⟨0, by simp, ?_⟩
          show y = x
          rcases List.mem_cons.1 hx with rfl | hq
          · rfl
          · exact leS_anti (h2.1 x hq) (h1.1 y List.mem_cons_self)
      · have hr : ¬ r.Nodup := fun hn => h (List.nodup_cons.2 ⟨hx, hn⟩)
        have h1 := List.pairwise_cons.1 hs
        have he : nodup r = false ↔ ¬ r.Nodup := by rw [← Bool.not_eq_true, nodup_iff]
        obtain ⟨i, hi, hm⟩ := ih (List.Perm.refl r) h1.2 he hr
        exact ⟨i + 1, by simp; omega, by simpa using hm⟩
  · rintro ⟨i, hi, hm⟩ hn
    exact (List.pairwise_iff_getElem.1 hn) i (i + 1) (by omega) hi (by omega) hm.symm
end Go.Proofs.YtdmnhkgiojkphaaGreatDoor
