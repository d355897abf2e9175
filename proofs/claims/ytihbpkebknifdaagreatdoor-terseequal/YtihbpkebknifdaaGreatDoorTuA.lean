/- A value whose maps' entries stand in another order: plain facts. -/
import Derived.Test.YtihbpkebknifdaaGreatDoorEqA
namespace Go.Proofs.YtihbpkebknifdaaGreatDoor
open Go Go.RowKit

/-- The place that is taken for place i of m. -/
def px (n m i : Nat) : Nat := if n % 2 = 1 then m - 1 - (i + n) % m else (i + n) % m
theorem px_lt {n m i : Nat} (h : i < m) : px n m i < m := by
  unfold px
  have := Nat.mod_lt (i + n) (show 0 < m by omega)
  split <;> omega
theorem mod_inj {n m i j : Nat} (hi : i < m) (hj : j < m) (h : (i + n) % m = (j + n) % m) : i = j := by
  have e1 := Nat.div_add_mod (i + n) m
  have e2 := Nat.div_add_mod (j + n) m
  rw [h] at e1
  have e3 : m * ((i + n) / m) + (j + n) = m * ((j + n) / m) + (i + n) := by omega
  rcases Nat.lt_trichotomy ((i + n) / m) ((j + n) / m) with q | q | q
  · have : m * ((i + n) / m) + m ≤ m * ((j + n) / m) := by
      have := Nat.mul_le_mul_left m (Nat.succ_le_of_lt q)
      rw [Nat.mul_succ] at this
      exact this
    omega
  · rw [q] at e3; omega
  · have : m * ((j + n) / m) + m ≤ m * ((i + n) / m) := by
      have := Nat.mul_le_mul_left m (Nat.succ_le_of_lt q)
      rw [Nat.mul_succ] at this
      exact this
    omega
theorem px_inj {n m i j : Nat} (hi : i < m) (hj : j < m) (h : px n m i = px n m j) : i = j := by
  unfold px at h
  have h1 := Nat.mod_lt (i + n) (show 0 < m by omega)
  have h2 := Nat.mod_lt (j + n) (show 0 < m by omega)
  split at h
  · exact mod_inj (n := n) hi hj (by omega)
  · exact mod_inj hi hj h
def pxs (n m : Nat) : List Nat := (List.range m).map (px n m)
theorem pxs_nodup (n m : Nat) : (pxs n m).Nodup := by
  unfold pxs
  refine List.Pairwise.map _ (R := fun a b => a < m ∧ b < m ∧ a ≠ b) (fun a b hab e => hab.2.2 (px_inj hab.1 hab.2.1 e)) ?_
  have h1 : (List.range m).Pairwise (· ≠ ·) := List.nodup_range
  exact (List.pairwise_iff_forall_sublist.2 (fun {a b} hab => ⟨List.mem_range.1 (hab.subset (by simp)), List.mem_range.1 (hab.subset (by simp)), List.pairwise_iff_forall_sublist.1 h1 hab⟩))
theorem mod_sur {n m i : Nat} (h : i < m) : ∃ j, j < m ∧ (j + n) % m = i := by
  have hr := Nat.mod_lt n (show 0 < m by omega)
  have e : ∀ j, (j + n) % m = (j + n % m) % m := fun j => (Nat.add_mod_mod j n m).symm
  obtain ⟨r, hr'⟩ : ∃ r, n % m = r := ⟨_, rfl⟩
  rw [hr'] at hr e
  by_cases hi : r ≤ i
  · exact ⟨i - r, by omega, by rw [e, show i - r + r = i by omega]; exact Nat.mod_eq_of_lt h⟩
  · exact ⟨i + m - r, by omega, by rw [e, show i + m - r + r = i + m by omega, Nat.add_mod_right]; exact Nat.mod_eq_of_lt h⟩
theorem px_sur {n m i : Nat} (h : i < m) : ∃ j, j < m ∧ px n m j = i := by
  unfold px
  by_cases ho : n % 2 = 1
  · obtain ⟨j, h1, h2⟩ := mod_sur (n := n) (show m - 1 - i < m by omega)
    exact ⟨j, h1, by rw [if_pos ho, h2]; omega⟩
  · obtain ⟨j, h1, h2⟩ := mod_sur (n := n) h
    exact ⟨j, h1, by rw [if_neg ho, h2]⟩
theorem pxs_perm (n m : Nat) : (pxs n m).Perm (List.range m) := by
  refine (List.perm_ext_iff_of_nodup (pxs_nodup n m) List.nodup_range).2 (fun a => ⟨fun ha => ?_, fun ha => ?_⟩)
  · unfold pxs at ha
    obtain ⟨i, hi, rfl⟩ := List.mem_map.1 ha
    exact List.mem_range.2 (px_lt (List.mem_range.1 hi))
  · obtain ⟨j, h1, h2⟩ := px_sur (n := n) (List.mem_range.1 ha)
    unfold pxs
    exact List.mem_map.2 ⟨j, List.mem_range.2 h1, h2⟩
def pm {α : Type} (d : α) (n : Nat) (l : List α) : List α := (pxs n l.length).map fun i => l.getD i d
theorem pm_length {α : Type} (d : α) (n : Nat) (l : List α) : (pm d n l).length = l.length := by unfold pm pxs; simp
theorem pm_get {α : Type} (d : α) (n : Nat) (l : List α) {i : Nat} (hi : i < l.length) : (pm d n l)[i]? = some (l[px n l.length i]'(px_lt hi)) := by
  have := px_lt (n := n) hi
  unfold pm pxs
  simp [hi, this]
theorem range_self {α : Type} (d : α) (l : List α) : (List.range l.length).map (fun i => l.getD i d) = l := by
  apply List.ext_getElem
  · simp
  · intro i h1 h2
    simp [h2]
theorem pm_perm {α : Type} (d : α) (n : Nat) (l : List α) : (pm d n l).Perm l := by
  have := (pxs_perm n l.length).map (fun i => l.getD i d)
  rw [range_self] at this
  exact this
theorem nodup_iff : ∀ {ks : List ByteArray}, nodup ks = true ↔ ks.Nodup
  | [] => by simp [nodup]
  | k :: r => by
    unfold nodup
    rw [Bool.and_eq_true, nodup_iff (ks := r), List.nodup_cons]
    have : (!hasK r k) = true ↔ k ∉ r := by rw [Bool.not_eq_true', hasK_false]
    rw [this]
theorem cntL_perm {l m : List Tree} (h : l.Perm m) : cntL l = cntL m := by
  induction h with
  | nil => rfl
  | cons x _ ih => rw [cntL, cntL, ih]
  | swap x y l => simp only [cntL]; omega
  | trans _ _ h1 h2 => exact h1.trans h2
theorem keyN_perm {l m : List ByteArray} (h : l.Perm m) : keyN l = keyN m := by
  induction h with
  | nil => rfl
  | cons x _ ih => rw [keyN, keyN, ih]
  | swap x y l => simp only [keyN]; omega
  | trans _ _ h1 h2 => exact h1.trans h2
mutual
def turnT (n : Nat) : Tree → Tree
  | .mk k f c t ks is => if k = 6 then .mk k f c t (pm ⟨#[]⟩ n ks) (pm zeroT n (turnL n is)) else .mk k f c t [] (turnL n is)
def turnL (n : Nat) : List Tree → List Tree
  | [] => []
  | t :: r => turnT n t :: turnL n r
end
theorem turnL_map (n : Nat) : ∀ l, turnL n l = l.map (turnT n)
  | [] => by rw [turnL]; rfl
  | t :: r => by rw [turnL, turnL_map n r]; rfl
theorem turnT_eq (n : Nat) (t : Tree) : turnT n t = if t.kind = 6 then .mk t.kind t.flag t.n t.text (pm ⟨#[]⟩ n t.keys) (pm zeroT n (t.items.map (turnT n))) else .mk t.kind t.flag t.n t.text [] (t.items.map (turnT n)) := by
  cases t with | mk k f c t ks is => rw [turnT, turnL_map]; rfl
theorem turn_parts (n : Nat) (t : Tree) : (turnT n t).kind = t.kind ∧ (turnT n t).flag = t.flag ∧ (turnT n t).n = t.n ∧ (turnT n t).text = t.text ∧ (turnT n t).items.length = t.items.length ∧ (t.kind = 6 → (turnT n t).keys = pm ⟨#[]⟩ n t.keys ∧ (turnT n t).items = pm zeroT n (t.items.map (turnT n))) ∧ (t.kind ≠ 6 → (turnT n t).keys = [] ∧ (turnT n t).items = t.items.map (turnT n)) := by
  rw [turnT_eq]
  by_cases h : t.kind = 6
  · rw [if_pos h]
    exact ⟨rfl, rfl, rfl, rfl, by show (pm _ _ _).length = _; rw [pm_length, List.length_map], fun _ => ⟨rfl, rfl⟩, fun q => absurd h q⟩
  · rw [if_neg h]
    exact ⟨rfl, rfl, rfl, rfl, by show (List.map _ _).length = _; rw [List.length_map], fun q => absurd q h, fun _ => ⟨rfl, rfl⟩⟩
theorem GoodP.nokeys {t : Tree} (h : GoodP t) (hk : t.kind ≠ 6) : t.keys = [] := by
  obtain ⟨about, h⟩ := h
  have := (one_kind (check_one h).1).2.2.1
  unfold spareB at this
  simp only [Bool.and_eq_true, Bool.or_eq_true, beq_iff_eq] at this
  rcases this.1.2 with q | q
  · exact List.eq_nil_of_length_eq_zero q
  · exact absurd q hk
theorem turn_cnt : ∀ (m n : Nat) (t : Tree), cntT t ≤ m → GoodP t → cntT (turnT n t) = cntT t
  | 0, n, t, h, _ => by rw [cntT_eq] at h; omega
  | m + 1, n, t, h, hg => by
    have hi : ∀ x ∈ t.items, cntT (turnT n x) = cntT x := fun x hx => turn_cnt m n x (by have := cntL_mem hx; rw [cntT_eq] at h; omega) (hg.item hx)
    have hl : ∀ l : List Tree, (∀ x ∈ l, cntT (turnT n x) = cntT x) → cntL (l.map (turnT n)) = cntL l := by
      intro l
      induction l with
      | nil => intro _; rfl
      | cons x r ih => intro q; rw [List.map_cons, cntL, cntL, q x (List.mem_cons_self ..), ih (fun y hy => q y (List.mem_cons_of_mem _ hy))]
    obtain ⟨p1, p2, p3, p4, p5, p6, p7⟩ := turn_parts n t
    rw [cntT_eq, cntT_eq t, p4]
    by_cases h6 : t.kind = 6
    · rw [(p6 h6).1, (p6 h6).2, cntL_perm (pm_perm ..), keyN_perm (pm_perm ..), hl _ hi]
    · rw [(p7 h6).1, (p7 h6).2, hl _ hi, hg.nokeys h6]
theorem turn_check : ∀ (m n : Nat) (t : Tree) (about : Nat), cntT t ≤ m → checkT t about = 0 → checkT (turnT n t) about = 0
  | 0, n, t, about, h, _ => by rw [cntT_eq] at h; omega
  | m + 1, n, t, about, h, hc => by
    obtain ⟨h1, h2⟩ := check_one hc
    have hi : ∀ x ∈ t.items, checkT (turnT n x) (about + 1) = 0 := fun x hx => turn_check m n x _ (by have := cntL_mem hx; rw [cntT_eq] at h; omega) (h2 x hx)
    obtain ⟨k1, k2, k3, k4, k5, k6, k7⟩ := one_kind h1
    obtain ⟨p1, p2, p3, p4, p5, p6, p7⟩ := turn_parts n t
    have hit : ∀ x ∈ (turnT n t).items, checkT x (about + 1) = 0 := fun x hx => by
      by_cases h6 : t.kind = 6
      · rw [(p6 h6).2] at hx
        obtain ⟨z, hz, rfl⟩ := List.mem_map.1 ((pm_perm ..).mem_iff.1 hx)
        exact hi z hz
      · rw [(p7 h6).2] at hx
        obtain ⟨z, hz, rfl⟩ := List.mem_map.1 hx
        exact hi z hz
    have hkey : (turnT n t).keys.all good = true := by
      by_cases h6 : t.kind = 6
      · rw [(p6 h6).1, List.all_eq_true]
        intro x hx
        exact List.all_eq_true.1 k5 x ((pm_perm ..).mem_iff.1 hx)
      · rw [(p7 h6).1]; rfl
    have hsp : spareB (turnT n t) = true := by
      unfold spareB at k3 ⊢
      rw [p1, p2, p3, p4, p5]
      simp only [Bool.and_eq_true, Bool.or_eq_true, beq_iff_eq] at k3 ⊢
      refine ⟨⟨k3.1.1, ?_⟩, k3.2⟩
      by_cases h6 : t.kind = 6
      · exact .inr h6
      · left; rw [(p7 h6).1]; rfl
    have hfit : t.kind = 6 → keysFit (turnT n t) = true := fun h6 => by
      unfold keysFit
      rw [p5, (p6 h6).1, pm_length, Bool.and_eq_true, beq_iff_eq]
      refine ⟨(k6 h6).1, nodup_iff.2 ((pm_perm ..).nodup_iff.2 (nodup_iff.1 (k6 h6).2))⟩
    have hone : oneE (turnT n t) about = 0 := by
      unfold oneE
      rw [p1, p4, hsp, k4, hkey, if_neg, if_neg, if_neg, if_neg]
      · intro q
        rw [Bool.and_eq_true, beq_iff_eq] at q
        rw [hfit q.1] at q
        simp at q
      · simp
      · simp; omega
      · intro q
        rw [Bool.and_eq_true] at q
        have := k7 q.1
        have := of_decide_eq_true q.2
        omega
    rw [checkT_eq, if_pos hone]
    exact checkL_zero.2 hit
theorem eqL_all (l m : List Tree) (hl : m.length = l.length) (h : ∀ i (hi : i < l.length), eqT l[i] (m[i]'(by omega)) = true) : ∀ (k i : Nat), l.length = i + k → eqL (l.drop i) (m.drop i) = true
  | 0, i, hi => by rw [List.drop_eq_nil_of_le (by omega), eqL]
  | k + 1, i, hi => by
    rw [eqL_at i (by omega) (by omega), h i (by omega), eqL_all l m hl h k (i + 1) (by omega)]
    rfl
theorem eqM_all (l : List Tree) (ks bk : List ByteArray) (bi : List Tree) (hk : ks.length = l.length) (h : ∀ i (hi : i < l.length), ∃ j, posK bk (ks[i]'(by omega)) = some j ∧ eqT l[i] (bi.getD j zeroT) = true) : ∀ (k i : Nat), l.length = i + k → eqM (l.drop i) (ks.drop i) bk bi = true
  | 0, i, hi => by rw [List.drop_eq_nil_of_le (by omega), eqM]
  | k + 1, i, hi => by
    obtain ⟨j, h1, h2⟩ := h i (by omega)
    rw [eqM_at i (by omega) (by omega), h1, eqM_all l ks bk bi hk h k (i + 1) (by omega)]
    simp only [h2, Bool.and_true]
theorem turn_eq : ∀ (m n : Nat) (t : Tree), cntT t ≤ m → GoodP t → eqT t (turnT n t) = true ∧ eqT (turnT n t) t = true
  | 0, n, t, h, _ => by rw [cntT_eq] at h; omega
  | m + 1, n, t, h, hg => by
    have hi : ∀ x ∈ t.items, eqT x (turnT n x) = true ∧ eqT (turnT n x) x = true := fun x hx => turn_eq m n x (by have := cntL_mem hx; rw [cntT_eq] at h; omega) (hg.item hx)
    obtain ⟨p1, p2, p3, p4, p5, p6, p7⟩ := turn_parts n t
    rw [eqT_eq, eqT_eq (turnT n t), p1, p2, p3, p4, p5]
    simp only [beq_self_eq_true, Bool.true_and, Bool.and_self]
    by_cases h5 : t.kind = 5
    · have q := p7 (by omega)
      rw [if_pos h5, if_pos h5, q.2]
      have hm : (t.items.map (turnT n)).length = t.items.length := List.length_map ..
      refine ⟨?_, ?_⟩
      · exact eqL_all t.items _ hm (fun i hi' => by rw [List.getElem_map]; exact (hi _ (List.getElem_mem _)).1) t.items.length 0 (by simp)
      · exact eqL_all (t.items.map (turnT n)) t.items hm.symm (fun i hi' => by rw [List.getElem_map]; exact (hi _ (List.getElem_mem _)).2) (t.items.map (turnT n)).length 0 (by simp)
    · rw [if_neg h5, if_neg h5]
      by_cases h6 : t.kind = 6
      · rw [if_pos h6, if_pos h6]
        obtain ⟨q1, q2⟩ := p6 h6
        obtain ⟨g1, g2⟩ := hg.keys h6
        have hm : (t.items.map (turnT n)).length = t.items.length := List.length_map ..
        have hnd : nodup (pm ⟨#[]⟩ n t.keys) = true := nodup_iff.2 ((pm_perm ..).nodup_iff.2 (nodup_iff.1 g2))
        rw [q1, q2]
        refine ⟨?_, ?_⟩
        · refine eqM_all t.items t.keys _ _ g1 (fun i hi' => ?_) t.items.length 0 (by simp)
          obtain ⟨j, hj, e⟩ := px_sur (n := n) hi'
          have e1 := pm_get (⟨#[]⟩ : ByteArray) n t.keys (i := j) (by omega)
          have e2 := pm_get zeroT n (t.items.map (turnT n)) (i := j) (by omega)
          refine ⟨j, posK_at hnd ?_, ?_⟩
          · rw [e1]
            congr 1
            have : px n t.keys.length j = i := by rw [g1]; exact e
            simp only [this]
          · rw [List.getD_eq_getElem?_getD, e2, Option.getD_some]
            have : px n (t.items.map (turnT n)).length j = i := by rw [hm]; exact e
            simp only [this, List.getElem_map]
            exact (hi _ (List.getElem_mem _)).1
        · have hpl : (pm zeroT n (t.items.map (turnT n))).length = t.items.length := by rw [pm_length, hm]
          refine eqM_all (pm zeroT n (t.items.map (turnT n))) (pm ⟨#[]⟩ n t.keys) t.keys t.items (by rw [pm_length, hpl, g1]) (fun i hi' => ?_) (pm zeroT n (t.items.map (turnT n))).length 0 (by simp)
          have hi2 : i < t.items.length := by omega
          have e1 := pm_get (⟨#[]⟩ : ByteArray) n t.keys (i := i) (by omega)
          have e2 := pm_get zeroT n (t.items.map (turnT n)) (i := i) (by omega)
          have hp := px_lt (n := n) hi2
          have k1 : (pm ⟨#[]⟩ n t.keys)[i]'(by rw [pm_length]; omega) = t.keys[px n t.items.length i]'(by omega) := by
            have := (List.getElem?_eq_some_iff.1 e1).2
            rw [this]
            simp only [g1]
          have k2 : (pm zeroT n (t.items.map (turnT n)))[i] = turnT n (t.items[px n t.items.length i]) := by
            have := (List.getElem?_eq_some_iff.1 e2).2
            rw [this, List.getElem_map]
            simp only [hm]
          refine ⟨px n t.items.length i, ?_, ?_⟩
          · rw [k1]
            exact posK_at g2 (List.getElem?_eq_getElem _)
          · rw [k2, List.getD_eq_getElem?_getD, List.getElem?_eq_getElem hp, Option.getD_some]
            exact (hi _ (List.getElem_mem _)).2
      · rw [if_neg h6, if_neg h6]
        simp
/-- A list with one item more. -/
def moreT (t : Tree) : Tree := .mk t.kind t.flag t.n t.text t.keys (t.items ++ [.mk 1 false 0 ⟨#[]⟩ [] []])
theorem more_ne (t : Tree) : eqT t (moreT t) = false ∧ eqT (moreT t) t = false := by
  have : (moreT t).items.length = t.items.length + 1 := by unfold moreT; show (t.items ++ _).length = _; simp
  rw [eqT_eq, eqT_eq (moreT t), this]
  simp
end Go.Proofs.YtihbpkebknifdaaGreatDoor
