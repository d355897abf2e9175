/- RevokeHas, plain: what the statement knows is the list's entries in another order. -/
import Derived.Test.YtlgjmhemgfjgnaaRvQ
namespace Go.Proofs.Ytlgjmhemgfjgnaa

def hit (g : Nat) (id : List UInt8) (r : Ky) : Bool := r.g == g && r.id == id
/-- added. -/
def addK (g : Nat) (id : List UInt8) (ex : Int) : List Ky → List Ky
  | [] => [⟨false, g, id, ex⟩]
  | r :: t => if r.g = g ∧ r.wh = true then r :: t else if r.g = g ∧ r.id = id then ⟨r.wh, r.g, r.id, mx ex r.ex⟩ :: t else r :: addK g id ex t
/-- killed's time. -/
def killE (g : Nat) : Int → List Ky → Int
  | e, [] => e
  | e, r :: t => killE g (if r.g = g ∧ r.wh = true ∧ r.ex > e then r.ex else e) t
def killK (g : Nat) (ex : Int) (l : List Ky) : List Ky := l.filter (fun r => !(r.g == g)) ++ [⟨true, g, z16, killE g ex l⟩]
theorem mx_eq (a b : Int) : mx a b = mx b a := mx_comm a b
theorem addK_whole {g : Nat} {id : List UInt8} {ex : Int} : ∀ {l : List Ky}, (∀ r ∈ l, r.g = g → r.wh = true) → (∃ r ∈ l, r.g = g) → addK g id ex l = l
  | [], _, ⟨_, h, _⟩ => by simp at h
  | r :: t, h, ⟨x, hx, hg⟩ => by
    unfold addK
    by_cases hr : r.g = g
    · rw [if_pos ⟨hr, h r List.mem_cons_self hr⟩]
    · rw [if_neg (fun e => hr e.1), if_neg (fun e => hr e.1), addK_whole (fun q hq => h q (List.mem_cons_of_mem _ hq))]
      rcases List.mem_cons.1 hx with rfl | hx
      · exact absurd hg hr
      · exact ⟨x, hx, hg⟩
theorem addK_perm {g : Nat} {id : List UInt8} {ex : Int} : ∀ {l : List Ky}, (∀ r ∈ l, r.g = g → r.wh = false) → (l.filter (hit g id)).length ≤ 1 → (addK g id ex l).Perm (⟨false, g, id, timeOf (l.filter (hit g id)) ex⟩ :: l.filter (fun r => !hit g id r))
  | [], _, _ => List.Perm.refl _
  | r :: t, h, h1 => by
    unfold addK
    have hw : ¬ (r.g = g ∧ r.wh = true) := fun e => by rw [h r List.mem_cons_self e.1] at e; cases e.2
    rw [if_neg hw]
    by_cases hr : r.g = g ∧ r.id = id
    · have hh : hit g id r = true := by unfold hit; rw [hr.1, hr.2]; simp
      have ht : t.filter (hit g id) = [] := by
        rw [List.filter_cons_of_pos hh, List.length_cons] at h1
        exact List.eq_nil_of_length_eq_zero (by omega)
      have hn : t.filter (fun r => !hit g id r) = t := List.filter_eq_self.2 (fun q hq => by
        have := List.filter_eq_nil_iff.1 ht q hq
        simpa using this)
      rw [if_pos hr, List.filter_cons_of_pos hh, ht, List.filter_cons_of_neg (by simp [hh]), hn, h r List.mem_cons_self hr.1, hr.1, hr.2]
      show (_ :: t).Perm (⟨false, g, id, mx r.ex ex⟩ :: t)
      rw [mx_comm r.ex ex]
    · have hh : hit g id r = false := by
        unfold hit
        rw [Bool.and_eq_false_iff, beq_eq_false_iff_ne, beq_eq_false_iff_ne]
        by_cases e : r.g = g
        · exact .inr (fun e2 => hr ⟨e, e2⟩)
        · exact .inl e
      rw [if_neg hr, List.filter_cons_of_neg (by simp [hh]), List.filter_cons_of_pos (by simp [hh])]
      rw [List.filter_cons_of_neg (by simp [hh])] at h1
      exact ((addK_perm (fun q hq => h q (List.mem_cons_of_mem _ hq)) h1).cons r).trans (List.Perm.swap _ _ _)
theorem perm_small {a b : List Ky} (h : a.Perm b) (hl : b.length ≤ 1) : a = b := by
  cases b with
  | nil => exact h.eq_nil
  | cons x t =>
    have ht : t = [] := List.eq_nil_of_length_eq_zero (by rw [List.length_cons] at hl; omega)
    subst ht
    exact List.perm_singleton.1 h
theorem add_perm {all l : List Ky} (hp : all.Perm l) (hk : okL l) (h : chk l = true) (g : Nat) {id : List UInt8} (hid : id.length = 16) (ex : Int) : (addK g id ex all).Perm (addL l g id ex) := by
  by_cases hw : wholeIn l g = true
  · obtain ⟨r, e, hr, hg, _, hm⟩ := own_one h hw
    have e1 : addL l g id ex = l := by unfold addL; rw [if_pos h, if_pos hw]
    rw [e1, addK_whole ?_ ⟨r, hp.mem_iff.2 hm, hg⟩]
    · exact hp
    · intro q hq hqg
      have : q ∈ own l g := List.mem_filter.2 ⟨hp.mem_iff.1 hq, by rw [hqg]; exact beq_self_eq_true _⟩
      rw [e] at this
      rw [List.mem_singleton.1 this]
      exact hr
  · have hn : ∀ r ∈ l, r.g = g → r.wh = false := fun r hr hg => by
      cases hq : r.wh with
      | false => rfl
      | true => exact absurd (List.any_eq_true.2 ⟨r, List.mem_filter.2 ⟨hr, by rw [hg]; exact beq_self_eq_true _⟩, hq⟩) hw
    have hids := own_ids hk h g hid
    have eh : l.filter (hit g id) = eqs (own l g) id := by
      unfold eqs own hit
      rw [List.filter_filter]
      refine List.filter_congr (fun r _ => Bool.and_comm _ _)
    have hfl : all.filter (hit g id) = l.filter (hit g id) := perm_small (hp.filter _) (by rw [eh]; exact hids.2.2)
    have h1 := addK_perm (g := g) (id := id) (ex := ex) (l := all) (fun r hr => hn r (hp.mem_iff.1 hr)) (by rw [hfl, eh]; exact hids.2.2)
    rw [hfl, eh] at h1
    refine h1.trans ?_
    have e1 : addL l g id ex = (lo l g ++ ahd (own l g) id) ++ (⟨false, g, id, timeOf (eqs (own l g) id) ex⟩ :: (bhd (own l g) id ++ hi l g)) := by
      unfold addL; rw [if_pos h, if_neg hw]
    rw [e1]
    refine List.Perm.trans ?_ List.perm_middle.symm
    refine List.Perm.cons _ ((hp.filter _).trans ?_)
    have hs := chk_split h g
    have ho : own l g = ahd (own l g) id ++ (eqs (own l g) id ++ bhd (own l g) id) := by
      have := List.take_append_drop (ahd (own l g) id).length (own l g)
      rw [hids.1, hids.2.1] at this
      exact this.symm
    have f1 : ∀ r ∈ lo l g, hit g id r = false := fun r hr => by have := (lo_mem hr).2; unfold hit; rw [beq_eq_false_iff_ne.2 (by omega)]; rfl
    have f2 : ∀ r ∈ hi l g, hit g id r = false := fun r hr => by have := (hi_mem hr).2; unfold hit; rw [beq_eq_false_iff_ne.2 (by omega)]; rfl
    have f3 : ∀ r ∈ ahd (own l g) id, hit g id r = false := fun r hr => by
      have := (List.mem_filter.1 hr).2
      unfold hit
      rw [beq_eq_false_iff_ne.2 (ltB_ne this), Bool.and_false]
    have f4 : ∀ r ∈ bhd (own l g) id, hit g id r = false := fun r hr => by
      have := (List.mem_filter.1 hr).2
      unfold hit
      rw [beq_eq_false_iff_ne.2 (fun e => ltB_ne this e.symm), Bool.and_false]
    have f5 : ∀ r ∈ eqs (own l g) id, hit g id r = true := fun r hr => by
      obtain ⟨a, b⟩ := List.mem_filter.1 hr
      unfold hit
      rw [(own_mem a).2]
      simpa using b
    have e2 : l.filter (fun r => !hit g id r) = lo l g ++ (ahd (own l g) id ++ (bhd (own l g) id ++ hi l g)) := by
      conv => lhs; rw [hs, ho]
      simp only [List.filter_append]
      rw [List.filter_eq_self.2 (fun r hr => by rw [f1 r hr]; rfl), List.filter_eq_self.2 (fun r hr => by rw [f3 r hr]; rfl), List.filter_eq_nil_iff.2 (fun r hr => by rw [f5 r hr]; simp), List.filter_eq_self.2 (fun r hr => by rw [f4 r hr]; rfl), List.filter_eq_self.2 (fun r hr => by rw [f2 r hr]; rfl)]
      simp
    rw [e2, List.append_assoc]
theorem killE_cons (g : Nat) (e : Int) (r : Ky) (t : List Ky) : killE g e (r :: t) = killE g (if r.g = g ∧ r.wh = true ∧ r.ex > e then r.ex else e) t := rfl
theorem killE_own (g : Nat) : ∀ (e : Int) (l : List Ky), killE g e l = killE g e (own l g)
  | e, [] => rfl
  | e, r :: t => by
    rw [killE_cons]
    by_cases hr : r.g = g
    · have : own (r :: t) g = r :: own t g := List.filter_cons_of_pos (by rw [hr]; exact beq_self_eq_true _)
      rw [this, killE_cons]
      exact killE_own g _ t
    · have : own (r :: t) g = own t g := List.filter_cons_of_neg (by simpa using hr)
      rw [this, if_neg (fun h => hr h.1)]
      exact killE_own g e t
theorem killE_none (g : Nat) : ∀ (e : Int) (l : List Ky), (∀ r ∈ l, r.wh = false) → killE g e l = e
  | e, [], _ => rfl
  | e, r :: t, h => by
    unfold killE
    rw [if_neg (fun x => by rw [h r List.mem_cons_self] at x; cases x.2.1)]
    exact killE_none g e t (fun q hq => h q (List.mem_cons_of_mem _ hq))
theorem kill_perm {all l : List Ky} (hp : all.Perm l) (h : chk l = true) (g : Nat) (ex : Int) : (killK g ex all).Perm (killL l g ex) := by
  have hown : (own all g).Perm (own l g) := hp.filter _
  have hE : killE g ex all = if wholeIn l g = true then timeOf (own l g) ex else ex := by
    rw [killE_own]
    by_cases hw : wholeIn l g = true
    · obtain ⟨r, e, hr, hg, _, _⟩ := own_one h hw
      rw [if_pos hw]
      rw [e] at hown
      rw [List.perm_singleton.1 hown, e]
      show (if r.g = g ∧ r.wh = true ∧ r.ex > ex then r.ex else ex) = (if r.ex > ex then r.ex else ex)
      by_cases hx : r.ex > ex
      · rw [if_pos ⟨hg, hr, hx⟩, if_pos hx]
      · rw [if_neg (fun z => hx z.2.2), if_neg hx]
    · rw [if_neg hw]
      refine killE_none g ex _ (fun r hr => ?_)
      cases hq : r.wh with
      | false => rfl
      | true => exact absurd (List.any_eq_true.2 ⟨r, hown.mem_iff.1 hr, hq⟩) hw
  unfold killK killL
  rw [if_pos h, hE]
  refine List.Perm.trans (List.perm_append_comm) ?_
  refine List.Perm.trans ?_ List.perm_middle.symm
  refine List.Perm.cons _ ((hp.filter _).trans ?_)
  have hs := chk_split h g
  have e2 : l.filter (fun r => !(r.g == g)) = lo l g ++ hi l g := by
    conv => lhs; rw [hs]
    simp only [List.filter_append]
    rw [List.filter_eq_self.2 (fun r hr => by have := (lo_mem hr).2; simp; omega), List.filter_eq_nil_iff.2 (fun r hr => by have := (own_mem hr).2; simp [this]), List.filter_eq_self.2 (fun r hr => by have := (hi_mem hr).2; simp; omega)]
    simp
  rw [e2]
theorem prn_perm {all l : List Ky} (hp : all.Perm l) (h : chk l = true) (now : Int) : (all.filter (fun r => decide (r.ex > now))).Perm (prnL l now) := by
  unfold prnL
  rw [if_pos h]
  exact hp.filter _
theorem has_perm {all l : List Ky} (hp : all.Perm l) (h : chk l = true) (g : Nat) (id : List UInt8) : hasL l g id = all.any (fun r => r.g == g && (r.wh || r.id == id)) := by
  unfold hasL own
  rw [h, Bool.true_and, List.any_filter]
  rw [Bool.eq_iff_iff, List.any_eq_true, List.any_eq_true]
  exact ⟨fun ⟨r, a, b⟩ => ⟨r, hp.mem_iff.2 a, b⟩, fun ⟨r, a, b⟩ => ⟨r, hp.mem_iff.1 a, b⟩⟩
end Go.Proofs.Ytlgjmhemgfjgnaa
