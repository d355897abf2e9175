/- What the calls keep, plain. -/
import Derived.Test.YtlgjmhemgfjgnaaGreatRvP
namespace Go.Proofs.YtlgjmhemgfjgnaaGreat

theorem disj_len {p q : Ky → Bool} (h : ∀ r, p r = true → q r = true → False) : ∀ (l : List Ky), (l.filter p).length + (l.filter q).length ≤ l.length
  | [] => Nat.le_refl _
  | r :: l => by
    have ih := disj_len h l
    cases hp : p r with
    | true =>
      have hq : q r = false := by
        cases hq : q r with
        | false => rfl
        | true => exact (h r hp hq).elim
      rw [List.filter_cons_of_pos hp, List.filter_cons_of_neg (by simp [hq]), List.length_cons, List.length_cons]
      omega
    | false =>
      cases hq : q r with
      | true => rw [List.filter_cons_of_neg (by simp [hp]), List.filter_cons_of_pos hq, List.length_cons, List.length_cons]; omega
      | false => rw [List.filter_cons_of_neg (by simp [hp]), List.filter_cons_of_neg (by simp [hq]), List.length_cons]; omega
theorem lo_mem {l : List Ky} {g : Nat} {r : Ky} (h : r ∈ lo l g) : r ∈ l ∧ r.g < g := by
  obtain ⟨a, b⟩ := List.mem_filter.1 h
  exact ⟨a, by simpa using b⟩
theorem hi_mem {l : List Ky} {g : Nat} {r : Ky} (h : r ∈ hi l g) : r ∈ l ∧ g < r.g := by
  obtain ⟨a, b⟩ := List.mem_filter.1 h
  exact ⟨a, by simpa using b⟩
theorem own_mem {l : List Ky} {g : Nat} {r : Ky} (h : r ∈ own l g) : r ∈ l ∧ r.g = g := by
  obtain ⟨a, b⟩ := List.mem_filter.1 h
  exact ⟨a, by simpa using b⟩
theorem chk_prn (l : List Ky) (now : Int) : chk (prnL l now) = true := by
  unfold prnL
  by_cases h : chk l = true
  · rw [if_pos h]
    obtain ⟨h1, h2⟩ := (chk_iff l).1 h
    exact (chk_iff _).2 ⟨fun r hr => h1 r (List.mem_filter.1 hr).1, h2.filter _⟩
  · rw [if_neg h]; rfl
theorem len_prn (l : List Ky) (now : Int) : (prnL l now).length ≤ l.length := by
  unfold prnL
  split
  · exact List.length_filter_le _ _
  · exact Nat.zero_le _
/-- a list of three parts: smaller grants, this grant's, greater ones. -/
theorem chk_three {l : List Ky} (h : chk l = true) (g : Nat) (m : List Ky) (hm1 : ∀ r ∈ m, r.g = g ∧ okW r = true) (hm2 : m.Pairwise (fun x y => mf x y = true)) : chk (lo l g ++ (m ++ hi l g)) = true := by
  obtain ⟨h1, h2⟩ := (chk_iff l).1 h
  refine (chk_iff _).2 ⟨fun r hr => ?_, ?_⟩
  · rcases List.mem_append.1 hr with hr | hr
    · exact h1 r (lo_mem hr).1
    · rcases List.mem_append.1 hr with hr | hr
      · exact (hm1 r hr).2
      · exact h1 r (hi_mem hr).1
  · refine List.pairwise_append.2 ⟨h2.filter _, List.pairwise_append.2 ⟨hm2, h2.filter _, fun x hx y hy => ?_⟩, fun x hx y hy => ?_⟩
    · exact mf_lt (by rw [(hm1 x hx).1]; exact (hi_mem hy).2)
    · have hxg := (lo_mem hx).2
      rcases List.mem_append.1 hy with hy | hy
      · exact mf_lt (by rw [(hm1 y hy).1]; exact hxg)
      · exact mf_lt (Nat.lt_trans hxg (hi_mem hy).2)
theorem own_three (l : List Ky) (g g' : Nat) (m : List Ky) (hm : ∀ r ∈ m, r.g = g) : own (lo l g ++ (m ++ hi l g)) g' = if g' = g then m else own l g' := by
  have e1 : own (lo l g) g' = if g' < g then own l g' else [] := by
    split
    · rename_i h
      unfold own lo
      rw [List.filter_filter]
      refine List.filter_congr (fun r _ => ?_)
      rw [Bool.eq_iff_iff]
      simp
      omega
    · rename_i h
      refine List.filter_eq_nil_iff.2 (fun r hr => ?_)
      have := (lo_mem hr).2
      simp
      omega
  have e2 : own (hi l g) g' = if g < g' then own l g' else [] := by
    split
    · rename_i h
      unfold own hi
      rw [List.filter_filter]
      refine List.filter_congr (fun r _ => ?_)
      rw [Bool.eq_iff_iff]
      simp
      omega
    · rename_i h
      refine List.filter_eq_nil_iff.2 (fun r hr => ?_)
      have := (hi_mem hr).2
      simp
      omega
  have e3 : own m g' = if g' = g then m else [] := by
    split
    · rename_i h
      exact List.filter_eq_self.2 (fun r hr => by rw [hm r hr, h]; exact beq_self_eq_true g)
    · rename_i h
      exact List.filter_eq_nil_iff.2 (fun r hr => by rw [hm r hr]; simp; omega)
  have e0 : own (lo l g ++ (m ++ hi l g)) g' = own (lo l g) g' ++ (own m g' ++ own (hi l g) g') := by
    unfold own
    rw [List.filter_append, List.filter_append]
  rw [e0, e1, e2, e3]
  rcases Nat.lt_trichotomy g' g with h | h | h
  · rw [if_pos h, if_neg (by omega), if_neg (by omega), if_neg (by omega)]; simp
  · rw [if_neg (by omega), if_pos h, if_neg (by omega), if_pos h]; simp
  · rw [if_neg (by omega), if_neg (by omega), if_pos h, if_neg (by omega)]; simp
/-- what a Kill and an Add make of one grant's entries. -/
def killO (o : List Ky) (g : Nat) (ex : Int) : List Ky := [⟨true, g, z16, if o.any (fun r => r.wh) = true then timeOf o ex else ex⟩]
def addO (o : List Ky) (g : Nat) (id : List UInt8) (ex : Int) : List Ky := if o.any (fun r => r.wh) = true then o else ahd o id ++ (⟨false, g, id, timeOf (eqs o id) ex⟩ :: bhd o id)
theorem killL_eq {l : List Ky} (h : chk l = true) (g : Nat) (ex : Int) : killL l g ex = lo l g ++ (killO (own l g) g ex ++ hi l g) := by
  unfold killL
  rw [if_pos h]
  rfl
theorem addL_eq {l : List Ky} (h : chk l = true) (g : Nat) (id : List UInt8) (ex : Int) : addL l g id ex = lo l g ++ (addO (own l g) g id ex ++ hi l g) := by
  unfold addL addO
  rw [if_pos h]
  show (if wholeIn l g = true then l else _) = lo l g ++ ((if wholeIn l g = true then own l g else _) ++ hi l g)
  by_cases hw : wholeIn l g = true
  · rw [if_pos hw, if_pos hw]
    exact chk_split h g
  · rw [if_neg hw, if_neg hw]
    simp
theorem killO_g (o : List Ky) (g : Nat) (ex : Int) : ∀ r ∈ killO o g ex, r.g = g ∧ okW r = true := by
  intro r hr
  rw [List.mem_singleton.1 hr]
  exact ⟨rfl, rfl⟩
theorem addO_g {l : List Ky} (h : chk l = true) (g : Nat) (id : List UInt8) (ex : Int) : ∀ r ∈ addO (own l g) g id ex, r.g = g ∧ okW r = true := by
  obtain ⟨h1, h2⟩ := (chk_iff l).1 h
  have ho : ∀ r ∈ own l g, r.g = g ∧ okW r = true := fun r hr => ⟨(own_mem hr).2, h1 r (own_mem hr).1⟩
  intro r hr
  unfold addO at hr
  split at hr
  · exact ho r hr
  · rcases List.mem_append.1 hr with hr | hr
    · exact ho r (List.mem_filter.1 hr).1
    · rcases List.mem_cons.1 hr with rfl | hr
      · exact ⟨rfl, rfl⟩
      · exact ho r (List.mem_filter.1 hr).1
theorem addO_pw {l : List Ky} (h : chk l = true) (g : Nat) (id : List UInt8) (ex : Int) : (addO (own l g) g id ex).Pairwise (fun x y => mf x y = true) := by
  obtain ⟨h1, h2⟩ := (chk_iff l).1 h
  have hp : (own l g).Pairwise (fun x y => mf x y = true) := h2.filter _
  have ho : ∀ r ∈ own l g, r.g = g := fun r hr => (own_mem hr).2
  unfold addO
  by_cases hw : (own l g).any (fun r => r.wh) = true
  · rw [if_pos hw]; exact hp
  · rw [if_neg hw]
    have hn : ∀ r ∈ own l g, r.wh = false := fun r hr => by
      cases hq : r.wh with
      | false => rfl
      | true => exact absurd (List.any_eq_true.2 ⟨r, hr, hq⟩) hw
    refine List.pairwise_append.2 ⟨hp.filter _, List.pairwise_cons.2 ⟨fun y hy => ?_, hp.filter _⟩, fun x hx y hy => ?_⟩
    · obtain ⟨a, b⟩ := List.mem_filter.1 hy
      exact mf_mk (ho y a).symm rfl (hn y a) b
    · obtain ⟨a, b⟩ := List.mem_filter.1 hx
      rcases List.mem_cons.1 hy with rfl | hy
      · exact mf_mk (ho x a) (hn x a) rfl b
      · obtain ⟨c, d⟩ := List.mem_filter.1 hy
        exact mf_mk ((ho x a).trans (ho y c).symm) (hn x a) (hn y c) (ltB_trans b d)
theorem chk_kill {l : List Ky} (h : chk l = true) (g : Nat) (ex : Int) : chk (killL l g ex) = true := by
  rw [killL_eq h]
  exact chk_three h g _ (killO_g _ g ex) (List.pairwise_singleton _ _)
theorem chk_add {l : List Ky} (h : chk l = true) (g : Nat) (id : List UInt8) (ex : Int) : chk (addL l g id ex) = true := by
  rw [addL_eq h]
  exact chk_three h g _ (addO_g h g id ex) (addO_pw h g id ex)
theorem own_kill {l : List Ky} (h : chk l = true) (g g' : Nat) (ex : Int) : own (killL l g ex) g' = if g' = g then killO (own l g) g ex else own l g' := by
  rw [killL_eq h]
  exact own_three l g g' _ (fun r hr => (killO_g _ g ex r hr).1)
theorem own_add {l : List Ky} (h : chk l = true) (g g' : Nat) (id : List UInt8) (ex : Int) : own (addL l g id ex) g' = if g' = g then addO (own l g) g id ex else own l g' := by
  rw [addL_eq h]
  exact own_three l g g' _ (fun r hr => (addO_g h g id ex r hr).1)
theorem three_len (l : List Ky) (g : Nat) : (lo l g).length + (own l g).length + (hi l g).length ≤ l.length := by
  have h1 := disj_len (p := fun r => decide (r.g < g)) (q := fun r => !decide (r.g < g)) (fun r a b => by simp at a b; omega) l
  have h2 := disj_len (p := fun r => r.g == g) (q := fun r => decide (g < r.g)) (fun r a b => by simp at a b; omega) (l.filter (fun r => !decide (r.g < g)))
  have e1 : (l.filter (fun r => !decide (r.g < g))).filter (fun r => r.g == g) = own l g := by
    unfold own
    rw [List.filter_filter]
    refine List.filter_congr (fun r _ => ?_)
    rw [Bool.eq_iff_iff]
    simp
    omega
  have e2 : (l.filter (fun r => !decide (r.g < g))).filter (fun r => decide (g < r.g)) = hi l g := by
    unfold hi
    rw [List.filter_filter]
    refine List.filter_congr (fun r _ => ?_)
    rw [Bool.eq_iff_iff]
    simp
    omega
  rw [e1, e2] at h2
  unfold lo
  omega
theorem len_kill (l : List Ky) (g : Nat) (ex : Int) : (killL l g ex).length ≤ l.length + 1 := by
  unfold killL
  split
  · have := three_len l g
    rw [List.length_append, List.length_cons]
    omega
  · exact Nat.zero_le _
theorem len_add (l : List Ky) (g : Nat) (id : List UInt8) (ex : Int) : (addL l g id ex).length ≤ l.length + 1 := by
  unfold addL
  split
  · split
    · omega
    · have h1 := three_len l g
      have h2 := disj_len (p := fun r => ltB r.id id) (q := fun r => ltB id r.id) (fun r a b => by rw [ltB_asym a] at b; cases b) (own l g)
      rw [List.length_append, List.length_append, List.length_cons, List.length_append]
      unfold ahd bhd
      omega
  · exact Nat.zero_le _
/-- two lists with the same entries of each grant are one. -/
theorem own_ext {l m : List Ky} (hl : chk l = true) (hm : chk m = true) (h : ∀ g, own l g = own m g) : l = m := by
  have key : ∀ (n : Nat) (l m : List Ky), l.length = n → chk l = true → chk m = true → (∀ g, own l g = own m g) → l = m := by
    intro n
    induction n using Nat.strongRecOn with
    | ind n ih =>
      intro l m hn hl hm h
      cases l with
      | nil =>
        cases m with
        | nil => rfl
        | cons r m =>
          have := h r.g
          have e : r ∈ own (r :: m) r.g := List.mem_filter.2 ⟨List.mem_cons_self, beq_self_eq_true _⟩
          rw [← this] at e
          cases e
      | cons r l =>
        have hle : ∀ x ∈ r :: l, r.g ≤ x.g := fun x hx => by
          rcases List.mem_cons.1 hx with rfl | hx
          · exact Nat.le_refl _
          · exact mf_le ((List.pairwise_cons.1 ((chk_iff _).1 hl).2).1 x hx)
        have hrm : r ∈ m := by
          have e : r ∈ own (r :: l) r.g := List.mem_filter.2 ⟨List.mem_cons_self, beq_self_eq_true _⟩
          rw [h r.g] at e
          exact (own_mem e).1
        have hlm : ∀ x ∈ m, r.g ≤ x.g := fun x hx => by
          have e : x ∈ own m x.g := List.mem_filter.2 ⟨hx, beq_self_eq_true _⟩
          rw [← h x.g] at e
          exact hle x (own_mem e).1
        have el : lo (r :: l) r.g = [] := List.filter_eq_nil_iff.2 (fun x hx => by have := hle x hx; simp; omega)
        have em : lo m r.g = [] := List.filter_eq_nil_iff.2 (fun x hx => by have := hlm x hx; simp; omega)
        have s1 := chk_split hl r.g
        have s2 := chk_split hm r.g
        rw [el, List.nil_append] at s1
        rw [em, List.nil_append] at s2
        have hh : hi (r :: l) r.g = hi m r.g := by
          have hpos : 0 < (own (r :: l) r.g).length := List.length_pos_of_mem (List.mem_filter.2 ⟨List.mem_cons_self, beq_self_eq_true _⟩)
          have hlen : (hi (r :: l) r.g).length < n := by
            have := congrArg List.length s1
            rw [List.length_append] at this
            omega
          have ck : ∀ {x : List Ky}, chk x = true → chk (hi x r.g) = true := fun {x} hx => by
            obtain ⟨a, b⟩ := (chk_iff x).1 hx
            exact (chk_iff _).2 ⟨fun q hq => a q (hi_mem hq).1, b.filter _⟩
          refine ih _ hlen _ _ rfl (ck hl) (ck hm) (fun g => ?_)
          have e : ∀ x : List Ky, own (hi x r.g) g = if r.g < g then own x g else [] := fun x => by
            split
            · rename_i h
              unfold own hi
              rw [List.filter_filter]
              refine List.filter_congr (fun q _ => ?_)
              rw [Bool.eq_iff_iff]
              simp
              omega
            · rename_i h
              refine List.filter_eq_nil_iff.2 (fun q hq => ?_)
              have := (hi_mem hq).2
              simp
              omega
          rw [e, e, h g]
        rw [s1, s2, h r.g, hh]
  exact key l.length l m rfl hl hm h
/-- pruned twice. -/
theorem prn_prn {l : List Ky} (h : chk l = true) (a b : Int) : prnL (prnL l a) b = prnL l (mx b a) := by
  have h2 := chk_prn l a
  have e : prnL l a = l.filter (fun r => decide (a < r.ex)) := by unfold prnL; rw [if_pos h]
  have e2 : prnL l (mx b a) = l.filter (fun r => decide (mx b a < r.ex)) := by unfold prnL; rw [if_pos h]
  have e3 : ∀ x : List Ky, chk x = true → prnL x b = x.filter (fun r => decide (b < r.ex)) := fun x hx => by unfold prnL; rw [if_pos hx]
  rw [e3 _ h2, e, e2, List.filter_filter]
  refine List.filter_congr (fun r _ => ?_)
  rw [Bool.eq_iff_iff]
  simp
  unfold mx
  split <;> omega
theorem mx_comm (a b : Int) : mx a b = mx b a := by
  unfold mx
  split <;> split <;> omega
theorem has_kill {l : List Ky} (h : chk l = true) (g : Nat) (ex : Int) (id : List UInt8) : hasL (killL l g ex) g id = true := by
  unfold hasL
  rw [chk_kill h, own_kill h, if_pos rfl]
  rfl
theorem own_prn {l : List Ky} (h : chk l = true) (g : Nat) (now : Int) : own (prnL l now) g = (own l g).filter (fun r => decide (now < r.ex)) := by
  unfold prnL own
  rw [if_pos h, List.filter_filter, List.filter_filter]
  refine List.filter_congr (fun r _ => ?_)
  rw [Bool.and_comm]
/-- a Kill at a time is gone behind a Prune at it, unless the whole grant was killed for longer. -/
theorem prn_kill {l : List Ky} (h : chk l = true) (g : Nat) (t : Int) (ht : ∀ r ∈ l, t < r.ex) (id : List UInt8) : hasL (prnL (killL l g t) t) g id = wholeIn l g := by
  unfold hasL
  rw [chk_prn, Bool.true_and, own_prn (chk_kill h g t), own_kill h, if_pos rfl]
  unfold killO
  cases hw : wholeIn l g with
  | true =>
    obtain ⟨r, e, hr, _, _, hm⟩ := own_one h hw
    have := ht r hm
    rw [e]
    have e2 : ([r].any (fun r => r.wh)) = true := by simp [hr]
    rw [e2, if_pos rfl]
    have e3 : timeOf [r] t = r.ex := by show mx r.ex t = r.ex; unfold mx; rw [if_pos (by omega)]
    rw [e3, List.filter_cons_of_pos (by simpa using this)]
    rfl
  | false =>
    have e2 : (own l g).any (fun r => r.wh) = false := hw
    rw [e2, if_neg (by decide), List.filter_cons_of_neg (by simp)]
    rfl
end Go.Proofs.YtlgjmhemgfjgnaaGreat
