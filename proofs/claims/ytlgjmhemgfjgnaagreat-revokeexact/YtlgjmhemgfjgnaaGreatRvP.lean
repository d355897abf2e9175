/- The list of what is revoked, plain: order, which rows are lists, what the calls tell of them. -/
import Derived.Test.YtlgjmhemgfjgnaaGreatKey
import Derived.Lib.Bytealg
namespace Go.Proofs.YtlgjmhemgfjgnaaGreat

/-- bytes ahead of others, byte by byte. -/
def ltB : List UInt8 → List UInt8 → Bool
  | _, [] => false
  | [], _ :: _ => true
  | a :: s, b :: t => if a = b then ltB s t else decide (a < b)
theorem ltB_cmp : ∀ (a b : List UInt8), decide (Lib.compareBytes a b < 0) = ltB a b
  | [], [] => by simp [Lib.compareBytes, ltB]
  | [], _ :: _ => by simp [Lib.compareBytes, ltB]
  | _ :: _, [] => by simp [Lib.compareBytes, ltB]
  | x :: a, y :: b => by
    unfold Lib.compareBytes ltB
    by_cases h : x = y
    · subst h
      rw [if_neg (UInt8.lt_irrefl x), if_neg (UInt8.lt_irrefl x), if_pos rfl]
      exact ltB_cmp a b
    · rw [if_neg h]
      by_cases h1 : x < y
      · rw [if_pos h1]; simp [h1]
      · rw [if_neg h1, if_pos (UInt8.lt_of_le_of_ne (UInt8.not_lt.1 h1) (Ne.symm h))]; simp [h1]
theorem ltB_irr : ∀ (a : List UInt8), ltB a a = false
  | [] => rfl
  | x :: a => by unfold ltB; rw [if_pos rfl]; exact ltB_irr a
theorem ltB_trans : ∀ {a b c : List UInt8}, ltB a b = true → ltB b c = true → ltB a c = true
  | _, [], _, h, _ => by unfold ltB at h; cases h
  | _, _ :: _, [], _, h => by unfold ltB at h; cases h
  | [], _ :: _, _ :: _, _, _ => rfl
  | x :: a, y :: b, z :: c, h, k => by
    unfold ltB at h k ⊢
    by_cases e1 : x = y
    · subst e1
      rw [if_pos rfl] at h
      by_cases e2 : x = z
      · subst e2
        rw [if_pos rfl] at k ⊢
        exact ltB_trans h k
      · rw [if_neg e2] at k ⊢
        exact k
    · rw [if_neg e1] at h
      have h' : x < y := by simpa using h
      by_cases e2 : y = z
      · subst e2
        rw [if_neg e1]
        exact h
      · rw [if_neg e2] at k
        have k' : y < z := by simpa using k
        have l : x < z := UInt8.lt_trans h' k'
        rw [if_neg (fun e => by rw [e] at l; exact UInt8.lt_irrefl _ l)]
        simpa using l
theorem ltB_tri : ∀ (a b : List UInt8), a.length = b.length → ltB a b = false → ltB b a = false → a = b
  | [], [], _, _, _ => rfl
  | x :: a, y :: b, hl, h, k => by
    unfold ltB at h k
    by_cases e : x = y
    · subst e
      rw [if_pos rfl] at h k
      rw [ltB_tri a b (by simpa using hl) h k]
    · rw [if_neg e] at h
      rw [if_neg (fun e' => e e'.symm)] at k
      have h' : ¬ x < y := by simpa using h
      have k' : ¬ y < x := by simpa using k
      exact absurd (UInt8.le_antisymm (UInt8.not_lt.1 k') (UInt8.not_lt.1 h')) e
theorem ltB_asym {a b : List UInt8} (h : ltB a b = true) : ltB b a = false := by
  cases k : ltB b a with
  | false => rfl
  | true => have := ltB_trans h k; rw [ltB_irr] at this; cases this
theorem ltB_ne {a b : List UInt8} (h : ltB a b = true) : a ≠ b := fun e => by rw [e, ltB_irr] at h; cases h

/-- may y stand next behind x? -/
def mf (x y : Ky) : Bool := if x.g = y.g then !x.wh && (!y.wh && ltB x.id y.id) else decide (x.g < y.g)
theorem mf_trans {x y z : Ky} (h : mf x y = true) (k : mf y z = true) : mf x z = true := by
  unfold mf at h k ⊢
  by_cases e1 : x.g = y.g
  · rw [if_pos e1] at h
    by_cases e2 : y.g = z.g
    · rw [if_pos e2] at k
      rw [if_pos (e1.trans e2)]
      simp only [Bool.and_eq_true] at h k ⊢
      exact ⟨h.1, k.2.1, ltB_trans h.2.2 k.2.2⟩
    · rw [if_neg e2] at k
      rw [if_neg (by rw [e1]; exact e2), e1]; exact k
  · rw [if_neg e1] at h
    have h' : x.g < y.g := by simpa using h
    by_cases e2 : y.g = z.g
    · rw [if_neg (by rw [← e2]; exact e1), ← e2]; exact h
    · rw [if_neg e2] at k
      have k' : y.g < z.g := by simpa using k
      rw [if_neg (by omega)]
      exact decide_eq_true (Nat.lt_trans h' k')
theorem mf_le {x y : Ky} (h : mf x y = true) : x.g ≤ y.g := by
  unfold mf at h
  by_cases e : x.g = y.g
  · omega
  · rw [if_neg e] at h
    have : x.g < y.g := by simpa using h
    omega
theorem mf_own {x y : Ky} (h : mf x y = true) (e : x.g = y.g) : x.wh = false ∧ y.wh = false ∧ ltB x.id y.id = true := by
  unfold mf at h
  rw [if_pos e] at h
  simp only [Bool.and_eq_true, Bool.not_eq_true'] at h
  exact h
theorem mf_lt {x y : Ky} (h : x.g < y.g) : mf x y = true := by
  unfold mf
  rw [if_neg (by omega)]
  exact decide_eq_true h
theorem mf_mk {x y : Ky} (e : x.g = y.g) (h1 : x.wh = false) (h2 : y.wh = false) (h3 : ltB x.id y.id = true) : mf x y = true := by
  unfold mf
  rw [if_pos e, h1, h2, h3]
  rfl
/-- an entry that may be: of a whole grant with a zero ID. -/
def okW (r : Ky) : Bool := !(r.wh && !(r.id == z16))
def chkF : Ky → List Ky → Bool
  | _, [] => true
  | p, r :: l => okW r && (mf p r && chkF r l)
/-- is it a list? -/
def chk : List Ky → Bool
  | [] => true
  | r :: l => okW r && chkF r l
theorem chkF_iff : ∀ (p : Ky) (l : List Ky), chkF p l = true ↔ (∀ r ∈ l, okW r = true) ∧ (∀ r ∈ l, mf p r = true) ∧ l.Pairwise (fun x y => mf x y = true)
  | p, [] => by simp [chkF]
  | p, r :: l => by
    unfold chkF
    simp only [Bool.and_eq_true, chkF_iff r l, List.pairwise_cons, List.mem_cons, forall_eq_or_imp]
    constructor
    · rintro ⟨h1, h2, h3, h4, h5⟩
      exact ⟨⟨h1, h3⟩, ⟨h2, fun x hx => mf_trans h2 (h4 x hx)⟩, h4, h5⟩
    · rintro ⟨⟨h1, h3⟩, ⟨h2, _⟩, h4, h5⟩
      exact ⟨h1, h2, h3, h4, h5⟩
theorem chk_iff (l : List Ky) : chk l = true ↔ (∀ r ∈ l, okW r = true) ∧ l.Pairwise (fun x y => mf x y = true) := by
  cases l with
  | nil => simp [chk]
  | cons r l =>
    unfold chk
    simp only [Bool.and_eq_true, chkF_iff, List.pairwise_cons, List.mem_cons, forall_eq_or_imp]
    constructor
    · rintro ⟨h1, h2, h3, h4⟩; exact ⟨⟨h1, h2⟩, h3, h4⟩
    · rintro ⟨⟨h1, h2⟩, h3, h4⟩; exact ⟨h1, h2, h3, h4⟩
/-- what is left to check from place i on. -/
def chkR (l : List Ky) (i : Nat) : Bool := if i = 0 then chk l else chkF (l.getD (i - 1) zky) (l.drop i)
theorem chkR_end (l : List Ky) (i : Nat) (h : l.length ≤ i) : chkR l i = true := by
  unfold chkR
  split
  · have : l = [] := List.eq_nil_of_length_eq_zero (by omega)
    rw [this]; rfl
  · rw [List.drop_of_length_le h]; rfl
theorem chkR_step0 (l : List Ky) (h : 0 < l.length) : chkR l 0 = (okW l[0] && chkR l 1) := by
  unfold chkR
  rw [if_pos rfl, if_neg (by decide)]
  cases l with
  | nil => simp at h
  | cons r l => rfl
theorem chkR_step (l : List Ky) (i : Nat) (h : i + 1 < l.length) : chkR l (i + 1) = (okW l[i + 1] && (mf l[i] l[i + 1] && chkR l (i + 2))) := by
  unfold chkR
  rw [if_neg (by omega), if_neg (by omega), List.drop_eq_getElem_cons h, Nat.add_sub_cancel, show i + 2 - 1 = i + 1 by omega]
  have e1 : l.getD i zky = l[i] := by rw [List.getD_eq_getElem?_getD, List.getElem?_eq_getElem (by omega)]; rfl
  have e2 : l.getD (i + 1) zky = l[i + 1] := by rw [List.getD_eq_getElem?_getD, List.getElem?_eq_getElem h]; rfl
  rw [e1, e2]
  rfl

/-- Where a test holds ahead of a place and nowhere behind. -/
theorem part {R : Ky → Ky → Prop} {p : Ky → Bool} (hR : ∀ x y, R x y → p y = true → p x = true) : ∀ (l : List Ky), l.Pairwise R →
    l.take (l.countP p) = l.filter p ∧ l.drop (l.countP p) = l.filter (fun r => !p r)
  | [], _ => ⟨rfl, rfl⟩
  | r :: l, h => by
    obtain ⟨h1, h2⟩ := List.pairwise_cons.1 h
    obtain ⟨i1, i2⟩ := part hR l h2
    cases hp : p r with
    | true =>
      rw [List.countP_cons_of_pos hp, List.filter_cons_of_pos hp, List.filter_cons_of_neg (by simp [hp]), List.take_succ_cons, List.drop_succ_cons, i1, i2]
      exact ⟨rfl, rfl⟩
    | false =>
      have hn : ∀ y ∈ l, p y = false := fun y hy => by
        cases hq : p y with
        | false => rfl
        | true => rw [hR r y (h1 y hy) hq] at hp; cases hp
      have h0 : l.countP p = 0 := List.countP_eq_zero.2 (fun y hy => by rw [hn y hy]; simp)
      rw [List.countP_cons_of_neg (by simp [hp]), h0, List.filter_cons_of_neg (by simp [hp]), List.filter_eq_nil_iff.2 (fun y hy => by rw [hn y hy]; simp), List.filter_cons_of_pos (by simp [hp]), List.filter_eq_self.2 (fun y hy => by rw [hn y hy]; rfl)]
      exact ⟨rfl, rfl⟩
theorem part_at {p : Ky → Bool} {l : List Ky} (h1 : l.take (l.countP p) = l.filter p) (h2 : l.drop (l.countP p) = l.filter (fun r => !p r)) (i : Nat) (hi : i < l.length) : p l[i] = decide (i < l.countP p) := by
  by_cases h : i < l.countP p
  · rw [decide_eq_true h]
    have : l[i] ∈ l.take (l.countP p) := List.mem_take_iff_getElem.2 ⟨i, by omega, rfl⟩
    rw [h1] at this
    exact (List.mem_filter.1 this).2
  · rw [decide_eq_false h]
    have : l[i] ∈ l.drop (l.countP p) := List.mem_drop_iff_getElem.2 ⟨i - l.countP p, by omega, by simp only [show l.countP p + (i - l.countP p) = i by omega]⟩
    rw [h2] at this
    simpa using (List.mem_filter.1 this).2

/-- the entries of smaller grants, of this one, of greater ones. -/
def lo (l : List Ky) (g : Nat) : List Ky := l.filter (fun r => decide (r.g < g))
def own (l : List Ky) (g : Nat) : List Ky := l.filter (fun r => r.g == g)
def hi (l : List Ky) (g : Nat) : List Ky := l.filter (fun r => decide (g < r.g))
theorem chk_lo {l : List Ky} (h : chk l = true) (g : Nat) : l.take (lo l g).length = lo l g ∧ l.drop (lo l g).length = own l g ++ hi l g := by
  obtain ⟨_, h2⟩ := (chk_iff l).1 h
  have e : (lo l g).length = l.countP (fun r => decide (r.g < g)) := List.countP_eq_length_filter.symm
  obtain ⟨p1, p2⟩ := part (p := fun r => decide (r.g < g)) (fun x y hxy hy => by have := mf_le hxy; simp only [decide_eq_true_eq] at hy ⊢; omega) l h2
  rw [e]
  refine ⟨p1, ?_⟩
  rw [p2]
  have hpw : (l.filter (fun r => !decide (r.g < g))).Pairwise (fun x y => mf x y = true) := h2.filter _
  obtain ⟨q1, q2⟩ := part (p := fun r => decide (r.g ≤ g)) (fun x y hxy hy => by have := mf_le hxy; simp only [decide_eq_true_eq] at hy ⊢; omega) _ hpw
  have e1 : (l.filter (fun r => !decide (r.g < g))).filter (fun r => decide (r.g ≤ g)) = own l g := by
    unfold own
    rw [List.filter_filter]
    congr 1
    funext r
    rw [Bool.eq_iff_iff]
    simp
    omega
  have e2 : (l.filter (fun r => !decide (r.g < g))).filter (fun r => !decide (r.g ≤ g)) = hi l g := by
    unfold hi
    rw [List.filter_filter]
    congr 1
    funext r
    rw [Bool.eq_iff_iff]
    simp
    omega
  rw [← e1, ← e2, ← q1, ← q2, List.take_append_drop]
theorem chk_split {l : List Ky} (h : chk l = true) (g : Nat) : l = lo l g ++ (own l g ++ hi l g) := by
  obtain ⟨h1, h2⟩ := chk_lo h g
  have := List.take_append_drop (lo l g).length l
  rw [h1, h2] at this
  exact this.symm
def wholeIn (l : List Ky) (g : Nat) : Bool := (own l g).any (fun r => r.wh)
theorem own_one {l : List Ky} (h : chk l = true) {g : Nat} (hw : wholeIn l g = true) : ∃ r, own l g = [r] ∧ r.wh = true ∧ r.g = g ∧ r.id = z16 ∧ r ∈ l := by
  obtain ⟨h1, h2⟩ := (chk_iff l).1 h
  have hp : (own l g).Pairwise (fun x y => mf x y = true) := h2.filter _
  have hg : ∀ r ∈ own l g, r.g = g ∧ r ∈ l := fun r hr => by
    obtain ⟨a, b⟩ := List.mem_filter.1 hr
    exact ⟨by simpa using b, a⟩
  unfold wholeIn at hw
  obtain ⟨r, hr, hrw⟩ := List.any_eq_true.1 hw
  have : own l g = [r] := by
    cases ho : own l g with
    | nil => rw [ho] at hr; simp at hr
    | cons a t =>
      rw [ho] at hp hr hg
      cases t with
      | nil => rw [List.mem_singleton.1 hr]
      | cons b t =>
        exfalso
        obtain ⟨p1, p2⟩ := List.pairwise_cons.1 hp
        have hab : ∀ x ∈ a :: b :: t, x.wh = false := by
          intro x hx
          rcases List.mem_cons.1 hx with rfl | hx
          · exact (mf_own (p1 b List.mem_cons_self) ((hg x List.mem_cons_self).1.trans (hg b (List.mem_cons_of_mem _ List.mem_cons_self)).1.symm)).1
          · exact (mf_own (p1 x hx) ((hg a List.mem_cons_self).1.trans (hg x (List.mem_cons_of_mem _ hx)).1.symm)).2.1
        rw [hab r hr] at hrw
        cases hrw
  refine ⟨r, this, hrw, (hg r hr).1, ?_, (hg r hr).2⟩
  have := h1 r (hg r hr).2
  unfold okW at this
  rw [hrw] at this
  simpa using this
/-- isWhole of a grant's entries. -/
def isWh (o : List Ky) : Bool := match o with | [r] => r.wh | _ => false
theorem isWh_own {l : List Ky} (h : chk l = true) (g : Nat) : isWh (own l g) = wholeIn l g := by
  cases hw : wholeIn l g with
  | true => obtain ⟨r, e, hr, _⟩ := own_one h hw; rw [e]; exact hr
  | false =>
    unfold wholeIn at hw
    unfold isWh
    split
    · rename_i r he
      rw [he] at hw
      simpa using hw
    · rfl
/-- the greater of two times. -/
def mx (a b : Int) : Int := if a > b then a else b
def ahd (o : List Ky) (id : List UInt8) : List Ky := o.filter (fun r => ltB r.id id)
def bhd (o : List Ky) (id : List UInt8) : List Ky := o.filter (fun r => ltB id r.id)
def eqs (o : List Ky) (id : List UInt8) : List Ky := o.filter (fun r => r.id == id)
theorem own_ids {l : List Ky} (hk : okL l) (h : chk l = true) (g : Nat) {id : List UInt8} (hid : id.length = 16) :
    (own l g).take (ahd (own l g) id).length = ahd (own l g) id ∧ (own l g).drop (ahd (own l g) id).length = eqs (own l g) id ++ bhd (own l g) id ∧ (eqs (own l g) id).length ≤ 1 := by
  obtain ⟨_, h2⟩ := (chk_iff l).1 h
  have hp : (own l g).Pairwise (fun x y => ltB x.id y.id = true) := (h2.filter _).imp_of_mem (fun hx hy hxy => by
    have a := (List.mem_filter.1 hx).2
    have b := (List.mem_filter.1 hy).2
    exact (mf_own hxy (by simp only [beq_iff_eq] at a b; omega)).2.2)
  have hlen : ∀ r ∈ own l g, r.id.length = 16 := fun r hr => (hk r (List.mem_filter.1 hr).1).2.1
  generalize own l g = o at *
  have e : (ahd o id).length = o.countP (fun r => ltB r.id id) := List.countP_eq_length_filter.symm
  obtain ⟨p1, p2⟩ := part (p := fun r => ltB r.id id) (fun x y hxy hy => ltB_trans hxy hy) o hp
  rw [e]
  refine ⟨p1, ?_, ?_⟩
  · rw [p2]
    have hpw : (o.filter (fun r => !ltB r.id id)).Pairwise (fun x y => ltB x.id y.id = true) := hp.filter _
    obtain ⟨q1, q2⟩ := part (p := fun r => !ltB id r.id) (fun x y hxy hy => by
      cases hx : ltB id x.id with
      | false => rfl
      | true => rw [ltB_trans hx hxy] at hy; cases hy) _ hpw
    have e1 : (o.filter (fun r => !ltB r.id id)).filter (fun r => !ltB id r.id) = eqs o id := by
      unfold eqs
      rw [List.filter_filter]
      refine List.filter_congr (fun r hr => ?_)
      rw [Bool.eq_iff_iff]
      simp only [Bool.and_eq_true, Bool.not_eq_true', beq_iff_eq]
      exact ⟨fun ⟨a, b⟩ => ltB_tri _ _ ((hlen r hr).trans hid.symm) b a, fun e => by rw [e]; exact ⟨ltB_irr _, ltB_irr _⟩⟩
    have e2 : (o.filter (fun r => !ltB r.id id)).filter (fun r => !!ltB id r.id) = bhd o id := by
      unfold bhd
      rw [List.filter_filter]
      refine List.filter_congr (fun r hr => ?_)
      rw [Bool.eq_iff_iff]
      simp only [Bool.and_eq_true, Bool.not_eq_true', Bool.not_not]
      exact ⟨fun ⟨a, b⟩ => a, fun e => ⟨e, ltB_asym e⟩⟩
    rw [← e1, ← e2, ← q1, ← q2, List.take_append_drop]
  · have hq : (eqs o id).Pairwise (fun x y => ltB x.id y.id = true) := hp.filter _
    have hm : ∀ r ∈ eqs o id, r.id = id := fun r hr => by simpa using (List.mem_filter.1 hr).2
    cases he : eqs o id with
    | nil => simp
    | cons a t =>
      rw [he] at hq hm
      cases t with
      | nil => simp
      | cons b t =>
        have := (List.pairwise_cons.1 hq).1 b List.mem_cons_self
        rw [hm a List.mem_cons_self, hm b (List.mem_cons_of_mem _ List.mem_cons_self), ltB_irr] at this
        cases this
/-- the entry's time: the greater one, if there is one. -/
def timeOf (e : List Ky) (ex : Int) : Int := match e with | [] => ex | r :: _ => mx r.ex ex
/-- Add, Kill, Has, Prune. -/
def addL (l : List Ky) (g : Nat) (id : List UInt8) (ex : Int) : List Ky :=
  if chk l = true then (if wholeIn l g = true then l else (lo l g ++ ahd (own l g) id) ++ (⟨false, g, id, timeOf (eqs (own l g) id) ex⟩ :: (bhd (own l g) id ++ hi l g))) else []
def killL (l : List Ky) (g : Nat) (ex : Int) : List Ky :=
  if chk l = true then lo l g ++ (⟨true, g, z16, if wholeIn l g = true then timeOf (own l g) ex else ex⟩ :: hi l g) else []
def hasL (l : List Ky) (g : Nat) (id : List UInt8) : Bool := chk l && (own l g).any (fun r => r.wh || r.id == id)
def prnL (l : List Ky) (now : Int) : List Ky := if chk l = true then l.filter (fun r => decide (now < r.ex)) else []
end Go.Proofs.YtlgjmhemgfjgnaaGreat
