/- The list of what is revoked, plain: order, which rows are lists, what the calls tell of them. -/
import Derived.Test.YtlgjmhemgfjgnaaGreatX00
import Derived.Lib.Bytealg
import Derived.Stop.BytesEq
namespace Go.Proofs.YtlgjmhemgfjgnaaGreat

/-- bytes ahead of others, byte by byte. -/
def ltB : List UInt8 → List UInt8 → Bool
  | _, [] => false
  | [], _ :: _ => true
  | a :: s, b :: t => if a = b then ltB s t else decide (a < b)
theorem ltB_cmp : ∀ (a b : List UInt8), decide (Lib.compareBytes a b < 0) = ltB a b
  | [], [] => by simp [Lib.compareBytes, ltB]
  | [], _ :: _ => by simp [Lib.compareBytes, ltB]
  | _ :: _, [] => by simp [Lib.compareBytes, ltB]
  | x :: a, y :: b => by
    unfold Lib.compareBytes ltB
    by_cases h : x = y
    · subst h
      rw [if_neg (UInt8.lt_irrefl x), if_neg (UInt8.lt_irrefl x), if_pos rfl]
      exact ltB_cmp a b
    · rw [if_neg h]
      by_cases h1 : x < y
      · rw [if_pos h1]; simp [h1]
      · rw [if_neg h1, if_pos (UInt8.lt_of_le_of_ne (UInt8.not_lt.1 h1) (Ne.symm h))]; simp [h1]
theorem ltB_irr : ∀ (a : List UInt8), ltB a a = false
  | [] => rfl
  | x :: a => by unfold ltB; rw [if_pos rfl]; exact ltB_irr a
theorem ltB_trans : ∀ {a b c : List UInt8}, ltB a b = true → ltB b c = true → ltB a c = true
  | _, [], _, h, _ => by unfold ltB at h; cases h
  | _, _ :: _, [], _, h => by unfold ltB at h; cases h
  | [], _ :: _, _ :: _, _, _ => rfl
  | x :: a, y :: b, z :: c, h, k => by
    unfold ltB at h k ⊢
    by_cases e1 : x = y
    · subst e1
      rw [if_pos rfl] at h
      by_cases e2 : x = z
      · subst e2
        rw [if_pos rfl] at k ⊢
        exact ltB_trans h k
      · rw [if_neg e2] at k ⊢
        exact k
    · rw [if_neg e1] at h
      have h' : x < y := by simpa using h
      by_cases e2 : y = z
      · subst e2
        rw [if_neg e1]
        exact h
      · rw [if_neg e2] at k
        have k' : y < z := by simpa using k
        have l : x < z := UInt8.lt_trans h' k'
        rw [if_neg (fun e => by rw [e] at l; exact UInt8.lt_irrefl _ l)]
        simpa using l
theorem ltB_tri : ∀ (a b : List UInt8), a.length = b.length → ltB a b = false → ltB b a = false → a = b
  | [], [], _, _, _ => rfl
  | x :: a, y :: b, hl, h, k => by
    unfold ltB at h k
    by_cases e : x = y
    · subst e
      rw [if_pos rfl] at h k
      rw [ltB_tri a b (by simpa using hl) h k]
    · rw [if_neg e] at h
      rw [if_neg (fun e' => e e'.symm)] at k
      have h' : ¬ x < y := by simpa using h
      have k' : ¬ y < x := by simpa using k
      exact absurd (UInt8.le_antisymm (UInt8.not_lt.1 k') (UInt8.not_lt.1 h')) e
theorem ltB_asym {a b : List UInt8} (h : ltB a b = true) : ltB b a = false := by
  cases k : ltB b a with
  | false => rfl
  | true => have := ltB_trans h k; rw [ltB_irr] at this; cases this
theorem ltB_ne {a b : List UInt8} (h : ltB a b = true) : a ≠ b := fun e => by rw [e, ltB_irr] at h; cases h

/-- may y stand next behind x? -/
def mf (x y : Ky) : Bool := if x.g = y.g then !x.wh && (!y.wh && ltB x.id y.id) else decide (x.g < y.g)
theorem mf_trans {x y z : Ky} (h : mf x y = true) (k : mf y z = true) : mf x z = true := by
  unfold mf at h k ⊢
  by_cases e1 : x.g = y.g
  · rw [if_pos e1] at h
    by_cases e2 : y.g = z.g
    · rw [if_pos e2] at k
      rw [if_pos (e1.trans e2)]
      simp only [Bool.and_eq_true] at h k ⊢
      exact ⟨h.1, k.2.1, ltB_trans h.2.2 k.2.2⟩
    · rw [if_neg e2] at k
      rw [if_neg (by rw [e1]; exact e2), e1]; exact k
  · rw [if_neg e1] at h
    have h' : x.g < y.g := by simpa using h
    by_cases e2 : y.g = z.g
    · rw [if_neg (by rw [← e2]; exact e1), ← e2]; exact h
    · rw [if_neg e2] at k
      have k' : y.g < z.g := by simpa using k
      rw [if_neg (by omega)]
      exact decide_eq_true (Nat.lt_trans h' k')
theorem mf_le {x y : Ky} (h : mf x y = true) : x.g ≤ y.g := by
  unfold mf at h
  by_cases e : x.g = y.g
  · omega
  · rw [if_neg e] at h
    have : x.g < y.g := by simpa using h
    omega
theorem mf_own {x y : Ky} (h : mf x y = true) (e : x.g = y.g) : x.wh = false ∧ y.wh = false ∧ ltB x.id y.id = true := by
  unfold mf at h
  rw [if_pos e] at h
  simp only [Bool.and_eq_true, Bool.not_eq_true'] at h
  exact h
theorem mf_lt {x y : Ky} (h : x.g < y.g) : mf x y = true := by
  unfold mf
  rw [if_neg (by omega)]
  exact decide_eq_true h
theorem mf_mk {x y : Ky} (e : x.g = y.g) (h1 : x.wh = false) (h2 : y.wh = false) (h3 : ltB x.id y.id = true) : mf x y = true := by
  unfold mf
  rw [if_pos e, h1, h2, h3]
  rfl
/-- an entry that may be: of a whole grant with a zero ID. -/
def okW (r : Ky) : Bool := !(r.wh && !(r.id == z16))
def chkF : Ky → List Ky → Bool
  | _, [] => true
  | p, r :: l => okW r && (mf p r && chkF r l)
/-- is it a list? -/
def chk : List Ky → Bool
  | [] => true
  | r :: l => okW r && chkF r l
theorem chkF_iff : ∀ (p : Ky) (l : List Ky), chkF p l = true ↔ (∀ r ∈ l, okW r = true) ∧ (∀ r ∈ l, mf p r = true) ∧ l.Pairwise (fun x y => mf x y = true)
  | p, [] => by simp [chkF]
  | p, r :: l => by
    unfold chkF
    simp only [Bool.and_eq_true, chkF_iff r l, List.pairwise_cons, List.mem_cons, forall_eq_or_imp]
    constructor
    · rintro ⟨h1, h2, h3, h4, h5⟩
      exact ⟨⟨h1, h3⟩, ⟨h2, fun x hx => mf_trans h2 (h4 x hx)⟩, h4, h5⟩
    · rintro ⟨⟨h1, h3⟩, ⟨h2, _⟩, h4, h5⟩
      exact ⟨h1, h2, h3, h4, h5⟩
theorem chk_iff (l : List Ky) : chk l = true ↔ (∀ r ∈ l, okW r = true) ∧ l.Pairwise (fun x y => mf x y = true) := by
  cases l with
  | nil => simp [chk]
  | cons r l =>
    unfold chk
    simp only [Bool.and_eq_true, chkF_iff, List.pairwise_cons, List.mem_cons, forall_eq_or_imp]
    constructor
    · rintro ⟨h1, h2, h3, h4⟩; exact ⟨⟨h1, h2⟩, h3, h4⟩
    · rintro ⟨⟨h1, h2⟩, h3, h4⟩; exact ⟨h1, h2, h3, h4⟩
/-- what is left to check from place i on. -/
def chkR (l : List Ky) (i : Nat) : Bool := if i = 0 then chk l else chkF (l.getD (i - 1) zky) (l.drop i)
theorem chkR_end (l : List Ky) (i : Nat) (h : l.length ≤ i) : chkR l i = true := by
  unfold chkR
  split
  · have : l = [] := List.eq_nil_of_length_eq_zero (by omega)
    rw [this]; rfl
  · rw [List.drop_of_length_le h]; rfl
theorem chkR_step0 (l : List Ky) (h : 0 < l.length) : chkR l 0 = (okW l[0] && chkR l 1) := by
  unfold chkR
  rw [if_pos rfl, if_neg (by decide)]
  cases l with
  | nil => simp at h
  | cons r l => rfl
theorem chkR_step (l : List Ky) (i : Nat) (h : i + 1 < l.length) : chkR l (i + 1) = (okW l[i + 1] && (mf l[i] l[i + 1] && chkR l (i + 2))) := by
  unfold chkR
  rw [if_neg (by omega), if_neg (by omega), List.drop_eq_getElem_cons h, Nat.add_sub_cancel, show i + 2 - 1 = i + 1 by omega]
  have e1 : l.getD i zky = l[i] := by rw [List.getD_eq_getElem?_getD, List.getElem?_eq_getElem (by omega)]; rfl
  have e2 : l.getD (i + 1) zky = l[i + 1] := by rw [List.getD_eq_getElem?_getD, List.getElem?_eq_getElem h]; rfl
  rw [e1, e2]
  rfl

/-- Where a test holds ahead of a place and nowhere behind. -/
theorem part {R : Ky → Ky → Prop} {p : Ky → Bool} (hR : ∀ x y, R x y → p y = true → p x = true) : ∀ (l : List Ky), l.Pairwise R →
    l.take (l.countP p) = l.filter p ∧ l.drop (l.countP p) = l.filter (fun r => !p r)
  | [], _ => ⟨rfl, rfl⟩
  | r :: l, h => by
    obtain ⟨h1, h2⟩ := List.pairwise_cons.1 h
    obtain ⟨i1, i2⟩ := part hR l h2
    cases hp : p r with
    | true =>
      rw [List.countP_cons_of_pos hp, List.filter_cons_of_pos hp, List.filter_cons_of_neg (by simp [hp]), List.take_succ_cons, List.drop_succ_cons, i1, i2]
      exact ⟨rfl, rfl⟩
    | false =>
      have hn : ∀ y ∈ l, p y = false := fun y hy => by
        cases hq : p y with
        | false => rfl
        | true => rw [hR r y (h1 y hy) hq] at hp; cases hp
      have h0 : l.countP p = 0 := List.countP_eq_zero.2 (fun y hy => by rw [hn y hy]; simp)
      rw [List.countP_cons_of_neg (by simp [hp]), h0, List.filter_cons_of_neg (by simp [hp]), List.filter_eq_nil_iff.2 (fun y hy => by rw [hn y hy]; simp), List.filter_cons_of_pos (by simp [hp]), List.filter_eq_self.2 (fun y hy => by rw [hn y hy]; rfl)]
      exact ⟨rfl, rfl⟩
theorem part_at {p : Ky → Bool} {l : List Ky} (h1 : l.take (l.countP p) = l.filter p) (h2 : l.drop (l.countP p) = l.filter (fun r => !p r)) (i : Nat) (hi : i < l.length) : p l[i] = decide (i < l.countP p) := by
  by_cases h : i < l.countP p
  · rw [decide_eq_true h]
    have : l[i] ∈ l.take (l.countP p) := List.mem_take_iff_getElem.2 ⟨i, by omega, rfl⟩
    rw [h1] at this
    exact (List.mem_filter.1 this).2
  · rw [decide_eq_false h]
    have : l[i] ∈ l.drop (l.countP p) := List.mem_drop_iff_getElem.2 ⟨i - l.countP p, by omega, by simp only [show l.countP p + (i - l.countP p) = i by omega]⟩
    rw [h2] at this
    simpa using (List.mem_filter.1 this).2

/-- the entries of smaller grants, of this one, of greater ones. -/
def lo (l : List Ky) (g : Nat) : List Ky := l.filter (fun r => decide (r.g < g))
def own (l : List Ky) (g : Nat) : List Ky := l.filter (fun r => r.g == g)
def hi (l : List Ky) (g : Nat) : List Ky := l.filter (fun r => decide (g < r.g))
theorem chk_lo {l : List Ky} (h : chk l = true) (g : Nat) : l.take (lo l g).length = lo l g ∧ l.drop (lo l g).length = own l g ++ hi l g := by
  obtain ⟨_, h2⟩ := (chk_iff l).1 h
  have e : (lo l g).length = l.countP (fun r => decide (r.g < g)) := List.countP_eq_length_filter.symm
  obtain ⟨p1, p2⟩ := part (p := fun r => decide (r.g < g)) (fun x y hxy hy => by have := mf_le hxy; simp only [decide_eq_true_eq] at hy ⊢; omega) l h2
  rw [e]
  refine ⟨p1, ?_⟩
  rw [p2]
  have hpw : (l.filter (fun r => !decide (r.g < g))).Pairwise (fun x y => mf x y = true) := h2.filter _
  obtain ⟨q1, q2⟩ := part (p := fun r => decide (r.g ≤ g)) (fun x y hxy hy => by have := mf_le hxy; simp only [decide_eq_true_eq] at hy ⊢; omega) _ hpw
  have e1 : (l.filter (fun r => !decide (r.g < g))).filter (fun r => decide (r.g ≤ g)) = own l g := by
    unfold own
    rw [List.filter_filter]
    congr 1
    funext r
    rw [Bool.eq_iff_iff]
    simp
    omega
  have e2 : (l.filter (fun r => !decide (r.g < g))).filter (fun r => !decide (r.g ≤ g)) = hi l g := by
    unfold hi
    rw [List.filter_filter]
    congr 1
    funext r
    rw [Bool.eq_iff_iff]
    simp
    omega
  rw [← e1, ← e2, ← q1, ← q2, List.take_append_drop]
theorem chk_split {l : List Ky} (h : chk l = true) (g : Nat) : l = lo l g ++ (own l g ++ hi l g) := by
  obtain ⟨h1, h2⟩ := chk_lo h g
  have := List.take_append_drop (lo l g).length l
  rw [h1, h2] at this
  exact this.symm
def wholeIn (l : List Ky) (g : Nat) : Bool := (own l g).any (fun r => r.wh)
theorem own_one {l : List Ky} (h : chk l = true) {g : Nat} (hw : wholeIn l g = true) : ∃ r, own l g = [r] ∧ r.wh = true ∧ r.g = g ∧ r.id = z16 ∧ r ∈ l := by
  obtain ⟨h1, h2⟩ := (chk_iff l).1 h
  have hp : (own l g).Pairwise (fun x y => mf x y = true) := h2.filter _
  have hg : ∀ r ∈ own l g, r.g = g ∧ r ∈ l := fun r hr => by
    obtain ⟨a, b⟩ := List.mem_filter.1 hr
    exact ⟨by simpa using b, a⟩
  unfold wholeIn at hw
  obtain ⟨r, hr, hrw⟩ := List.any_eq_true.1 hw
  have : own l g = [r] := by
    cases ho : own l g with
    | nil => rw [ho] at hr; simp at hr
    | cons a t =>
      rw [ho] at hp hr hg
      cases t with
      | nil => rw [List.mem_singleton.1 hr]
      | cons b t =>
        exfalso
        obtain ⟨p1, p2⟩ := List.pairwise_cons.1 hp
        have hab : ∀ x ∈ a :: b :: t, x.wh = false := by
          intro x hx
          rcases List.mem_cons.1 hx with rfl | hx
          · exact (mf_own (p1 b List.mem_cons_self) ((hg x List.mem_cons_self).1.trans (hg b (List.mem_cons_of_mem _ List.mem_cons_self)).1.symm)).1
          · exact (mf_own (p1 x hx) ((hg a List.mem_cons_self).1.trans (hg x (List.mem_cons_of_mem _ hx)).1.symm)).2.1
        rw [hab r hr] at hrw
        cases hrw
  refine ⟨r, this, hrw, (hg r hr).1, ?_, (hg r hr).2⟩
  have := h1 r (hg r hr).2
  unfold okW at this
  rw [hrw] at this
  simpa using this
/-- isWhole of a grant's entries. -/
def isWh (o : List Ky) : Bool := match o with | [r] => r.wh | _ => false
theorem isWh_own {l : List Ky} (h : chk l = true) (g : Nat) : isWh (own l g) = wholeIn l g := by
  cases hw : wholeIn l g with
  | true => obtain ⟨r, e, hr, _⟩ := own_one h hw; rw [e]; exact hr
  | false =>
    unfold wholeIn at hw
    unfold isWh
    split
    · rename_i r he
      rw [he] at hw
      simpa using hw
    · rfl
/-- the greater of two times. -/
def mx (a b : Int) : Int := if a > b then a else b
def ahd (o : List Ky) (id : List UInt8) : List Ky := o.filter (fun r => ltB r.id id)
def bhd (o : List Ky) (id : List UInt8) : List Ky := o.filter (fun r => ltB id r.id)
def eqs (o : List Ky) (id : List UInt8) : List Ky := o.filter (fun r => r.id == id)
theorem own_ids {l : List Ky} (hk : okL l) (h : chk l = true) (g : Nat) {id : List UInt8} (hid : id.length = 16) :
    (own l g).take (ahd (own l g) id).length = ahd (own l g) id ∧ (own l g).drop (ahd (own l g) id).length = eqs (own l g) id ++ bhd (own l g) id ∧ (eqs (own l g) id).length ≤ 1 := by
  obtain ⟨_, h2⟩ := (chk_iff l).1 h
  have hp : (own l g).Pairwise (fun x y => ltB x.id y.id = true) := (h2.filter _).imp_of_mem (fun hx hy hxy => by
    have a := (List.mem_filter.1 hx).2
    have b := (List.mem_filter.1 hy).2
    exact (mf_own hxy (by simp only [beq_iff_eq] at a b; omega)).2.2)
  have hlen : ∀ r ∈ own l g, r.id.length = 16 := fun r hr => (hk r (List.mem_filter.1 hr).1).2.1
  generalize own l g = o at *
  have e : (ahd o id).length = o.countP (fun r => ltB r.id id) := List.countP_eq_length_filter.symm
  obtain ⟨p1, p2⟩ := part (p := fun r => ltB r.id id) (fun x y hxy hy => ltB_trans hxy hy) o hp
  rw [e]
  refine ⟨p1, ?_, ?_⟩
  · rw [p2]
    have hpw : (o.filter (fun r => !ltB r.id id)).Pairwise (fun x y => ltB x.id y.id = true) := hp.filter _
    obtain ⟨q1, q2⟩ := part (p := fun r => !ltB id r.id) (fun x y hxy hy => by
      cases hx : ltB id x.id with
      | false => rfl
      | true => rw [ltB_trans hx hxy] at hy; cases hy) _ hpw
    have e1 : (o.filter (fun r => !ltB r.id id)).filter (fun r => !ltB id r.id) = eqs o id := by
      unfold eqs
      rw [List.filter_filter]
      refine List.filter_congr (fun r hr => ?_)
      rw [Bool.eq_iff_iff]
      simp only [Bool.and_eq_true, Bool.not_eq_true', beq_iff_eq]
      exact ⟨fun ⟨a, b⟩ => ltB_tri _ _ ((hlen r hr).trans hid.symm) b a, fun e => by rw [e]; exact ⟨ltB_irr _, ltB_irr _⟩⟩
    have e2 : (o.filter (fun r => !ltB r.id id)).filter (fun r => !!ltB id r.id) = bhd o id := by
      unfold bhd
      rw [List.filter_filter]
      refine List.filter_congr (fun r hr => ?_)
      rw [Bool.eq_iff_iff]
      simp only [Bool.and_eq_true, Bool.not_eq_true', Bool.not_not]
      exact ⟨fun ⟨a, b⟩ => a, fun e => ⟨e, ltB_asym e⟩⟩
    rw [← e1, ← e2, ← q1, ← q2, List.take_append_drop]
  · have hq : (eqs o id).Pairwise (fun x y => ltB x.id y.id = true) := hp.filter _
    have hm : ∀ r ∈ eqs o id, r.id = id := fun r hr => by simpa using (List.mem_filter.1 hr).2
    cases he : eqs o id with
    | nil => simp
    | cons a t =>
      rw [he] at hq hm
      cases t with
      | nil => simp
      | cons b t =>
        have := (List.pairwise_cons.1 hq).1 b List.mem_cons_self
        rw [hm a List.mem_cons_self, hm b (List.mem_cons_of_mem _ List.mem_cons_self), ltB_irr] at this
        cases this
/-- the entry's time: the greater one, if there is one. -/
def timeOf (e : List Ky) (ex : Int) : Int := match e with | [] => ex | r :: _ => mx r.ex ex
/-- Add, Kill, Has, Prune. -/
def addL (l : List Ky) (g : Nat) (id : List UInt8) (ex : Int) : List Ky :=
  if chk l = true then (if wholeIn l g = true then l else (lo l g ++ ahd (own l g) id) ++ (⟨false, g, id, timeOf (eqs (own l g) id) ex⟩ :: (bhd (own l g) id ++ hi l g))) else []
def killL (l : List Ky) (g : Nat) (ex : Int) : List Ky :=
  if chk l = true then lo l g ++ (⟨true, g, z16, if wholeIn l g = true then timeOf (own l g) ex else ex⟩ :: hi l g) else []
def hasL (l : List Ky) (g : Nat) (id : List UInt8) : Bool := chk l && (own l g).any (fun r => r.wh || r.id == id)
def prnL (l : List Ky) (now : Int) : List Ky := if chk l = true then l.filter (fun r => decide (now < r.ex)) else []
end Go.Proofs.YtlgjmhemgfjgnaaGreat

namespace Go.Proofs.YtlgjmhemgfjgnaaGreat
open Go Go.RowKit
open Go.RowKit (wrap32 wrap64)

theorem cell_lt {w : World} {b o : Nat} {v : Value} (h : w.cell? ⟨b, o, none⟩ = some v) : b < w.heap.size := by
  rcases Nat.lt_or_ge b w.heap.size with h1 | h1
  · exact h1
  · simp [World.cell?, Array.getElem?_eq_none h1] at h
set_option maxRecDepth 100000 in
set_option maxHeartbeats 800000 in
/-- span's first test. -/
theorem lt_g (w : World) (k : Ky) (p g : Nat) (hp : w.cell? ⟨p, 0, none⟩ = some (.int .u64 g)) :
    Calls Tryz.prog 76 #[.agg k.cells.toArray, .pointer (some ⟨p, 0, none⟩)] w fun e w' => e = .returned (.bool (decide (k.g < g))) ∧ w.grownBy w' none := by
  have hpl : p < w.heap.size := cell_lt hp
  have HP := hid hp
  have hc0 := fun (u : World) (B : Nat) (h : Blk u B k.cells 85) => (by rw [h.cell]; exact Ky.c1 _ : u.cell? ⟨B, 1, none⟩ = some (.int .u64 k.g))
  obtain ⟨K, HK⟩ : ∃ K, Hid (k.cells = K) := ⟨_, hid rfl⟩
  obtain ⟨x, HX⟩ : ∃ x, Hid (k.g = x) := ⟨_, hid rfl⟩
  rw [HK.out, HX.out] at hc0
  rw [HK.out, HX.out]
  have HC0 := hid hc0
  have e0 : decide ((x : Int) < (g : Int)) = decide (x < g) := by rw [Bool.eq_iff_iff]; simp
  have HE0 := hid e0
  clear hc0 e0 hp
  go_enter Tryz.func76, Tryz.ntmps76
  go_wp2_with (with_reducible refine wpList_box_row (by with_unfolding_all rfl) 85 _ (by with_unfolding_all rfl) K (by with_unfolding_all rfl) ?_; intro w1 B1 s1 g1; have HB1 := hid B1; have HG1 := hid g1; have HS1 := hid s1; clear B1 g1 s1; have y0 := HC0.out _ _ HB1.out; have y1 := (cell_at HG1.out hpl (by simp)).trans HP.out)
  go_ret
  exact ⟨by first | rfl | (rw [← HE0.out]), HG1.out⟩
set_option maxRecDepth 100000 in
set_option maxHeartbeats 800000 in
/-- span's second test. -/
theorem eq_g (w : World) (k : Ky) (p g : Nat) (hp : w.cell? ⟨p, 0, none⟩ = some (.int .u64 g)) :
    Calls Tryz.prog 77 #[.agg k.cells.toArray, .pointer (some ⟨p, 0, none⟩)] w fun e w' => e = .returned (.bool (k.g == g)) ∧ w.grownBy w' none := by
  have hpl : p < w.heap.size := cell_lt hp
  have HP := hid hp
  have hc0 := fun (u : World) (B : Nat) (h : Blk u B k.cells 85) => (by rw [h.cell]; exact Ky.c1 _ : u.cell? ⟨B, 1, none⟩ = some (.int .u64 k.g))
  obtain ⟨K, HK⟩ : ∃ K, Hid (k.cells = K) := ⟨_, hid rfl⟩
  obtain ⟨x, HX⟩ : ∃ x, Hid (k.g = x) := ⟨_, hid rfl⟩
  rw [HK.out, HX.out] at hc0
  rw [HK.out, HX.out]
  have HC0 := hid hc0
  have e0 : ((x : Int) == (g : Int)) = (x == g) := by rw [Bool.eq_iff_iff]; simp only [beq_iff_eq]; omega
  have HE0 := hid e0
  clear hc0 e0 hp
  go_enter Tryz.func77, Tryz.ntmps77
  go_wp2_with (with_reducible refine wpList_box_row (by with_unfolding_all rfl) 85 _ (by with_unfolding_all rfl) K (by with_unfolding_all rfl) ?_; intro w1 B1 s1 g1; have HB1 := hid B1; have HG1 := hid g1; have HS1 := hid s1; clear B1 g1 s1; have y0 := HC0.out _ _ HB1.out; have y1 := (cell_at HG1.out hpl (by simp)).trans HP.out)
  go_ret
  exact ⟨by rw [← HE0.out]; rfl, HG1.out⟩
set_option maxRecDepth 100000 in
set_option maxHeartbeats 800000 in
/-- Prune's test. -/
theorem le_ex (w : World) (k : Ky) (p : Nat) (now : Int) (hk : k.id.length = 16) (hp : w.cell? ⟨p, 0, none⟩ = some (.int .i64 now)) :
    Calls Tryz.prog 41 #[.agg k.cells.toArray, .pointer (some ⟨p, 0, none⟩)] w fun e w' => e = .returned (.bool (decide (k.ex ≤ now))) ∧ w.grownBy w' none := by
  have hpl : p < w.heap.size := cell_lt hp
  have HP := hid hp
  have hc0 := fun (u : World) (B : Nat) (h : Blk u B k.cells 85) => (by rw [h.cell]; exact Ky.c18 hk : u.cell? ⟨B, 18, none⟩ = some (.int .i64 k.ex))
  obtain ⟨K, HK⟩ : ∃ K, Hid (k.cells = K) := ⟨_, hid rfl⟩
  obtain ⟨x, HX⟩ : ∃ x, Hid (k.ex = x) := ⟨_, hid rfl⟩
  rw [HK.out, HX.out] at hc0
  rw [HK.out, HX.out]
  have HC0 := hid hc0
  clear hc0 hp
  go_enter Tryz.func41, Tryz.ntmps41
  go_wp2_with (with_reducible refine wpList_box_row (by with_unfolding_all rfl) 85 _ (by with_unfolding_all rfl) K (by with_unfolding_all rfl) ?_; intro w1 B1 s1 g1; have HB1 := hid B1; have HG1 := hid g1; have HS1 := hid s1; clear B1 g1 s1; have y0 := HC0.out _ _ HB1.out; have y1 := (cell_at HG1.out hpl (by simp)).trans HP.out)
  go_ret
  exact ⟨rfl, HG1.out⟩
end Go.Proofs.YtlgjmhemgfjgnaaGreat

namespace Go.Proofs.YtlgjmhemgfjgnaaGreat
open Go Go.RowKit
open Go.RowKit (wrap32 wrap64)

theorem part_cell (t : TypeId) (cs : List Value) (off : Nat) (v : Value) (u : World) (hn : (isAgg t).run Tryz.prog u = .ok false u) (h : cs[off]? = some v) : (part t cs.toArray off).run Tryz.prog u = .ok v u := by
  unfold part
  rw [Sem.run_bind, hn]
  simp [h]
theorem agg4 (u : World) : (isAgg 4).run Tryz.prog u = .ok false u := by kernel_rfl
theorem agg25 (u : World) : (isAgg 67).run Tryz.prog u = .ok false u := by kernel_rfl
theorem agg2 (u : World) : (isAgg 2).run Tryz.prog u = .ok false u := by kernel_rfl
theorem agg27 (u : World) : (isAgg 69).run Tryz.prog u = .ok true u := by kernel_rfl
theorem sz27 (u : World) : (sizeOf 69).run Tryz.prog u = .ok 16 u := by kernel_rfl
theorem part_id {k : Ky} (hk : k.id.length = 16) (u : World) : (part 69 k.cells.toArray 2).run Tryz.prog u = .ok (.agg (Lib.byteCells k.id).toArray) u := by
  unfold part
  rw [Sem.run_bind, agg27]
  simp only [Result.andThen_ok, if_true, Sem.run_bind, sz27, Sem.run_pure]
  congr 2
  have : (Lib.byteCells k.id).length = 16 := by rw [byteCells_length, hk]
  unfold Ky.cells
  simp [this]
theorem fields48 : (Tryz.prog.fieldsOf 85).toList.map (fun f => (f.name, f.type, f.offset)) = [("Whole", 4, 0), ("Grant", 67, 1), ("ID", 69, 2), ("Exp", 2, 18)] := by kernel_rfl
theorem ky_eq {k q : Ky} : (k == q) = ((k.wh == q.wh) && ((k.g == q.g) && ((k.id == q.id) && (k.ex == q.ex)))) := by
  rw [Bool.eq_iff_iff]
  simp only [beq_iff_eq, Bool.and_eq_true]
  constructor
  · rintro rfl; exact ⟨rfl, rfl, rfl, rfl⟩
  · rintro ⟨h1, h2, h3, h4⟩
    obtain ⟨a, b, c, d⟩ := k
    obtain ⟨a', b', c', d'⟩ := q
    simp only at h1 h2 h3 h4
    rw [h1, h2, h3, h4]
theorem equal_key {k q : Ky} (hk : k.id.length = 16) (hq : q.id.length = 16) (u : World) : (Op.equalIn 10000 85 (.agg k.cells.toArray) (.agg q.cells.toArray)).run Tryz.prog u = .ok (k == q) u := by
  rw [show 10000 = 9999 + 1 from rfl, run_equalIn_struct u 9999 85 _ _ Tryz.under48 (by kernel_rfl)]
  obtain ⟨f0, f1, f2, f3, hf⟩ : ∃ f0 f1 f2 f3, (Tryz.prog.fieldsOf 85).toList = [f0, f1, f2, f3] := by
    have := congrArg List.length fields48
    match h : (Tryz.prog.fieldsOf 85).toList with
    | [a, b, c, d] => exact ⟨a, b, c, d, rfl⟩
    | [] => rw [h] at this; simp at this
    | [_] => rw [h] at this; simp at this
    | [_, _] => rw [h] at this; simp at this
    | [_, _, _] => rw [h] at this; simp at this
    | _ :: _ :: _ :: _ :: _ :: _ => rw [h] at this; simp at this
  have hm := fields48
  rw [hf] at hm
  simp only [List.map_cons, List.map_nil, List.cons.injEq, Prod.mk.injEq, and_true] at hm
  obtain ⟨⟨n0, t0, o0⟩, ⟨n1, t1, o1⟩, ⟨n2, t2, o2⟩, ⟨n3, t3, o3⟩⟩ := hm
  rw [hf, ky_eq]
  unfold Op.eqFields
  rw [n0, t0, o0, if_pos (by decide)]
  simp only [Sem.run_bind, part_cell 4 _ 0 _ u (agg4 u) (Ky.c0 k), part_cell 4 _ 0 _ u (agg4 u) (Ky.c0 q), Result.andThen_ok, show 9999 = 9998 + 1 from rfl, run_equalIn_bool u 9998 4 _ _ Tryz.underlying4]
  cases h0 : (k.wh == q.wh) with
  | false => simp
  | true =>
    simp only [Bool.not_true, Bool.false_eq_true, if_false, Bool.true_and]
    unfold Op.eqFields
    rw [n1, t1, o1, if_pos (by decide)]
    simp only [Sem.run_bind, part_cell 67 _ 1 _ u (agg25 u) (Ky.c1 k), part_cell 67 _ 1 _ u (agg25 u) (Ky.c1 q), Result.andThen_ok, run_equalIn_int u 9998 67 .u64 .u64 _ _ Tryz.underlying67]
    have e0 : ((k.g : Int) == (q.g : Int)) = (k.g == q.g) := by
      rw [Bool.eq_iff_iff]; simp only [beq_iff_eq]; omega
    rw [e0]
    cases h1 : (k.g == q.g) with
    | false => simp
    | true =>
      simp only [Bool.not_true, Bool.false_eq_true, if_false, Bool.true_and]
      unfold Op.eqFields
      rw [n2, t2, o2, if_pos (by decide)]
      simp only [Sem.run_bind, part_id hk, part_id hq, Result.andThen_ok]
      have hb : (Op.equalIn (9998 + 1) 69 (.agg (Lib.byteCells k.id).toArray) (.agg (Lib.byteCells q.id).toArray)).run Tryz.prog u = .ok (k.id == q.id) u := run_equalIn_bytes u 9997 69 5 16 Tryz.underlying69 Tryz.underlying5 (fun u => by kernel_rfl) k.id q.id hk hq
      rw [hb]
      simp only [Result.andThen_ok]
      cases h2 : (k.id == q.id) with
      | false => simp
      | true =>
        simp only [Bool.not_true, Bool.false_eq_true, if_false, Bool.true_and]
        unfold Op.eqFields
        rw [n3, t3, o3, if_pos (by decide)]
        simp only [Sem.run_bind, part_cell 2 _ 18 _ u (agg2 u) (Ky.c18 hk), part_cell 2 _ 18 _ u (agg2 u) (Ky.c18 hq), Result.andThen_ok, run_equalIn_int u 9998 2 .i64 .i64 _ _ Tryz.underlying2]
        cases h3 : (k.ex == q.ex) with
        | false => simp
        | true => simp [Op.eqFields]
theorem eqG (op : BinOp) (xs ys : Array Value) {x y : Operand} (u : World) : (do eqGuard op 85 x y (.agg xs) (.agg ys); binOp op 85 (.agg xs) (.agg ys) : Sem Value).run Tryz.prog u = (binOp op 85 (.agg xs) (.agg ys)).run Tryz.prog u := by
  rw [Sem.run_bind, run_eqGuard_agg u op 85 x y _ _ (by kernel_rfl)]
  rfl
theorem eql_key {k q : Ky} (hk : k.id.length = 16) (hq : q.id.length = 16) {x y : Operand} (u : World) : (do eqGuard .eql 85 x y (.agg k.cells.toArray) (.agg q.cells.toArray); binOp .eql 85 (.agg k.cells.toArray) (.agg q.cells.toArray) : Sem Value).run Tryz.prog u = .ok (.bool (k == q)) u := by
  rw [eqG, run_eql_struct, equal_key hk hq]
  rfl
theorem neq_key {k q : Ky} (hk : k.id.length = 16) (hq : q.id.length = 16) {x y : Operand} (u : World) : (do eqGuard .neq 85 x y (.agg k.cells.toArray) (.agg q.cells.toArray); binOp .neq 85 (.agg k.cells.toArray) (.agg q.cells.toArray) : Sem Value).run Tryz.prog u = .ok (.bool (!(k == q))) u := by
  rw [eqG, run_neq_struct, equal_key hk hq]
  rfl
set_option maxRecDepth 100000 in
theorem eql_id (D E : List UInt8) (hD : D.length = 16) (hE : E.length = 16) {x y : Operand} (u : World) : (do eqGuard .eql 69 x y (.agg (Lib.byteCells D).toArray) (.agg (Lib.byteCells E).toArray); binOp .eql 69 (.agg (Lib.byteCells D).toArray) (.agg (Lib.byteCells E).toArray) : Sem Value).run Tryz.prog u = .ok (.bool (D == E)) u := by
  rw [Sem.run_bind, run_eqGuard_agg u .eql 69 x y _ _ (by kernel_rfl)]
  exact run_eql_bytes (P := Tryz.prog) u 69 5 16 Tryz.underlying69 Tryz.underlying5 (fun u => by kernel_rfl) D E hD hE
set_option maxRecDepth 100000 in
theorem neq_id (D E : List UInt8) (hD : D.length = 16) (hE : E.length = 16) {x y : Operand} (u : World) : (do eqGuard .neq 69 x y (.agg (Lib.byteCells D).toArray) (.agg (Lib.byteCells E).toArray); binOp .neq 69 (.agg (Lib.byteCells D).toArray) (.agg (Lib.byteCells E).toArray) : Sem Value).run Tryz.prog u = .ok (.bool (!(D == E))) u := by
  rw [Sem.run_bind, run_eqGuard_agg u .neq 69 x y _ _ (by kernel_rfl)]
  have hb : (Op.equalIn (9998 + 2) 69 (.agg (Lib.byteCells D).toArray) (.agg (Lib.byteCells E).toArray)).run Tryz.prog u = .ok (D == E) u := run_equalIn_bytes u 9998 69 5 16 Tryz.underlying69 Tryz.underlying5 (fun u => by kernel_rfl) D E hD hE
  show (binOp .neq 69 _ _).run Tryz.prog u = _
  rw [run_neq_struct, hb]
  rfl
theorem wpList_bin {P : Program} {ops : Array Oper} {rest : List Oper} {o : Oper} {a : Act} {w : World} {Q : Exit → Act → World → Prop} (hgd : o.guard = none) (op : BinOp) (t : TypeId) (x y : Operand) (ty : TypeId) (ho : o.op = .binOp op t x y ty) (vx vy v : Value) (hx : a.eval x = vx) (hy : a.eval y = vy) (hr : (do eqGuard op t x y vx vy; binOp op t vx vy : Sem Value).run P w = .ok v w)
    (h : wpList P ops Q rest (a.put o.dst v) w) : wpList P ops Q (o :: rest) a w :=
  wpList_plain hgd fun _ hK => by
    subst hx hy
    unfold Oper.wp execOp
    simp only [ho]
    rw [Sem.run_bind, hr]
    exact hK _ _ h
theorem wpList_fd {P : Program} {ops : Array Oper} {rest : List Oper} {o : Oper} {a : Act} {w : World} {Q : Exit → Act → World → Prop} (hgd : o.guard = none) (t : TypeId) (x : Operand) (i : Nat) (ho : o.op = .field t x i) (vx v : Value) (hx : a.eval x = vx) (hr : (Instr.field t vx i).run P w = .ok v w)
    (h : wpList P ops Q rest (a.put o.dst v) w) : wpList P ops Q (o :: rest) a w :=
  wpList_plain hgd fun _ hK => by
    subst hx
    unfold Oper.wp execOp
    simp only [ho]
    rw [Sem.run_bind, hr]
    exact hK _ _ h
end Go.Proofs.YtlgjmhemgfjgnaaGreat
