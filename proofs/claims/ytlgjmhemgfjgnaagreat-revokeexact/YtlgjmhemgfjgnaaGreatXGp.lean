/- The reference's Add, plain. -/
import Derived.Test.YtlgjmhemgfjgnaaGreatXF
import Derived.Test.YtlgjmhemgfjgnaaGreatXD
import Derived.Test.YtlgjmhemgfjgnaaGreatX04
namespace Go.Proofs.YtlgjmhemgfjgnaaGreat
open Go Go.RowKit
open Go.RowKit (wrap32 wrap64)

theorem kcs_set18 : ∀ (l : List Ky), (∀ k ∈ l, k.id.length = 16) → ∀ (i : Nat) (h : i < l.length) (t : Int), (kcs l).set (i * 19 + 18) (.int .i64 t) = kcs (l.set i ⟨l[i].wh, l[i].g, l[i].id, t⟩)
  | [], _, i, h, _ => absurd h (Nat.not_lt_zero _)
  | r :: l, hk, 0, _, t => by
    have hr := hk r List.mem_cons_self
    rw [kcs_cons, List.set_append_left _ _ (by rw [Ky.cells_length hr]; omega), show 0 * 19 + 18 = 18 by omega, Ky.set18 hr]
    rfl
  | r :: l, hk, i + 1, h, t => by
    have hr := hk r List.mem_cons_self
    have hi : i < l.length := by simpa using h
    rw [kcs_cons, List.set_append_right _ _ (by rw [Ky.cells_length hr]; omega), Ky.cells_length hr, show (i + 1) * 19 + 18 - 19 = i * 19 + 18 by omega, kcs_set18 l (fun k hk' => hk k (List.mem_cons_of_mem _ hk')) i hi t]
    rfl
theorem any_false_mem {l : List Ky} {p : Ky → Bool} (h : l.any p = false) {r : Ky} (hr : r ∈ l) : p r = false := by
  have := List.any_eq_false.1 h r hr
  simpa using this
theorem add_parts {l : List Ky} (hk : okL l) (h : chk l = true) (g : Nat) {D : List UInt8} (hD : D.length = 16) : l = (lo l g ++ ahd (own l g) D) ++ (eqs (own l g) D ++ (bhd (own l g) D ++ hi l g)) := by
  obtain ⟨p1, p2, _⟩ := own_ids hk h g hD
  have e : own l g = ahd (own l g) D ++ (eqs (own l g) D ++ bhd (own l g) D) := by
    conv => lhs; rw [← List.take_append_drop (ahd (own l g) D).length (own l g), p1, p2]
  have s := chk_split h g
  conv => lhs; rw [s, e]
  simp only [List.append_assoc]
theorem ahd_mem {o : List Ky} {D : List UInt8} {r : Ky} (h : r ∈ ahd o D) : r ∈ o ∧ ltB r.id D = true := List.mem_filter.1 h
theorem bhd_mem {o : List Ky} {D : List UInt8} {r : Ky} (h : r ∈ bhd o D) : r ∈ o ∧ ltB D r.id = true := List.mem_filter.1 h
theorem eqs_mem {o : List Ky} {D : List UInt8} {r : Ky} (h : r ∈ eqs o D) : r ∈ o ∧ r.id = D := by
  obtain ⟨a, b⟩ := List.mem_filter.1 h
  exact ⟨a, by simpa using b⟩
theorem add_b {l : List Ky} (h : chk l = true) (g : Nat) (D : List UInt8) (ex : Int) (i : Nat) (hi : i < l.length) (hg : l[i].g = g) (hw : l[i].wh = true) : addL l g D ex = l := by
  unfold addL
  have : wholeIn l g = true := by
    unfold wholeIn own
    rw [List.any_filter]
    exact List.any_eq_true.2 ⟨l[i], List.getElem_mem hi, by simp [hg, hw]⟩
  rw [if_pos h, if_pos this]
theorem add_a {l : List Ky} (hk : okL l) (h : chk l = true) (g : Nat) {D : List UInt8} (hD : D.length = 16) (ex : Int) (ha : l.any (hasP g D) = false) : layL ⟨false, g, D, ex⟩ false l = addL l g D ex := by
  have hn : ∀ r ∈ own l g, r.wh = false ∧ r.id ≠ D := fun r hr => by
    obtain ⟨q1, q2⟩ := own_mem hr
    have := any_false_mem ha q1
    unfold hasP at this
    rw [q2, beq_self_eq_true, Bool.true_and, Bool.or_eq_false_iff] at this
    exact ⟨this.1, by simpa using this.2⟩
  have hw : wholeIn l g = false := by
    unfold wholeIn
    exact List.any_eq_false.2 (fun r hr => by rw [(hn r hr).1]; decide)
  have he : eqs (own l g) D = [] := List.filter_eq_nil_iff.2 (fun r hr => by simpa using (hn r hr).2)
  have s := add_parts hk h g hD
  rw [he, List.nil_append] at s
  unfold addL
  rw [if_pos h, hw, if_neg (by decide), he]
  conv => lhs; rw [s]
  refine lay_split _ _ _ (fun r hr => ?_) (fun r hr => ?_)
  · rcases List.mem_append.1 hr with q | q
    · exact ahd2_gt (lo_mem q).2
    · obtain ⟨q1, q2⟩ := ahd_mem q
      unfold ahd2
      rw [if_pos (own_mem q1).2.symm]
      exact ltB_asym q2
  · rcases List.mem_append.1 hr with q | q
    · obtain ⟨q1, q2⟩ := bhd_mem q
      unfold ahd2
      rw [if_pos (own_mem q1).2.symm]
      exact q2
    · exact ahd2_lt (hi_mem q).2
theorem add_c {l : List Ky} (hk : okL l) (h : chk l = true) (g : Nat) {D : List UInt8} (hD : D.length = 16) (ex : Int) (i : Nat) (hi' : i < l.length) (hb : (l.take i).any (hasP g D) = false) (hg : l[i].g = g) (hw : l[i].wh = false) (hd : l[i].id = D) :
    l.set i ⟨l[i].wh, l[i].g, l[i].id, mx ex l[i].ex⟩ = addL l g D ex := by
  obtain ⟨r, hr⟩ : ∃ r, r = l[i] := ⟨_, rfl⟩
  rw [← hr] at hg hw hd ⊢
  have hro : r ∈ own l g := List.mem_filter.2 ⟨by rw [hr]; exact List.getElem_mem hi', by simp [hg]⟩
  have hre : r ∈ eqs (own l g) D := List.mem_filter.2 ⟨hro, by simp [hd]⟩
  have hnw : wholeIn l g = false := by
    cases q : wholeIn l g with
    | false => rfl
    | true =>
      obtain ⟨r', e, hr', _⟩ := own_one h q
      rw [e] at hro
      rw [List.mem_singleton.1 hro, hr'] at hw
      cases hw
  have hE : eqs (own l g) D = [r] := by
    have := (own_ids hk h g hD).2.2
    match hx : eqs (own l g) D, this with
    | [], _ => rw [hx] at hre; simp at hre
    | [q], _ => rw [hx] at hre; rw [List.mem_singleton.1 hre]
    | _ :: _ :: _, q => simp at q
  have s := add_parts hk h g hD
  rw [hE] at s
  obtain ⟨A, hA⟩ : ∃ A, lo l g ++ ahd (own l g) D = A := ⟨_, rfl⟩
  have hAn : ∀ q ∈ A, hasP g D q = false := fun q hq => by
    rw [← hA] at hq
    unfold hasP
    rcases List.mem_append.1 hq with p | p
    · rw [beq_eq_false_iff_ne.2 (by have := (lo_mem p).2; omega), Bool.false_and]
    · obtain ⟨p1, p2⟩ := ahd_mem p
      have hqw : q.wh = false := by
        have hwi := List.any_eq_false.1 (show (own l g).any (fun r => r.wh) = false from hnw) q p1
        simpa using hwi
      rw [hqw, Bool.false_or, beq_eq_false_iff_ne.2 (ltB_ne p2), Bool.and_false]
  rw [hA] at s
  have hAi : A.length = i := by
    rcases Nat.lt_trichotomy A.length i with q | q | q
    · exfalso
      have hl : A.length < l.length := by omega
      have e1 : l[A.length]'hl = r := by
        have : l[A.length]? = some r := by rw [s]; simp
        rw [List.getElem?_eq_getElem hl] at this
        injection this
      have := any_false_mem hb (List.mem_take_iff_getElem.2 ⟨A.length, by omega, e1⟩)
      unfold hasP at this
      rw [hg, hd] at this
      simp at this
    · exact q
    · exfalso
      have e1 : A[i]'q = r := by
        have : l[i]? = A[i]? := by conv => lhs; rw [s]
                                   exact List.getElem?_append_left q
        rw [List.getElem?_eq_getElem hi', List.getElem?_eq_getElem q, ← hr] at this
        injection this with this
        exact this.symm
      have := hAn r (by rw [← e1]; exact List.getElem_mem q)
      unfold hasP at this
      rw [hg, hd] at this
      simp at this
  unfold addL
  rw [if_pos h, hnw, if_neg (by decide), hE, hA]
  conv => lhs; rw [s]
  rw [← hAi, List.set_append_right _ _ (Nat.le_refl _), Nat.sub_self]
  show A ++ (⟨r.wh, r.g, r.id, mx ex r.ex⟩ :: (bhd (own l g) D ++ hi l g)) = _
  rw [hw, hg, hd, mx_comm ex r.ex]
  rfl
end Go.Proofs.YtlgjmhemgfjgnaaGreat
