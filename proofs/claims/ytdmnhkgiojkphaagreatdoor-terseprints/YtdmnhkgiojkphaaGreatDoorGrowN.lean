/- As wp_region_listX; but a slot that is read ahead may be written behind (from n on). -/
import Derived.Test.YtdmnhkgiojkphaaGreatDoorX37
namespace Go.Proofs.YtdmnhkgiojkphaaGreatDoor
open Go Go.RowKit

/-- slot s is written by none of the first n. -/
def noDstN (ops : Array Oper) (n : Nat) (s : Nat) : Bool := (ops.toList.take n).all fun o => o.dst != some s
structure HeldN (ops : Array Oper) (n : Nat) (Φ : Nat → Value → World → Prop) (row0 : Option Nat) (row : Nat → Option Nat) (a0 : Act) (w0 : World) (listed : Array Bool) (a : Act) (w : World) : Prop where
  grown : w0.grownBy w row0
  sz : a.tmps.size = a0.tmps.size
  defers : a.defers = a0.defers
  out : ∀ s, noDstN ops n s = true → a.eval (.tmp s) = a0.eval (.tmp s)
  got : ∀ k o d, ops[k]? = some o → o.dst = some d → listed.getD k false = true → Φ k (a.eval (.tmp d)) w
  stored : ∀ k, listed.getD k false = true → ∃ v, Φ k v w
  pure_ : (∀ k, row k ≠ none → listed.getD k false = false) → w0.grownBy w none
theorem noDst_N {ops : Array Oper} {n s : Nat} (h : noDst ops s = true) : noDstN ops n s = true := by
  unfold noDst at h
  unfold noDstN
  rw [List.all_eq_true] at h ⊢
  exact fun o ho => h o (List.mem_of_mem_take ho)
theorem noDstN_ne {ops : Array Oper} {n s k : Nat} {o : Oper} (h : noDstN ops n s = true) (hk : k < n) (ho : ops[k]? = some o) : o.dst ≠ some s := by
  have hm : (ops.toList.take n)[k]? = some o := by rw [List.getElem?_take, if_pos hk, Array.getElem?_toList]; exact ho
  have := List.all_eq_true.1 h o (List.mem_of_getElem? hm)
  simpa using this
theorem HeldN.held {ops : Array Oper} {n : Nat} {Φ : Nat → Value → World → Prop} {row0 : Option Nat} {row : Nat → Option Nat} {a0 a : Act} {w0 w : World} {listed : Array Bool} (h : HeldN ops n Φ row0 row a0 w0 listed a w) : Held ops Φ row0 row a0 w0 listed a w :=
  ⟨h.grown, h.sz, h.defers, fun s hs => h.out s (noDst_N hs), h.got, h.stored, h.pure_⟩
/-- what is to be shown of operation i. -/
def ShownN (P : Program) (ops : Array Oper) (n : Nat) (Q : Exit → Act → World → Prop) (Φ : Nat → Value → World → Prop) (row0 : Option Nat) (row : Nat → Option Nat) (a0 : Act) (w0 : World) (i : Nat) (o : Oper) : Prop :=
  ∀ (A : Act) (u : World), w0.grownBy u row0 → (row i ≠ none → w0.grownBy u none) → A.tmps.size = a0.tmps.size → (∀ s, noDstN ops n s = true → A.eval (.tmp s) = a0.eval (.tmp s)) →
    (∀ e ∈ o.after, Region.binds .any e = true → ∀ o' d', ops[e.on]? = some o' → o'.dst = some d' → Φ e.on (A.eval (.tmp d')) u) →
    if Region.wanted o (yielded ops A.tmps) = true then o.wp P A u (fun A' u' => ∃ v, A' = A.put o.dst v ∧ u.grownBy u' (row i) ∧ Φ i v u') Q else Φ i undef u
section
variable {P : Program} {ops : Array Oper} {Q : Exit → Act → World → Prop} {Φ : Nat → Value → World → Prop} {a0 : Act} {w0 : World} {n : Nat} {row0 : Option Nat} {row : Nat → Option Nat}
theorem wpAny_eachN (hdst : dstB ops = true) (hlt : dltB ops a0.tmps.size = true) (hb : backB ops = true) (hq : seqBX ops n = true) (hns : n ≤ ops.size)
    (hone : ∀ i j, row i ≠ none → row j ≠ none → i = j) (hrow : ∀ i, row i = none ∨ row i = row0) (hst : ∀ i k v u u', k ≠ i → Φ k v u → u.grownBy u' (row i) → Φ k v u') (hstep : ∀ i o, ops[i]? = some o → i < n → ShownN P ops n Q Φ row0 row a0 w0 i o)
    (hlast : ∀ (A : Act) (u : World) (listed : Array Bool), Held ops Φ row0 row a0 w0 listed A u → (∀ k, k < n → listed.getD k false = true) → (∀ k, n ≤ k → listed.getD k false = false) → wpList P ops Q (ops.toList.drop n) A u) :
    ∀ (fuel : Nat) (listed : Array Bool) (a : Act) (w : World), listed.size = ops.size → (∀ k, n ≤ k → listed.getD k false = false) → Closed .any ops listed → HeldN ops n Φ row0 row a0 w0 listed a w → left n listed + (ops.size - n) ≤ fuel → wpAny P .any ops Q fuel listed a w := by
  intro fuel
  induction fuel with
  | zero =>
    intro listed a w hls hn hc hh hf
    have hall : ∀ k, k < n → listed.getD k false = true := fun k hk => by
      cases h : listed.getD k false with
      | true => rfl
      | false =>
        have : 0 < left n listed := List.countP_pos_iff.2 ⟨k, List.mem_range.2 hk, by simp only [h]; rfl⟩
        omega
    exact seq_goX hb hq (ops.size - n) n (by omega) (Nat.le_refl _) 0 listed a w (by omega) hls hc hall hn (hlast a w listed hh.held hall hn)
  | succ fuel ih =>
    intro listed a w hls hn hc hh hf
    by_cases hex : ∃ k, k < n ∧ listed.getD k false = false
    · obtain ⟨k0, hk0, hk0l⟩ := hex
      refine ⟨fun h0 => absurd h0 (first_unlisted hb hls k0 (by omega) hk0l), fun i hi => ?_⟩
      obtain ⟨hun, o, ho, hall⟩ := mem_ready.1 hi
      have his : i < ops.size := (Array.getElem?_eq_some_iff.1 ho).1
      have hin : i < n := by
        rcases Nat.lt_or_ge i n with h | h
        · exact h
        · have := seq_listedX hq hc hi h (by omega : k0 < i)
          rw [hk0l] at this
          cases this
      have hiu0 : listed.getD i false = false := by
        rw [Array.getD_eq_getD_getElem?, Array.getElem?_eq_getElem (by omega)] at hun ⊢
        simpa using hun
      have hs := hstep i o ho hin a w hh.grown (fun hri => hh.pure_ (fun k hk => by rw [hone k i hk hri]; exact hiu0)) hh.sz hh.out (fun e' he' hbi o' d' ho' hd' => hh.got _ _ _ ho' hd' (hall e' he' hbi))
      have hnext : ∀ (v : Value) (u' : World), (∀ k v, k ≠ i → Φ k v w → Φ k v u') → w0.grownBy u' row0 → (row i = none → w.grownBy u' none) → Φ i v u' → wpAny P .any ops Q fuel (listed.setIfInBounds i true) (a.put o.dst v) u' := fun v u' hkp hg hpu hv => by
        refine ih _ _ _ (by rw [set_size]; exact hls) (fun k hk => ?_) (closed_set hc hi) ⟨?_, ?_, ?_, fun s hs' => ?_, fun k o' d hk hd hl => ?_, fun k hl => ?_, fun hall0 => ?_⟩ ?_
        · rw [getD_set_ne false (by omega)]; exact hn k hk
        · exact hg
        · rw [← hh.sz]
          cases hd : o.dst with
          | none => rfl
          | some d => rw [ev_size]
        · rw [← hh.defers]
          cases hd : o.dst with
          | none => rfl
          | some d => rfl
        · rw [← hh.out s hs']
          cases hd : o.dst with
          | none => rfl
          | some d => exact ev_ne a d s v (fun e' => noDstN_ne hs' hin ho (by rw [hd, e']))
        · by_cases hki : k = i
          · subst hki
            rw [ho] at hk
            injection hk with hk
            subst hk
            rw [hd, ev_same a d v (by rw [hh.sz]; exact dst_lt hlt ho hd)]
            exact hv
          · have hl' : listed.getD k false = true := (getD_set_iff hl).resolve_left hki
            have hold := hkp _ _ hki (hh.got k o' d hk hd hl')
            cases hdo : o.dst with
            | none => exact hold
            | some di =>
              rw [ev_ne a di d v (dst_ne hdst ho hk hdo hd (fun e' => hki e'.symm))]
              exact hold
        · by_cases hki : k = i
          · subst hki; exact ⟨v, hv⟩
          · obtain ⟨v', hv'⟩ := hh.stored k ((getD_set_iff hl).resolve_left hki)
            exact ⟨v', hkp _ _ hki hv'⟩
        · have hri : row i = none := by
            cases hr : row i with
            | none => rfl
            | some x =>
              have := hall0 i (by rw [hr]; simp)
              rw [Array.getD_eq_getD_getElem?, Array.getElem?_setIfInBounds_self_of_lt (by omega)] at this
              cases this
          have h1 := hh.pure_ (fun k hk => by
            have := hall0 k hk
            by_cases hki : k = i
            · rw [hki, hri] at hk; exact absurd rfl hk
            · rw [getD_set_ne false (fun e => hki e.symm)] at this; exact this)
          have h2 := hpu hri
          exact ⟨h2.os.trans h1.os, h2.tape.trans h1.tape, h2.output.trans h1.output, Nat.le_trans h1.size h2.size, fun j hj hr => (h2.block j (Nat.lt_of_lt_of_le hj h1.size) hr).trans (h1.block j hj hr)⟩
        · have hiu : listed.getD i false = false := by
            rw [Array.getD_eq_getD_getElem?, Array.getElem?_eq_getElem (by omega)] at hun ⊢
            simpa using hun
          have : left n (listed.setIfInBounds i true) < left n listed := by
            refine countP_less _ (fun x _ hx => ?_) i (List.mem_range.2 hin) (by simp only [hiu]; rfl) ?_
            · cases hxl : listed.getD x false with
              | false => rfl
              | true => rw [getD_set_true hxl] at hx; exact hx
            · rw [Array.getD_eq_getD_getElem?, Array.getElem?_setIfInBounds_self_of_lt (by omega)]
              rfl
          omega
      unfold wpOp
      simp only [ho]
      split
      · rename_i hw
        rw [if_pos hw] at hs
        refine .inl (Oper.wp_mono (fun a' w' hq => ?_) hs)
        obtain ⟨v, rfl, hg, hv⟩ := hq
        refine hnext v w' (fun k v' hk h => hst i k v' _ _ hk h hg) ?_ (fun hr => by rw [hr] at hg; exact hg) hv
        have h1 := hh.grown
        refine ⟨hg.os.trans h1.os, hg.tape.trans h1.tape, hg.output.trans h1.output, Nat.le_trans h1.size hg.size, fun j hj hr => (hg.block j (Nat.lt_of_lt_of_le hj h1.size) ?_).trans (h1.block j hj hr)⟩
        rcases hrow i with e | e
        · rw [e]; simp
        · rw [e]; exact hr
      · rename_i hw
        rw [if_neg hw] at hs
        exact hnext undef w (fun _ _ _ h => h) hh.grown (fun _ => ⟨rfl, rfl, rfl, Nat.le_refl _, fun _ _ _ => rfl⟩) hs
    · have hall : ∀ k, k < n → listed.getD k false = true := fun k hk => by
        cases h : listed.getD k false with
        | true => rfl
        | false => exact absurd ⟨k, hk, h⟩ hex
      exact seq_goX hb hq (ops.size - n) n (by omega) (Nat.le_refl _) _ listed a w (by omega) hls hc hall hn (hlast a w listed hh.held hall hn)
theorem wp_region_eachN {id : Nat} {a : Act} {w : World} (hm : P.follows .mixedOrders = true) (Φ : Nat → Value → World → Prop) (row0 : Option Nat) (row : Nat → Option Nat) (n : Nat) (hdst : dstB ops = true) (hlt : dltB ops a.tmps.size = true) (hb : backB ops = true) (hq : seqBX ops n = true) (hns : n ≤ ops.size)
    (hone : ∀ i j, row i ≠ none → row j ≠ none → i = j) (hrow : ∀ i, row i = none ∨ row i = row0) (hst : ∀ i k v u u', k ≠ i → Φ k v u → u.grownBy u' (row i) → Φ k v u') (hstep : ∀ i o, ops[i]? = some o → i < n → ShownN P ops n Q Φ row0 row a w i o)
    (hlast : ∀ (A : Act) (u : World) (listed : Array Bool), Held ops Φ row0 row a w listed A u → (∀ k, k < n → listed.getD k false = true) → (∀ k, n ≤ k → listed.getD k false = false) → wpList P ops Q (ops.toList.drop n) A u) : (Code.region id ops true).wp P Q a w := by
  have hr : ∀ k, (Array.replicate ops.size false).getD k false = false := fun k => by
    rw [Array.getD_eq_getD_getElem?, Array.getElem?_replicate]; split <;> rfl
  refine wp_region_any hm (wpAny_eachN hdst hlt hb hq hns hone hrow hst hstep hlast _ _ _ _ (by simp) (fun k _ => hr k) (closed_none _) ⟨⟨rfl, rfl, rfl, Nat.le_refl _, fun _ _ _ => rfl⟩, rfl, rfl, fun _ _ => rfl, fun k o d _ _ hl => ?_, fun k hl => ?_, fun _ => ⟨rfl, rfl, rfl, Nat.le_refl _, fun _ _ _ => rfl⟩⟩ ?_)
  · rw [hr k] at hl; cases hl
  · rw [hr k] at hl; cases hl
  · have : left n (Array.replicate ops.size false) ≤ n := Nat.le_trans List.countP_le_length (by simp)
    omega
theorem wp_region_listN {id : Nat} {a : Act} {w : World} (hm : P.follows .mixedOrders = true) (Φs : List (Value → World → Prop)) (row0 : Option Nat) (row : Nat → Option Nat) (n : Nat) (hdst : dstB ops = true) (hlt : dltB ops a.tmps.size = true) (hb : backB ops = true) (hq : seqBX ops n = true) (hns : n ≤ ops.size)
    (hone : ∀ i j, row i ≠ none → row j ≠ none → i = j) (hrow : ∀ i, row i = none ∨ row i = row0)
    (hst : AllIdx (fun k p => ∀ i v u u', k ≠ i → p v u → u.grownBy u' (row i) → p v u') 0 Φs)
    (hstep : AllIdx (ShownN P ops n Q (fun k => Φs.getD k (fun _ _ => True)) row0 row a w) 0 (ops.toList.take n))
    (hlast : ∀ (A : Act) (u : World) (listed : Array Bool), Held ops (fun k => Φs.getD k (fun _ _ => True)) row0 row a w listed A u → (∀ k, k < n → listed.getD k false = true) → wpList P ops Q (ops.toList.drop n) A u) : (Code.region id ops true).wp P Q a w := by
  refine wp_region_eachN hm (fun k => Φs.getD k (fun _ _ => True)) row0 row n hdst hlt hb hq hns hone hrow (fun i k v u u' hki h hg => ?_) (fun i o ho hin => ?_) (fun A u listed hh hall _ => hlast A u listed hh hall)
  · cases hk : Φs[k]? with
    | none =>
      show (Φs.getD k (fun _ _ => True)) v u'
      rw [List.getD_eq_getElem?_getD, hk]
      trivial
    | some p =>
      have := hst.get k p hk
      rw [Nat.zero_add] at this
      have h' : p v u := by
        have h2 : (Φs.getD k (fun _ _ => True)) v u := h
        rw [List.getD_eq_getElem?_getD, hk] at h2
        exact h2
      show (Φs.getD k (fun _ _ => True)) v u'
      rw [List.getD_eq_getElem?_getD, hk]
      exact this i v u u' hki h' hg
  · have := hstep.get i o (by rw [List.getElem?_take, if_pos hin, Array.getElem?_toList]; exact ho)
    rw [Nat.zero_add] at this
    exact this
end
end Go.Proofs.YtdmnhkgiojkphaaGreatDoor
