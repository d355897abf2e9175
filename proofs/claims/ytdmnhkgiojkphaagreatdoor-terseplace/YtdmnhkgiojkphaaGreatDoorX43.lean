/- A drawn region one of whose operations is a call that writes many blocks; behind the first n of them the rest is walked as it comes. -/
import Derived.Test.YtdmnhkgiojkphaaGreatDoorX42
import Derived.Test.YtdmnhkgiojkphaaGreatDoorX27
import Derived.Test.YtdmnhkgiojkphaaGreatDoorX38
namespace Go.Proofs.YtdmnhkgiojkphaaGreatDoor
open Go Go.RowKit

section
variable {P : Program} {ops : Array Oper} {Q : Exit → Act → World → Prop} {Φ : Nat → Value → World → Prop} {a0 : Act} {w0 : World} {n s : Nat} {G : Nat → Prop}

/-- from n on each waits for all of the first n. -/
def waitB (ops : Array Oper) (n : Nat) : Bool := (List.range ops.size).all fun i => decide (i < n) || (List.range n).all fun k => below .any ops 9 i k
theorem wait_listed {i k : Nat} {listed : Array Bool} (hq : waitB ops n = true) (hc : Closed .any ops listed) (hi : i ∈ Region.ready .any ops listed) (hn : n ≤ i) (hk : k < n) : listed.getD k false = true := by
  obtain ⟨_, o, ho, hall⟩ := mem_ready.1 hi
  have h1 := List.all_eq_true.1 hq i (List.mem_range.2 (Array.getElem?_eq_some_iff.1 ho).1)
  have h2 : ((List.range n).all fun k => below .any ops 9 i k) = true := by
    rcases Bool.or_eq_true _ _ ▸ h1 with h | h
    · have : i < n := by simpa using h
      omega
    · exact h
  have h3 := List.all_eq_true.1 h2 k (List.mem_range.2 hk)
  refine below_listed hc 9 i k (fun o' ho' => ?_) h3
  rw [ho] at ho'
  injection ho' with ho'
  subst ho'
  exact hall
structure HeldT (ops : Array Oper) (Φ : Nat → Value → World → Prop) (G : Nat → Prop) (s : Nat) (a0 : Act) (w0 : World) (listed : Array Bool) (a : Act) (w : World) : Prop where
  moved : Moved G w0 w
  sz : a.tmps.size = a0.tmps.size
  defers : a.defers = a0.defers
  out : ∀ s, noDst ops s = true → a.eval (.tmp s) = a0.eval (.tmp s)
  got : ∀ k o d, ops[k]? = some o → o.dst = some d → listed.getD k false = true → Φ k (a.eval (.tmp d)) w
  stored : ∀ k, listed.getD k false = true → ∃ v, Φ k v w
  pure_ : listed.getD s false = false → w0.grownBy w none
/-- what is to be shown of a quiet operation. -/
def ShownQ (P : Program) (ops : Array Oper) (Q : Exit → Act → World → Prop) (Φ : Nat → Value → World → Prop) (G : Nat → Prop) (a0 : Act) (w0 : World) (i : Nat) (o : Oper) : Prop :=
  ∀ (A : Act) (u : World), Moved G w0 u → A.tmps.size = a0.tmps.size → (∀ s, noDst ops s = true → A.eval (.tmp s) = a0.eval (.tmp s)) →
    (∀ e ∈ o.after, Region.binds .any e = true → ∀ o' d', ops[e.on]? = some o' → o'.dst = some d' → Φ e.on (A.eval (.tmp d')) u) →
    if Region.wanted o (yielded ops A.tmps) = true then o.wp P A u (fun A' u' => ∃ v, A' = A.put o.dst v ∧ u.grownBy u' none ∧ Φ i v u') Q else Φ i undef u
/-- and of the one that writes. -/
def ShownL (P : Program) (ops : Array Oper) (Q : Exit → Act → World → Prop) (Φ : Nat → Value → World → Prop) (G : Nat → Prop) (a0 : Act) (w0 : World) (i : Nat) (o : Oper) : Prop :=
  ∀ (A : Act) (u : World), w0.grownBy u none → A.tmps.size = a0.tmps.size → (∀ s, noDst ops s = true → A.eval (.tmp s) = a0.eval (.tmp s)) →
    (∀ e ∈ o.after, Region.binds .any e = true → ∀ o' d', ops[e.on]? = some o' → o'.dst = some d' → Φ e.on (A.eval (.tmp d')) u) →
    if Region.wanted o (yielded ops A.tmps) = true then o.wp P A u (fun A' u' => ∃ v, A' = A.put o.dst v ∧ Moved G u u' ∧ Φ i v u') Q else Φ i undef u
section
variable {i : Nat} {o : Oper} {A : Act} {u : World}
/-- a call that writes blocks of G. -/
theorem shown_callM {Ψ : Value → World → Prop} {G : Nat → Prop} (f : FuncId) (fn : Func) (hf : P.funcs[f]? = some fn) (hname : (fn.name == "runtime.NumGoroutine") = false) (hbody : fn.body.isNone = false) (xs : Array Operand) (ts : Array TypeId) (ho : o.op = .call { callee := .value (.func f), args := xs, argTypes := ts }) (args : Array Value) (hargs : xs.map A.eval = args) (hc : Calls P f args u fun e w' => ∃ v, e = .returned v ∧ Moved G u w' ∧ Ψ v w') : o.wp P A u (fun A' u' => ∃ v, A' = A.put o.dst v ∧ Moved G u u' ∧ Ψ v u') Q := by
  have hr : (callFunc f args).run P u = .ok (.enter f args) u := by
    have hpr : (program).run P u = .ok P u := rfl
    unfold callFunc
    rw [Sem.run_bind, hpr]
    simp only [Result.andThen_ok, hf, hname, hbody]
    rfl
  unfold Oper.wp execOp
  simp [ho, resolve, Deferred.ofValue, Act.eval, invoke]
  rw [hargs, hr]
  simp only [Oper.upon]
  refine hc.mono ?_
  rintro e w' ⟨v, rfl, hg, hv⟩
  exact ⟨v, rfl, hg, hv⟩
end
theorem moved_none {u u' : World} (h : u.grownBy u' none) : Moved G u u' := Moved.grown h (fun g hg _ => by cases hg)
theorem wpAny_eachT (hdst : dstB ops = true) (hlt : dltB ops a0.tmps.size = true) (hb : backB ops = true) (hq : waitB ops n = true) (hns : n ≤ ops.size)
    (hstQ : ∀ k v u u', Φ k v u → u.grownBy u' none → Φ k v u') (hstL : ∀ k v u u', k ≠ s → Φ k v u → Moved G u u' → Φ k v u')
    (hstepQ : ∀ i o, ops[i]? = some o → i < n → i ≠ s → ShownQ P ops Q Φ G a0 w0 i o) (hstepL : ∀ o, ops[s]? = some o → ShownL P ops Q Φ G a0 w0 s o)
    (hlast : ∀ (A : Act) (u : World) (listed : Array Bool), HeldT ops Φ G s a0 w0 listed A u → listed.size = ops.size → (∀ k, k < n → listed.getD k false = true) → (∀ k, n ≤ k → listed.getD k false = false) → ∀ fuel, ops.size - n ≤ fuel → wpAny P .any ops Q fuel listed A u) :
    ∀ (fuel : Nat) (listed : Array Bool) (a : Act) (w : World), listed.size = ops.size → (∀ k, n ≤ k → listed.getD k false = false) → Closed .any ops listed → HeldT ops Φ G s a0 w0 listed a w → left n listed + (ops.size - n) ≤ fuel → wpAny P .any ops Q fuel listed a w := by
  intro fuel
  induction fuel with
  | zero =>
    intro listed a w hls hn hc hh hf
    have hall : ∀ k, k < n → listed.getD k false = true := fun k hk => by
      cases h : listed.getD k false with
      | true => rfl
      | false =>
        have : 0 < left n listed := List.countP_pos_iff.2 ⟨k, List.mem_range.2 hk, by simp only [h]; rfl⟩
        omega
    exact hlast a w listed hh hls hall hn 0 (by omega)
  | succ fuel ih =>
    intro listed a w hls hn hc hh hf
    by_cases hex : ∃ k, k < n ∧ listed.getD k false = false
    · obtain ⟨k0, hk0, hk0l⟩ := hex
      refine ⟨fun h0 => absurd h0 (first_unlisted hb hls k0 (by omega) hk0l), fun i hi => ?_⟩
      obtain ⟨hun, o, ho, hall⟩ := mem_ready.1 hi
      have his : i < ops.size := (Array.getElem?_eq_some_iff.1 ho).1
      have hin : i < n := by
        rcases Nat.lt_or_ge i n with h | h
        · exact h
        · have := wait_listed hq hc hi h hk0
          rw [hk0l] at this
          cases this
      have hiu0 : listed.getD i false = false := by
        rw [Array.getD_eq_getD_getElem?, Array.getElem?_eq_getElem (by omega)] at hun ⊢
        simpa using hun
      have hdp : ∀ e ∈ o.after, Region.binds .any e = true → ∀ o' d', ops[e.on]? = some o' → o'.dst = some d' → Φ e.on (a.eval (.tmp d')) w := fun e' he' hbi o' d' ho' hd' => hh.got _ _ _ ho' hd' (hall e' he' hbi)
      have hnext : ∀ (v : Value) (u' : World), (∀ k v, k ≠ i → Φ k v w → Φ k v u') → Moved G w0 u' → (i ≠ s → w.grownBy u' none) → Φ i v u' → wpAny P .any ops Q fuel (listed.setIfInBounds i true) (a.put o.dst v) u' := fun v u' hkp hg hpu hv => by
        refine ih _ _ _ (by rw [set_size]; exact hls) (fun k hk => ?_) (closed_set hc hi) ⟨?_, ?_, ?_, fun s hs' => ?_, fun k o' d hk hd hl => ?_, fun k hl => ?_, fun hall0 => ?_⟩ ?_
        · rw [getD_set_ne false (by omega)]; exact hn k hk
        · exact hg
        · rw [← hh.sz]
          cases hd : o.dst with
          | none => rfl
          | some d => rw [ev_size]
        · rw [← hh.defers]
          cases hd : o.dst with
          | none => rfl
          | some d => rfl
        · rw [← hh.out s hs']
          cases hd : o.dst with
          | none => rfl
          | some d => exact ev_ne a d s v (fun e' => noDst_ne hs' ho (by rw [hd, e']))
        · by_cases hki : k = i
          · subst hki
            rw [ho] at hk
            injection hk with hk
            subst hk
            rw [hd, ev_same a d v (by rw [hh.sz]; exact dst_lt hlt ho hd)]
            exact hv
          · have hl' : listed.getD k false = true := (getD_set_iff hl).resolve_left hki
            have hold := hkp _ _ hki (hh.got k o' d hk hd hl')
            cases hdo : o.dst with
            | none => exact hold
            | some di =>
              rw [ev_ne a di d v (dst_ne hdst ho hk hdo hd (fun e' => hki e'.symm))]
              exact hold
        · by_cases hki : k = i
          · subst hki; exact ⟨v, hv⟩
          · obtain ⟨v', hv'⟩ := hh.stored k ((getD_set_iff hl).resolve_left hki)
            exact ⟨v', hkp _ _ hki hv'⟩
        · have hri : i ≠ s := fun e => by
            subst e
            rw [Array.getD_eq_getD_getElem?, Array.getElem?_setIfInBounds_self_of_lt (by omega)] at hall0
            cases hall0
          rw [getD_set_ne false (fun e => hri e)] at hall0
          have h1 := hh.pure_ hall0
          have h2 := hpu hri
          exact ⟨h2.os.trans h1.os, h2.tape.trans h1.tape, h2.output.trans h1.output, Nat.le_trans h1.size h2.size, fun j hj hr => (h2.block j (Nat.lt_of_lt_of_le hj h1.size) hr).trans (h1.block j hj hr)⟩
        · have hiu : listed.getD i false = false := by
            rw [Array.getD_eq_getD_getElem?, Array.getElem?_eq_getElem (by omega)] at hun ⊢
            simpa using hun
          have : left n (listed.setIfInBounds i true) < left n listed := by
            refine countP_less _ (fun x _ hx => ?_) i (List.mem_range.2 hin) (by simp only [hiu]; rfl) ?_
            · cases hxl : listed.getD x false with
              | false => rfl
              | true => rw [getD_set_true hxl] at hx; exact hx
            · rw [Array.getD_eq_getD_getElem?, Array.getElem?_setIfInBounds_self_of_lt (by omega)]
              rfl
          omega
      unfold wpOp
      simp only [ho]
      by_cases his' : i = s
      · subst his'
        have hs := hstepL o ho a w (hh.pure_ hiu0) hh.sz hh.out hdp
        split
        · rename_i hw
          rw [if_pos hw] at hs
          refine .inl (Oper.wp_mono (fun a' w' hq => ?_) hs)
          obtain ⟨v, rfl, hg, hv⟩ := hq
          exact hnext v w' (fun k v' hk h => hstL k v' _ _ hk h hg) (hh.moved.trans hg (fun _ _ h => h) (fun _ _ h => h)) (fun hr => absurd rfl hr) hv
        · rename_i hw
          rw [if_neg hw] at hs
          exact hnext undef w (fun _ _ _ h => h) hh.moved (fun hr => absurd rfl hr) hs
      · have hs := hstepQ i o ho hin his' a w hh.moved hh.sz hh.out hdp
        split
        · rename_i hw
          rw [if_pos hw] at hs
          refine .inl (Oper.wp_mono (fun a' w' hq => ?_) hs)
          obtain ⟨v, rfl, hg, hv⟩ := hq
          exact hnext v w' (fun k v' hk h => hstQ k v' _ _ h hg) (hh.moved.trans (moved_none (G := G) hg) (fun _ _ h => h) (fun _ _ h => h)) (fun _ => hg) hv
        · rename_i hw
          rw [if_neg hw] at hs
          exact hnext undef w (fun _ _ _ h => h) hh.moved (fun _ => ⟨rfl, rfl, rfl, Nat.le_refl _, fun _ _ _ => rfl⟩) hs
    · have hall : ∀ k, k < n → listed.getD k false = true := fun k hk => by
        cases h : listed.getD k false with
        | true => rfl
        | false => exact absurd ⟨k, hk, h⟩ hex
      exact hlast a w listed hh hls hall hn _ (by omega)
theorem HeldT.frame {listed : Array Bool} {A : Act} {u : World} (h : HeldT ops Φ G s a0 w0 listed A u) (n : Nat) (hsame : ∀ s, noDst (ops.toList.take n).toArray s = true → A.eval (.tmp s) = a0.eval (.tmp s)) : A = wrote (ops.toList.take n) A a0 := by
  refine act_ext (by rw [wrote_size]; exact h.sz) (by rw [wrote_defers]; exact h.defers) (fun s hs => ?_)
  rw [wrote_size] at hs
  refine (wrote_at A s _ _ hs ?_).symm
  cases hn : noDst (ops.toList.take n).toArray s with
  | true => exact .inl (hsame s hn).symm
  | false =>
    right
    unfold noDst at hn
    have := List.all_eq_false.1 hn
    obtain ⟨o, ho, hne⟩ := this
    exact ⟨o, by simpa using ho, by simpa using hne⟩
theorem HeldT.whole {listed : Array Bool} {A : Act} {u : World} (h : HeldT ops Φ G s a0 w0 listed A u) : A = wrote ops.toList A a0 := by
  have := h.frame ops.size (fun s hs => h.out s (by rw [← Array.length_toList, List.take_length] at hs; simpa using hs))
  rwa [← Array.length_toList, List.take_length] at this
theorem listed_is {listed : Array Bool} (hs : listed.size = ops.size) (h1 : ∀ k, k < n → listed.getD k false = true) (h2 : ∀ k, n ≤ k → listed.getD k false = false) : listed = ((List.range ops.size).map fun k => decide (k < n)).toArray := by
  refine Array.ext (by simpa using hs) (fun i hi hi' => ?_)
  have hg : listed.getD i false = listed[i] := by rw [Array.getD_eq_getD_getElem?, Array.getElem?_eq_getElem hi]; rfl
  simp only [List.getElem_toArray, List.getElem_map, List.getElem_range]
  rw [← hg]
  by_cases hin : i < n
  · rw [h1 i hin]; simp [hin]
  · rw [h2 i (by omega)]; simp [hin]
/-- THE LAW. -/
theorem wp_region_listT {id : Nat} {a : Act} {w : World} (hm : P.follows .mixedOrders = true) (Φs : List (Value → World → Prop)) (G : Nat → Prop) (s n : Nat) (hdst : dstB ops = true) (hlt : dltB ops a.tmps.size = true) (hb : backB ops = true) (hq : waitB ops n = true) (hns : n ≤ ops.size)
    (hstQ : AllIdx (fun _ p => ∀ v u u', p v u → u.grownBy u' none → p v u') 0 Φs)
    (hstL : AllIdx (fun k p => k ≠ s → ∀ v u u', p v u → Moved G u u' → p v u') 0 Φs)
    (hstep : AllIdx (fun k o => k ≠ s → ShownQ P ops Q (fun k => Φs.getD k (fun _ _ => True)) G a w k o) 0 (ops.toList.take n))
    (hstepL : ∀ o, ops[s]? = some o → ShownL P ops Q (fun k => Φs.getD k (fun _ _ => True)) G a w s o)
    (hlast : ∀ (A : Act) (u : World) (listed : Array Bool), HeldT ops (fun k => Φs.getD k (fun _ _ => True)) G s a w listed A u → (∀ k, k < n → listed.getD k false = true) → listed = ((List.range ops.size).map fun k => decide (k < n)).toArray → ∀ fuel, ops.size - n ≤ fuel → wpAny P .any ops Q fuel listed A u) : (Code.region id ops true).wp P Q a w := by
  have hr : ∀ k, (Array.replicate ops.size false).getD k false = false := fun k => by
    rw [Array.getD_eq_getD_getElem?, Array.getElem?_replicate]; split <;> rfl
  refine wp_region_any hm (wpAny_eachT (s := s) (G := G) (Φ := fun k => Φs.getD k (fun _ _ => True)) hdst hlt hb hq hns (fun k v u u' h hg => ?_) (fun k v u u' hk' h hg => ?_) (fun i o ho hin his => ?_) hstepL (fun A u listed hh hls h1 h2 fuel hf => hlast A u listed hh h1 (listed_is hls h1 h2) fuel hf) _ _ _ _ (by simp) (fun k _ => hr k) (closed_none _) ⟨⟨rfl, rfl, rfl, Nat.le_refl _, fun _ _ _ => rfl⟩, rfl, rfl, fun _ _ => rfl, fun k o d _ _ hl => ?_, fun k hl => ?_, fun _ => ⟨rfl, rfl, rfl, Nat.le_refl _, fun _ _ _ => rfl⟩⟩ ?_)
  · cases hk : Φs[k]? with
    | none =>
      show (Φs.getD k (fun _ _ => True)) v u'
      rw [List.getD_eq_getElem?_getD, hk]
      trivial
    | some p =>
      have := hstQ.get k p hk
      have h' : p v u := by
        have h2 : (Φs.getD k (fun _ _ => True)) v u := h
        rw [List.getD_eq_getElem?_getD, hk] at h2
        exact h2
      show (Φs.getD k (fun _ _ => True)) v u'
      rw [List.getD_eq_getElem?_getD, hk]
      exact this v u u' h' hg
  · cases hk : Φs[k]? with
    | none =>
      show (Φs.getD k (fun _ _ => True)) v u'
      rw [List.getD_eq_getElem?_getD, hk]
      trivial
    | some p =>
      have := hstL.get k p hk
      rw [Nat.zero_add] at this
      have h' : p v u := by
        have h2 : (Φs.getD k (fun _ _ => True)) v u := h
        rw [List.getD_eq_getElem?_getD, hk] at h2
        exact h2
      show (Φs.getD k (fun _ _ => True)) v u'
      rw [List.getD_eq_getElem?_getD, hk]
      exact this hk' v u u' h' hg
  · have := hstep.get i o (by rw [List.getElem?_take, if_pos hin, Array.getElem?_toList]; exact ho)
    rw [Nat.zero_add] at this
    exact this his
  · rw [hr k] at hl; cases hl
  · rw [hr k] at hl; cases hl
  · have : left n (Array.replicate ops.size false) ≤ n := Nat.le_trans List.countP_le_length (by simp)
    omega
end
end Go.Proofs.YtdmnhkgiojkphaaGreatDoor

namespace Go.Proofs.YtdmnhkgiojkphaaGreatDoor
open Go Go.RowKit
open Go.RowKit (wrap32 wrap64)

/-- i items are laid. -/
structure VS (w0 w : World) (B sb : Nat) (tv : Value) (M : Nat → Prop) (L : List Tree) (i : Nat) (vv uv : Value) (subs : List Nat) (Gs : Nat → Nat → Prop) : Prop where
  sp : SP w B sb tv vv uv subs Gs
  st : ∀ j (hj : j < subs.length), SeatAt w B (Gs j) subs[j]
  le : i ≤ subs.length
  row : ∃ xs, w.ownsRow B 26 6 vv i xs ∧ Elems w (fun g => ∃ j, j < i ∧ Gs j g) (L.take i) xs
  m : Moved M w0 w
  fr : ∀ g, SG sb tv vv uv subs.length Gs g → tv.ownBlock ≠ some g → M g ∨ w0.heap.size ≤ g
theorem SP.tv_sb {w : World} {B sb : Nat} {tv vv uv : Value} {subs : List Nat} {Gs : Nat → Nat → Prop} (h : SP w B sb tv vv uv subs Gs) : tv.ownBlock ≠ some sb := by
  obtain ⟨n, xs, ht⟩ := h.t; exact own_ne_blk ht h.blk (by decide)
theorem SP.vv_sb {w : World} {B sb : Nat} {tv vv uv : Value} {subs : List Nat} {Gs : Nat → Nat → Prop} (h : SP w B sb tv vv uv subs Gs) : vv.ownBlock ≠ some sb := by
  obtain ⟨n, xs, ht⟩ := h.v; exact own_ne_blk ht h.blk (by decide)
theorem SP.uv_sb {w : World} {B sb : Nat} {tv vv uv : Value} {subs : List Nat} {Gs : Nat → Nat → Prop} (h : SP w B sb tv vv uv subs Gs) : uv.ownBlock ≠ some sb := own_ne_blk h.u h.blk (by decide)
theorem SP.uv_tv {w : World} {B sb : Nat} {tv vv uv : Value} {subs : List Nat} {Gs : Nat → Nat → Prop} (h : SP w B sb tv vv uv subs Gs) {g : Nat} (hg : uv.ownBlock = some g) : tv.ownBlock ≠ some g := by
  obtain ⟨n, xs, ht⟩ := h.t; exact own_ne_own h.u ht (by decide) hg
theorem SP.vv_tv {w : World} {B sb : Nat} {tv vv uv : Value} {subs : List Nat} {Gs : Nat → Nat → Prop} (h : SP w B sb tv vv uv subs Gs) {g : Nat} (hg : vv.ownBlock = some g) : tv.ownBlock ≠ some g := by
  obtain ⟨n, xs, ht⟩ := h.t; obtain ⟨m, ys, hv⟩ := h.v; exact own_ne_own hv ht (by decide) hg
theorem SP.vv_uv {w : World} {B sb : Nat} {tv vv uv : Value} {subs : List Nat} {Gs : Nat → Nat → Prop} (h : SP w B sb tv vv uv subs Gs) {g : Nat} (hg : vv.ownBlock = some g) : uv.ownBlock ≠ some g := by
  obtain ⟨m, ys, hv⟩ := h.v; exact own_ne_own hv h.u (by decide) hg
/-- Behind the seat's own seat. -/
theorem VS.more {w0 w w' : World} {B sb : Nat} {tv : Value} {M : Nat → Prop} {L : List Tree} {i : Nat} {vv uv uv' : Value} {subs subs' : List Nat} {Gs Gs' : Nat → Nat → Prop} (h : VS w0 w B sb tv M L i vv uv subs Gs)
    (hS : SP w' B sb tv vv uv' subs' Gs') (hs : ∀ j (hj : j < subs'.length), SeatAt w' B (Gs' j) subs'[j]) (hM : Moved (fun g => g = sb ∨ uv.ownBlock = some g) w w') (hl : subs.length ≤ subs'.length)
    (he : ∀ j, j < subs.length → Gs' j = Gs j) (hn : ∀ j g, j < subs'.length → Gs' j g → (j < subs.length ∧ Gs j g) ∨ w.heap.size ≤ g) (hu : ∀ g, uv'.ownBlock = some g → uv.ownBlock = some g ∨ w.heap.size ≤ g) : VS w0 w' B sb tv M L i vv uv' subs' Gs' := by
  have h0 := h.m.size
  refine ⟨hS, hs, Nat.le_trans h.le hl, ?_, h.m.trans hM (fun _ _ hg => hg) ?_, ?_⟩
  · obtain ⟨xs, h1, h2⟩ := h.row
    refine ⟨xs, own_same h1 (fun g hg hl => hM.block g hl ?_), Elems.kept (F := fun g => ∃ j, j < i ∧ Gs j g) (hM.stays ?_) (fun g hg _ => ?_) h2⟩
    · rintro (e | e)
      · exact h.sp.vv_sb (by rw [hg, e])
      · exact h.sp.vv_uv hg e
    · rintro g _ ⟨j, hj, hg⟩
      have := h.sp.sub j (by have := h.le; omega) g hg
      rintro (e | e)
      · exact this.2.2.1 e
      · exact this.2.2.2.2.2 e
    · obtain ⟨j, hj, hg⟩ := hg
      exact ⟨j, hj, by rw [he j (by have := h.le; omega)]; exact hg⟩
  · intro g hg0 hg
    have : M g ∨ w0.heap.size ≤ g := by
      rcases hg with rfl | hg
      · exact h.fr _ (.inl rfl) h.sp.tv_sb
      · exact h.fr g (.inr (.inr (.inr (.inl hg)))) (h.sp.uv_tv hg)
    rcases this with h | h
    · exact h
    · omega
  · intro g hg ht
    rcases hg with rfl | hg | hg | hg | ⟨j, hj, hg⟩
    · exact h.fr _ (.inl rfl) ht
    · exact absurd hg ht
    · exact h.fr g (.inr (.inr (.inl hg))) ht
    · rcases hu g hg with hg | hg
      · exact h.fr g (.inr (.inr (.inr (.inl hg)))) ht
      · exact .inr (by omega)
    · rcases hn j g hj hg with ⟨h1, h2⟩ | h1
      · exact h.fr g (.inr (.inr (.inr (.inr ⟨j, h1, h2⟩)))) ht
      · exact .inr (by omega)
def upd (Gs : Nat → Nat → Prop) (i : Nat) (G2 : Nat → Prop) : Nat → Nat → Prop := fun j => if j = i then G2 else Gs j
theorem upd_at (Gs : Nat → Nat → Prop) (i : Nat) (G2 : Nat → Prop) : upd Gs i G2 i = G2 := by unfold upd; rw [if_pos rfl]
theorem upd_off {Gs : Nat → Nat → Prop} {i j : Nat} {G2 : Nat → Prop} (h : j ≠ i) : upd Gs i G2 j = Gs j := by unfold upd; rw [if_neg h]
/-- Behind a seat's Value beneath. -/
theorem VS.under {w0 w w' : World} {B sb : Nat} {tv : Value} {M : Nat → Prop} {L : List Tree} {i : Nat} {vv uv : Value} {subs : List Nat} {Gs : Nat → Nat → Prop} {q : Nat} {G2 : Nat → Prop} (h : VS w0 w B sb tv M L i vv uv subs Gs)
    (hq : subs[i]? = some q) (hS : SeatAt w' B G2 q) (hM : Moved (Gs i) w w') (h2 : ∀ g, G2 g → Gs i g ∨ w.heap.size ≤ g) : VS w0 w' B sb tv M L i vv uv subs (upd Gs i G2) := by
  have h0 := h.m.size
  have hi := (List.getElem?_eq_some_iff.1 hq).1
  have hsz := hM.size
  have hsub := h.sp.sub i hi
  have hlt := fun g hg => (h.sp.lt (g := g) hg).2
  refine ⟨⟨h.sp.lo, ?_, ?_, ?_, ?_, ?_, ?_⟩, ?_, h.le, ?_, h.m.trans hM (fun _ _ hg => hg) ?_, ?_⟩
  · exact (hM.block sb h.sp.blk.lt (fun hg => (hsub sb hg).2.2.1 rfl)).trans h.sp.blk
  · obtain ⟨n, xs, ht⟩ := h.sp.t; exact ⟨n, xs, own_same ht (fun g hg hl => hM.block g hl (fun hg' => (hsub g hg').2.2.2.1 hg))⟩
  · obtain ⟨n, xs, ht⟩ := h.sp.v; exact ⟨n, xs, own_same ht (fun g hg hl => hM.block g hl (fun hg' => (hsub g hg').2.2.2.2.1 hg))⟩
  · exact own_same h.sp.u (fun g hg hl => hM.block g hl (fun hg' => (hsub g hg').2.2.2.2.2 hg))
  · intro j hj g hg
    by_cases e : j = i
    · subst e
      rw [upd_at] at hg
      have h3 := hS.lt hg
      rcases h2 g hg with h4 | h4
      · have := hsub g h4; exact ⟨h3.1, h3.2, this.2.2⟩
      · refine ⟨h3.1, h3.2, fun e => ?_, fun e => ?_, fun e => ?_, fun e => ?_⟩
        · have := hlt g (.inl e); omega
        · have := hlt g (.inr (.inl e)); omega
        · have := hlt g (.inr (.inr (.inl e))); omega
        · have := hlt g (.inr (.inr (.inr (.inl e)))); omega
    · rw [upd_off e] at hg
      have := h.sp.sub j hj g hg
      exact ⟨this.1, by omega, this.2.2⟩
  · intro j k hj hk hjk g hg hg'
    by_cases e : j = i
    · subst e
      rw [upd_at] at hg
      rw [upd_off (fun e => hjk e.symm)] at hg'
      rcases h2 g hg with h4 | h4
      · exact h.sp.dis j k hj hk hjk g h4 hg'
      · have := (h.sp.sub k hk g hg').2.1; omega
    · rw [upd_off e] at hg
      by_cases e' : k = i
      · subst e'
        rw [upd_at] at hg'
        rcases h2 g hg' with h4 | h4
        · exact h.sp.dis j k hj hk hjk g hg h4
        · have := (h.sp.sub j hj g hg).2.1; omega
      · rw [upd_off e'] at hg'
        exact h.sp.dis j k hj hk hjk g hg hg'
  · intro j hj
    by_cases e : j = i
    · subst e
      have : subs[j] = q := (List.getElem?_eq_some_iff.1 hq).2
      rw [this, upd_at]
      exact hS
    · rw [upd_off e]
      exact (h.st j hj).stay (hM.stays (fun g _ hg hg' => h.sp.dis j i hj hi e g hg hg'))
  · obtain ⟨xs, h3, h4⟩ := h.row
    refine ⟨xs, own_same h3 (fun g hg hl => hM.block g hl (fun hg' => (hsub g hg').2.2.2.2.1 hg)), Elems.kept (F := fun g => ∃ j, j < i ∧ Gs j g) (hM.stays ?_) (fun g hg _ => ?_) h4⟩
    · rintro g _ ⟨j, hj, hg⟩ hg'
      exact h.sp.dis j i (by omega) hi (by omega) g hg hg'
    · obtain ⟨j, hj, hg⟩ := hg
      exact ⟨j, hj, by rw [upd_off (by omega)]; exact hg⟩
  · intro g hg0 hg
    rcases h.fr g (.inr (.inr (.inr (.inr ⟨i, hi, hg⟩)))) (hsub g hg).2.2.2.1 with h | h
    · exact h
    · omega
  · intro g hg ht
    rcases hg with rfl | hg | hg | hg | ⟨j, hj, hg⟩
    · exact h.fr _ (.inl rfl) ht
    · exact absurd hg ht
    · exact h.fr g (.inr (.inr (.inl hg))) ht
    · exact h.fr g (.inr (.inr (.inr (.inl hg)))) ht
    · by_cases e : j = i
      · subst e
        rw [upd_at] at hg
        rcases h2 g hg with h4 | h4
        · exact h.fr g (.inr (.inr (.inr (.inr ⟨j, hj, h4⟩)))) ht
        · exact .inr (by omega)
      · rw [upd_off e] at hg
        exact h.fr g (.inr (.inr (.inr (.inr ⟨j, hj, hg⟩)))) ht
/-- Behind the append and both stores. -/
theorem VS.laid {w0 w w3 w' : World} {B sb : Nat} {tv : Value} {M : Nat → Prop} {L : List Tree} {i : Nat} {vv uv : Value} {subs : List Nat} {Gs : Nat → Nat → Prop} {g3 cap3 : Nat} {xs : List Value} {t : Tree} {a0 a1 a2 a3 a4 a5 : Value} (h : VS w0 w B sb tv M L i vv uv subs Gs)
    (hi : i < subs.length) (hE : Elems w (fun g => ∃ j, j < i ∧ Gs j g) (L.take i) xs) (hT : RdT w (Gs i) t (.agg #[a0, a1, a2, a3, a4, a5])) (hLi : L[i]? = some t)
    (hg3 : w.grownBy w3 vv.ownBlock) (hat : vv.ownBlock = some g3 ∨ g3 = w.heap.size) (hM : Moved (fun g => g = sb ∨ g = g3) w3 w') (hb : Blk w' sb (SRow tv (.slice (some ⟨g3, 0, none⟩) (i + 1) cap3) uv) 96)
    (ho : w'.ownsRow B 26 6 (.slice (some ⟨g3, 0, none⟩) (i + 1) cap3) (i + 1) (xs ++ [a0, a1, a2, a3, a4, a5])) : VS w0 w' B sb tv M L (i + 1) (.slice (some ⟨g3, 0, none⟩) (i + 1) cap3) uv subs Gs := by
  have h0 := h.m.size
  have hMw : Moved (fun g => g = sb ∨ vv.ownBlock = some g ∨ w.heap.size ≤ g) w w' :=
    (Moved.grown (G := fun g => vv.ownBlock = some g) hg3 (fun g hg _ => hg)).trans hM (fun _ _ e => .inr (.inl e)) (fun g hl e => by
      rcases e with e | e
      · exact .inl e
      · rcases hat with hat | hat
        · exact .inr (.inl (by rw [e]; exact hat))
        · omega)
  have hsz := hMw.size
  have hkeep : ∀ g, g < w.heap.size → g ≠ sb → vv.ownBlock ≠ some g → w'.heap[g]? = w.heap[g]? := fun g hg e1 e2 => hMw.block g hg (by rintro (e | e | e); exact e1 e; exact e2 e; omega)
  have hvg : ∀ g, (Value.slice (some ⟨g3, 0, none⟩) (i + 1) cap3).ownBlock = some g → vv.ownBlock = some g ∨ w.heap.size ≤ g := fun g hg => by
    have e : g3 = g := by simpa [Value.ownBlock] using hg
    rcases hat with hat | hat
    · exact .inl (by rw [← e]; exact hat)
    · exact .inr (by omega)
  refine ⟨⟨h.sp.lo, hb, ?_, ⟨_, _, ho⟩, own_same h.sp.u (fun g hg hl => hkeep g hl (fun e => h.sp.uv_sb (by rw [hg, e])) (fun e => h.sp.vv_uv e hg)), ?_, h.sp.dis⟩, ?_, hi, ⟨_, ho, ?_⟩, h.m.trans hMw (fun _ _ hg => hg) ?_, ?_⟩
  · obtain ⟨n, ys, ht⟩ := h.sp.t; exact ⟨n, ys, own_same ht (fun g hg hl => hkeep g hl (fun e => h.sp.tv_sb (by rw [hg, e])) (fun e => h.sp.vv_tv e hg))⟩
  · intro j hj g hg
    obtain ⟨p1, p2, p3, p4, p5, p6⟩ := h.sp.sub j hj g hg
    refine ⟨p1, by omega, p3, p4, fun e => ?_, p6⟩
    rcases hvg g e with e | e
    · exact p5 e
    · omega
  · intro j hj
    refine (h.st j hj).stay ⟨hsz, fun g hg hl => ?_⟩
    obtain ⟨p1, p2, p3, p4, p5, p6⟩ := h.sp.sub j hj g hg
    exact hkeep g hl p3 p5
  · have hst : Stays (fun g => ∃ j, j < i + 1 ∧ Gs j g) w w' := ⟨hsz, fun g hg hl => by
      obtain ⟨j, hj, hg⟩ := hg
      obtain ⟨p1, p2, p3, p4, p5, p6⟩ := h.sp.sub j (by omega) g hg
      exact hkeep g hl p3 p5⟩
    have e : L.take (i + 1) = L.take i ++ [t] := by rw [List.take_add_one, hLi]; rfl
    rw [e]
    refine Elems.snoc ?_ ?_
    · exact RdT.kept (F := Gs i) (hst.mono (fun g hg => ⟨i, by omega, hg⟩)) (fun g hg _ => ⟨i, by omega, hg⟩) t hT
    · refine Elems.kept (F := fun g => ∃ j, j < i ∧ Gs j g) (hst.mono (fun g hg => ?_)) (fun g hg _ => ?_) hE
      · obtain ⟨j, hj, hg⟩ := hg; exact ⟨j, by omega, hg⟩
      · obtain ⟨j, hj, hg⟩ := hg; exact ⟨j, by omega, hg⟩
  · intro g hg0 hg
    have : M g ∨ w0.heap.size ≤ g := by
      rcases hg with rfl | hg | hg
      · exact h.fr _ (.inl rfl) h.sp.tv_sb
      · exact h.fr g (.inr (.inr (.inl hg))) (h.sp.vv_tv hg)
      · exact .inr (by omega)
    rcases this with h | h
    · exact h
    · omega
  · intro g hg ht
    rcases hg with rfl | hg | hg | hg | ⟨j, hj, hg⟩
    · exact h.fr _ (.inl rfl) ht
    · exact absurd hg ht
    · rcases hvg g hg with hg | hg
      · exact h.fr g (.inr (.inr (.inl hg))) ht
      · exact .inr (by omega)
    · exact h.fr g (.inr (.inr (.inr (.inl hg)))) ht
    · exact h.fr g (.inr (.inr (.inr (.inr ⟨j, hj, hg⟩)))) ht
end Go.Proofs.YtdmnhkgiojkphaaGreatDoor
