/- What one shows of an operation in such a region. -/
import Derived.Test.YtdmnhkgiojkphaaGreatDoorGrow
namespace Go.Proofs.YtdmnhkgiojkphaaGreatDoor
open Go Go.RowKit

/-- operation s alone writes block b. -/
def rowAt (s b : Nat) : Nat → Option Nat := fun k => if k = s then some b else none
theorem rowAt_one (s b : Nat) : ∀ i j, rowAt s b i ≠ none → rowAt s b j ≠ none → i = j := fun i j hi hj => by
  unfold rowAt at hi hj
  by_cases h1 : i = s
  · by_cases h2 : j = s
    · rw [h1, h2]
    · rw [if_neg h2] at hj; exact absurd rfl hj
  · rw [if_neg h1] at hi; exact absurd rfl hi
theorem rowAt_or (s b : Nat) : ∀ i, rowAt s b i = none ∨ rowAt s b i = some b := fun i => by
  unfold rowAt
  split
  · exact .inr rfl
  · exact .inl rfl
theorem rowAt_none {s b i : Nat} (h : s ≠ i) : rowAt s b i = none := by
  unfold rowAt
  rw [if_neg (fun e => h e.symm)]
theorem rowAt_self (s b : Nat) : rowAt s b s ≠ none := by unfold rowAt; simp
theorem rowAt_off {s b i : Nat} {u u' : World} (h : u.grownBy u' (rowAt s b i)) : u.grownBy u' (some b) := by
  rcases rowAt_or s b i with e | e
  · rw [e] at h; exact gsome h _
  · rw [e] at h; exact h
theorem noRow_one : ∀ (i j : Nat), (fun _ : Nat => (none : Option Nat)) i ≠ none → (fun _ : Nat => (none : Option Nat)) j ≠ none → i = j := fun _ _ h _ => absurd rfl h
section
variable {P : Program} {ops : Array Oper} {Q : Exit → Act → World → Prop} {Φ : Nat → Value → World → Prop} {i : Nat} {o : Oper} {A : Act} {u : World}
theorem dep (h : ∀ e ∈ o.after, Region.binds .any e = true → ∀ o' d', ops[e.on]? = some o' → o'.dst = some d' → Φ e.on (A.eval (.tmp d')) u) (j : Nat) (hj : (o.after.any fun e => e.on == j && Region.binds .any e) = true) (d' : Tmp) (hd : ((ops[j]?).bind (·.dst)) = some d') : Φ j (A.eval (.tmp d')) u := by
  obtain ⟨e, he, hb⟩ := Array.any_eq_true'.1 hj
  obtain ⟨h1, h2⟩ := Bool.and_eq_true _ _ ▸ hb
  have e1 : e.on = j := by simpa using h1
  subst e1
  cases ho : ops[e.on]? with
  | none => rw [ho] at hd; cases hd
  | some o' =>
    rw [ho] at hd
    exact h e he h2 o' d' ho hd
theorem depL {Φs : List (Value → World → Prop)} (h : ∀ e ∈ o.after, Region.binds .any e = true → ∀ o' d', ops[e.on]? = some o' → o'.dst = some d' → Φs.getD e.on (fun _ _ => True) (A.eval (.tmp d')) u) (j : Nat) (hj : (o.after.any fun e => e.on == j && Region.binds .any e) = true) (d' : Tmp) (hd : ((ops[j]?).bind (·.dst)) = some d') : Φs.getD j (fun _ _ => True) (A.eval (.tmp d')) u :=
  dep (Φ := fun k => Φs.getD k (fun _ _ => True)) h j hj d' hd
theorem ifw_none {X Y : Prop} (hg : o.guard = none) (h : X) : if Region.wanted o (yielded ops A.tmps) = true then X else Y := by
  rw [if_pos (by simp [Region.wanted, hg])]; exact h
theorem ifw_want {X Y : Prop} (j : Nat) (b : Bool) (d : Tmp) (hg : o.guard = some (j, b)) (hd : ((ops[j]?).bind (·.dst)) = some d) (hb : A.eval (.tmp d) = .bool b) (h : X) : if Region.wanted o (yielded ops A.tmps) = true then X else Y := by
  rw [if_pos (by simp [Region.wanted, hg, yield_at hd hb])]; exact h
theorem ifw_pass {X Y : Prop} (j : Nat) (b c : Bool) (d : Tmp) (hg : o.guard = some (j, b)) (hd : ((ops[j]?).bind (·.dst)) = some d) (hb : A.eval (.tmp d) = .bool c) (hbc : c ≠ b) (h : Y) : if Region.wanted o (yielded ops A.tmps) = true then X else Y := by
  rw [if_neg (by simp [Region.wanted, hg, yield_at hd hb, hbc])]; exact h
theorem wp_quiet1 {C : World → Prop} {K : Act → World → Prop} (v : Value) (h : o.quietAt P A C u v) (hK : ∀ u', (u' = u ∨ C u') → K (A.put o.dst v) u') : o.wp P A u K Q := by
  unfold Oper.wp
  unfold Oper.quietAt at h
  generalize (execOp A.eval o).run P u = r at *
  cases r with
  | ok n w' =>
    cases n <;> simp only [Oper.quietUpon] at h <;> simp only [Oper.upon]
    case value x =>
      obtain ⟨e1, e2⟩ := h
      rw [e1, e2]
      exact hK _ (.inl rfl)
    case skip =>
      obtain ⟨e1, e2⟩ := h
      rw [e1, ← e2]
      exact hK _ (.inl rfl)
    case enter f args =>
      obtain ⟨e1, h⟩ := h
      rw [e1]
      refine h.mono ?_
      rintro e w'' ⟨rfl, hc⟩
      exact hK _ (.inr hc)
    all_goals exact h.elim
  | halt x w' => simp only [Oper.quietUpon] at h
/-- a value that is the same in every world. -/
theorem shown_q {Ψ : Value → World → Prop} {row : Option Nat} (v : Value) (h : o.quietAt P A (fun u' => u.grownBy u' none) u v) (hΦ : ∀ u', u.grownBy u' none → Ψ v u') : o.wp P A u (fun A' u' => ∃ v, A' = A.put o.dst v ∧ u.grownBy u' row ∧ Ψ v u') Q :=
  wp_quiet1 v h (fun u' hu => by
    have hg : u.grownBy u' none := by
      rcases hu with rfl | hu
      · exact ⟨rfl, rfl, rfl, Nat.le_refl _, fun _ _ _ => rfl⟩
      · exact hu
    exact ⟨v, rfl, gsome hg row, hΦ u' hg⟩)
/-- a call whose value hangs on the world. -/
theorem shown_call {Ψ : Value → World → Prop} {row : Option Nat} (f : FuncId) (fn : Func) (hf : P.funcs[f]? = some fn) (hname : (fn.name == "runtime.NumGoroutine") = false) (hbody : fn.body.isNone = false) (xs : Array Operand) (ts : Array TypeId) (ho : o.op = .call { callee := .value (.func f), args := xs, argTypes := ts }) (args : Array Value) (hargs : xs.map A.eval = args) (hc : Calls P f args u fun e w' => ∃ v, e = .returned v ∧ u.grownBy w' none ∧ Ψ v w') : o.wp P A u (fun A' u' => ∃ v, A' = A.put o.dst v ∧ u.grownBy u' row ∧ Ψ v u') Q := by
  have hr : (callFunc f args).run P u = .ok (.enter f args) u := by
    have hpr : (program).run P u = .ok P u := rfl
    unfold callFunc
    rw [Sem.run_bind, hpr]
    simp only [Result.andThen_ok, hf, hname, hbody]
    rfl
  unfold Oper.wp execOp
  simp [ho, resolve, Deferred.ofValue, Act.eval, invoke]
  rw [hargs, hr]
  simp only [Oper.upon]
  refine hc.mono ?_
  rintro e w' ⟨v, rfl, hg, hv⟩
  exact ⟨v, rfl, gsome hg row, hv⟩
theorem shown_alloc {Ψ : Value → World → Prop} {row : Option Nat} (t : TypeId) (ho : o.op = .alloc t) (z : List Value) (hz : (P.info? t).map (fun i => i.zero) = some (some (.agg z.toArray))) (hΦ : ∀ w', Blk w' u.heap.size z t → u.grownBy w' none → Ψ (.pointer (some ⟨u.heap.size, 0, none⟩)) w') : o.wp P A u (fun A' u' => ∃ v, A' = A.put o.dst v ∧ u.grownBy u' row ∧ Ψ v u') Q :=
  wp_alloc_row t ho z hz (fun w' h1 _ h3 => ⟨_, rfl, gsome h3 row, hΦ w' h1 h3⟩)
/-- a row stored whole. -/
theorem shown_store {Ψ : Value → World → Prop} (ty : TypeId) (x y : Operand) (ho : o.op = .store ty x y) (b : Nat) (cs vs : List Value) (t : TypeId) (hx : A.eval x = .pointer (some ⟨b, 0, none⟩)) (hy : A.eval y = .agg vs.toArray)
    (hb : Blk u b cs t) (hfit : vs.length = cs.length) (hi : (P.info? ty).map (·.size) = some vs.length) (h1 : ∀ v ∈ vs, v.oneCell' = true) (hΦ : ∀ w', Blk w' b vs t → u.grownBy w' (some b) → Ψ undef w') : o.wp P A u (fun A' u' => ∃ v, A' = A.put o.dst v ∧ u.grownBy u' (some b) ∧ Ψ v u') Q := by
  refine wp_store_part ty x y ho b 0 cs vs t hx hy hb (by omega) hi h1 (fun w' h1 h2 _ => ⟨_, rfl, h2, hΦ w' ?_ h2⟩)
  have e : splice cs 0 vs = vs := by unfold splice; rw [List.take_zero, List.nil_append, Nat.zero_add, hfit, List.drop_length, List.append_nil]
  rw [e] at h1
  exact h1
theorem quietAt_ex {C : World → Prop} (x : Operand) (k : Nat) (ho : o.op = .extract x k) (vs : Array Value) (v : Value) (hx : A.eval x = .tuple vs) (hv : vs[k]? = some v) : o.quietAt P A C u v := by
  unfold Oper.quietAt execOp
  simp only [ho, hx]
  rw [Sem.run_bind]
  have : (Instr.extract (.tuple vs) k).run P u = .ok v u := by
    unfold Instr.extract
    simp [hv]
  rw [this]
  exact ⟨rfl, rfl⟩
theorem quietAt_len {C : World → Prop} (x : Operand) (t : TypeId) (ho : o.op = .call { callee := .builtin .len, args := #[x], argTypes := #[t] }) (a : Option Addr) (n c : Nat) (hx : A.eval x = .slice a n c) (hu : P.underlying t = some (.slice (P.elem t))) : o.quietAt P A C u (.int .i64 n) := by
  unfold Oper.quietAt execOp
  simp [ho, hx, resolve, invoke, builtin, run_len_slice u t o.type a n c hu]
  exact ⟨rfl, rfl⟩
end
end Go.Proofs.YtdmnhkgiojkphaaGreatDoor

namespace Go.Proofs.YtdmnhkgiojkphaaGreatDoor
open Go Go.RowKit

section
variable {P : Program} {ops : Array Oper} {Q : Exit → Act → World → Prop} {Φ : Nat → Value → World → Prop} {a0 : Act} {w0 : World} {n : Nat} {row0 : Option Nat} {row : Nat → Option Nat}

def seqBX (ops : Array Oper) (n : Nat) : Bool := (List.range ops.size).all fun i => decide (i < n) || (List.range i).all fun k => below .any ops 9 i k
theorem seq_listedX {i k : Nat} {listed : Array Bool} (hq : seqBX ops n = true) (hc : Closed .any ops listed) (hi : i ∈ Region.ready .any ops listed) (hn : n ≤ i) (hk : k < i) : listed.getD k false = true := by
  obtain ⟨_, o, ho, hall⟩ := mem_ready.1 hi
  have h1 := List.all_eq_true.1 hq i (List.mem_range.2 (Array.getElem?_eq_some_iff.1 ho).1)
  have h2 : ((List.range i).all fun k => below .any ops 9 i k) = true := by
    rcases Bool.or_eq_true _ _ ▸ h1 with h | h
    · have : i < n := by simpa using h
      omega
    · exact h
  have h3 := List.all_eq_true.1 h2 k (List.mem_range.2 hk)
  refine below_listed hc 9 i k (fun o' ho' => ?_) h3
  rw [ho] at ho'
  injection ho' with ho'
  subst ho'
  exact hall
theorem seq_goX (hb : backB ops = true) (hq : seqBX ops n = true) : ∀ (r m : Nat), m + r = ops.size → n ≤ m → ∀ (fuel : Nat) (listed : Array Bool) (a : Act) (w : World), r ≤ fuel → listed.size = ops.size → Closed .any ops listed → (∀ k, k < m → listed.getD k false = true) → (∀ k, m ≤ k → listed.getD k false = false) →
    wpList P ops Q (ops.toList.drop m) a w → wpAny P .any ops Q fuel listed a w
  | 0, m, hm, _, fuel, listed, a, w, _, hls, _, hl, _, h => by
    have hr : Region.ready .any ops listed = [] := by
      apply List.eq_nil_iff_forall_not_mem.2
      intro j hj
      obtain ⟨hun, o, ho, _⟩ := mem_ready.1 hj
      have := (Array.getElem?_eq_some_iff.1 ho).1
      exact getD_two (hl j (by omega)) hun
    rw [List.drop_of_length_le (by simp; omega)] at h
    cases fuel with
    | zero => exact ⟨hr, h⟩
    | succ f => exact ⟨fun _ => h, fun j hj => by rw [hr] at hj; cases hj⟩
  | r + 1, m, hm, hn, fuel, listed, a, w, hf, hls, hc, hl, hu, h => by
    obtain ⟨f, rfl⟩ : ∃ f, fuel = f + 1 := ⟨fuel - 1, by omega⟩
    have hms : m < ops.size := by omega
    have ho : ops[m]? = some ops[m] := Array.getElem?_eq_getElem hms
    refine ⟨fun h0 => absurd h0 (first_unlisted hb hls m hms (hu m (Nat.le_refl _))), fun i hi => ?_⟩
    have hi' := mem_ready.1 hi
    obtain ⟨hun, o, hoi, _⟩ := hi'
    have his := (Array.getElem?_eq_some_iff.1 hoi).1
    have him : i = m := by
      rcases Nat.lt_trichotomy i m with h1 | h1 | h1
      · exact (getD_two (hl i h1) hun).elim
      · exact h1
      · have := seq_listedX hq hc hi (by omega) h1
        rw [hu m (Nat.le_refl _)] at this
        cases this
    subst him
    have hd : ops.toList.drop i = ops[i] :: ops.toList.drop (i + 1) := by
      rw [List.drop_eq_getElem_cons (by simpa using hms)]
      simp
    rw [hd] at h
    have hnext : ∀ a' w', wpList P ops Q (ops.toList.drop (i + 1)) a' w' → wpAny P .any ops Q f (listed.setIfInBounds i true) a' w' := fun a' w' hw => by
      refine seq_goX hb hq r (i + 1) (by omega) (by omega) f _ a' w' (by omega) (by rw [set_size]; exact hls) (closed_set hc hi) (fun k hk => ?_) (fun k hk => ?_) hw
      · by_cases e : k = i
        · subst e
          rw [Array.getD_eq_getD_getElem?, Array.getElem?_setIfInBounds_self_of_lt (by omega)]
          rfl
        · exact getD_set_true (hl k (by omega))
      · rw [getD_set_ne false (by omega)]
        exact hu k (by omega)
    unfold wpList at h
    unfold wpOp
    rw [ho]
    simp only
    split
    · rename_i hw
      rw [if_pos hw] at h
      exact h.imp (Oper.wp_mono hnext) id
    · rename_i hw
      rw [if_neg hw] at h
      exact hnext _ _ h
theorem wpAny_eachX (hdst : dstB ops = true) (hlt : dltB ops a0.tmps.size = true) (hb : backB ops = true) (hq : seqBX ops n = true) (hns : n ≤ ops.size)
    (hone : ∀ i j, row i ≠ none → row j ≠ none → i = j) (hrow : ∀ i, row i = none ∨ row i = row0) (hst : ∀ i k v u u', k ≠ i → Φ k v u → u.grownBy u' (row i) → Φ k v u') (hstep : ∀ i o, ops[i]? = some o → i < n → Shown P ops Q Φ row0 row a0 w0 i o)
    (hlast : ∀ (A : Act) (u : World) (listed : Array Bool), Held ops Φ row0 row a0 w0 listed A u → (∀ k, k < n → listed.getD k false = true) → (∀ k, n ≤ k → listed.getD k false = false) → wpList P ops Q (ops.toList.drop n) A u) :
    ∀ (fuel : Nat) (listed : Array Bool) (a : Act) (w : World), listed.size = ops.size → (∀ k, n ≤ k → listed.getD k false = false) → Closed .any ops listed → Held ops Φ row0 row a0 w0 listed a w → left n listed + (ops.size - n) ≤ fuel → wpAny P .any ops Q fuel listed a w := by
  intro fuel
  induction fuel with
  | zero =>
    intro listed a w hls hn hc hh hf
    have hall : ∀ k, k < n → listed.getD k false = true := fun k hk => by
      cases h : listed.getD k false with
      | true => rfl
      | false =>
        have : 0 < left n listed := List.countP_pos_iff.2 ⟨k, List.mem_range.2 hk, by simp only [h]; rfl⟩
        omega
    exact seq_goX hb hq (ops.size - n) n (by omega) (Nat.le_refl _) 0 listed a w (by omega) hls hc hall hn (hlast a w listed hh hall hn)
  | succ fuel ih =>
    intro listed a w hls hn hc hh hf
    by_cases hex : ∃ k, k < n ∧ listed.getD k false = false
    · obtain ⟨k0, hk0, hk0l⟩ := hex
      refine ⟨fun h0 => absurd h0 (first_unlisted hb hls k0 (by omega) hk0l), fun i hi => ?_⟩
      obtain ⟨hun, o, ho, hall⟩ := mem_ready.1 hi
      have his : i < ops.size := (Array.getElem?_eq_some_iff.1 ho).1
      have hin : i < n := by
        rcases Nat.lt_or_ge i n with h | h
        · exact h
        · have := seq_listedX hq hc hi h (by omega : k0 < i)
          rw [hk0l] at this
          cases this
      have hiu0 : listed.getD i false = false := by
        rw [Array.getD_eq_getD_getElem?, Array.getElem?_eq_getElem (by omega)] at hun ⊢
        simpa using hun
      have hs := hstep i o ho hin a w hh.grown (fun hri => hh.pure_ (fun k hk => by rw [hone k i hk hri]; exact hiu0)) hh.sz hh.out (fun e' he' hbi o' d' ho' hd' => hh.got _ _ _ ho' hd' (hall e' he' hbi))
      have hnext : ∀ (v : Value) (u' : World), (∀ k v, k ≠ i → Φ k v w → Φ k v u') → w0.grownBy u' row0 → (row i = none → w.grownBy u' none) → Φ i v u' → wpAny P .any ops Q fuel (listed.setIfInBounds i true) (a.put o.dst v) u' := fun v u' hkp hg hpu hv => by
        refine ih _ _ _ (by rw [set_size]; exact hls) (fun k hk => ?_) (closed_set hc hi) ⟨?_, ?_, ?_, fun s hs' => ?_, fun k o' d hk hd hl => ?_, fun k hl => ?_, fun hall0 => ?_⟩ ?_
        · rw [getD_set_ne false (by omega)]; exact hn k hk
        · exact hg
        · rw [← hh.sz]
          cases hd : o.dst with
          | none => rfl
          | some d => rw [ev_size]
        · rw [← hh.defers]
          cases hd : o.dst with
          | none => rfl
          | some d => rfl
        · rw [← hh.out s hs']
          cases hd : o.dst with
          | none => rfl
          | some d => exact ev_ne a d s v (fun e' => noDst_ne hs' ho (by rw [hd, e']))
        · by_cases hki : k = i
          · subst hki
            rw [ho] at hk
            injection hk with hk
            subst hk
            rw [hd, ev_same a d v (by rw [hh.sz]; exact dst_lt hlt ho hd)]
            exact hv
          · have hl' : listed.getD k false = true := (getD_set_iff hl).resolve_left hki
            have hold := hkp _ _ hki (hh.got k o' d hk hd hl')
            cases hdo : o.dst with
            | none => exact hold
            | some di =>
              rw [ev_ne a di d v (dst_ne hdst ho hk hdo hd (fun e' => hki e'.symm))]
              exact hold
        · by_cases hki : k = i
          · subst hki; exact ⟨v, hv⟩
          · obtain ⟨v', hv'⟩ := hh.stored k ((getD_set_iff hl).resolve_left hki)
            exact ⟨v', hkp _ _ hki hv'⟩
        · have hri : row i = none := by
            cases hr : row i with
            | none => rfl
            | some x =>
              have := hall0 i (by rw [hr]; simp)
              rw [Array.getD_eq_getD_getElem?, Array.getElem?_setIfInBounds_self_of_lt (by omega)] at this
              cases this
          have h1 := hh.pure_ (fun k hk => by
            have := hall0 k hk
            by_cases hki : k = i
            · rw [hki, hri] at hk; exact absurd rfl hk
            · rw [getD_set_ne false (fun e => hki e.symm)] at this; exact this)
          have h2 := hpu hri
          exact ⟨h2.os.trans h1.os, h2.tape.trans h1.tape, h2.output.trans h1.output, Nat.le_trans h1.size h2.size, fun j hj hr => (h2.block j (Nat.lt_of_lt_of_le hj h1.size) hr).trans (h1.block j hj hr)⟩
        · have hiu : listed.getD i false = false := by
            rw [Array.getD_eq_getD_getElem?, Array.getElem?_eq_getElem (by omega)] at hun ⊢
            simpa using hun
          have : left n (listed.setIfInBounds i true) < left n listed := by
            refine countP_less _ (fun x _ hx => ?_) i (List.mem_range.2 hin) (by simp only [hiu]; rfl) ?_
            · cases hxl : listed.getD x false with
              | false => rfl
              | true => rw [getD_set_true hxl] at hx; exact hx
            · rw [Array.getD_eq_getD_getElem?, Array.getElem?_setIfInBounds_self_of_lt (by omega)]
              rfl
          omega
      unfold wpOp
      simp only [ho]
      split
      · rename_i hw
        rw [if_pos hw] at hs
        refine .inl (Oper.wp_mono (fun a' w' hq => ?_) hs)
        obtain ⟨v, rfl, hg, hv⟩ := hq
        refine hnext v w' (fun k v' hk h => hst i k v' _ _ hk h hg) ?_ (fun hr => by rw [hr] at hg; exact hg) hv
        have h1 := hh.grown
        refine ⟨hg.os.trans h1.os, hg.tape.trans h1.tape, hg.output.trans h1.output, Nat.le_trans h1.size hg.size, fun j hj hr => (hg.block j (Nat.lt_of_lt_of_le hj h1.size) ?_).trans (h1.block j hj hr)⟩
        rcases hrow i with e | e
        · rw [e]; simp
        · rw [e]; exact hr
      · rename_i hw
        rw [if_neg hw] at hs
        exact hnext undef w (fun _ _ _ h => h) hh.grown (fun _ => ⟨rfl, rfl, rfl, Nat.le_refl _, fun _ _ _ => rfl⟩) hs
    · have hall : ∀ k, k < n → listed.getD k false = true := fun k hk => by
        cases h : listed.getD k false with
        | true => rfl
        | false => exact absurd ⟨k, hk, h⟩ hex
      exact seq_goX hb hq (ops.size - n) n (by omega) (Nat.le_refl _) _ listed a w (by omega) hls hc hall hn (hlast a w listed hh hall hn)
theorem wp_region_eachX {id : Nat} {a : Act} {w : World} (hm : P.follows .mixedOrders = true) (Φ : Nat → Value → World → Prop) (row0 : Option Nat) (row : Nat → Option Nat) (n : Nat) (hdst : dstB ops = true) (hlt : dltB ops a.tmps.size = true) (hb : backB ops = true) (hq : seqBX ops n = true) (hns : n ≤ ops.size)
    (hone : ∀ i j, row i ≠ none → row j ≠ none → i = j) (hrow : ∀ i, row i = none ∨ row i = row0) (hst : ∀ i k v u u', k ≠ i → Φ k v u → u.grownBy u' (row i) → Φ k v u') (hstep : ∀ i o, ops[i]? = some o → i < n → Shown P ops Q Φ row0 row a w i o)
    (hlast : ∀ (A : Act) (u : World) (listed : Array Bool), Held ops Φ row0 row a w listed A u → (∀ k, k < n → listed.getD k false = true) → (∀ k, n ≤ k → listed.getD k false = false) → wpList P ops Q (ops.toList.drop n) A u) : (Code.region id ops true).wp P Q a w := by
  have hr : ∀ k, (Array.replicate ops.size false).getD k false = false := fun k => by
    rw [Array.getD_eq_getD_getElem?, Array.getElem?_replicate]; split <;> rfl
  refine wp_region_any hm (wpAny_eachX hdst hlt hb hq hns hone hrow hst hstep hlast _ _ _ _ (by simp) (fun k _ => hr k) (closed_none _) ⟨⟨rfl, rfl, rfl, Nat.le_refl _, fun _ _ _ => rfl⟩, rfl, rfl, fun _ _ => rfl, fun k o d _ _ hl => ?_, fun k hl => ?_, fun _ => ⟨rfl, rfl, rfl, Nat.le_refl _, fun _ _ _ => rfl⟩⟩ ?_)
  · rw [hr k] at hl; cases hl
  · rw [hr k] at hl; cases hl
  · have : left n (Array.replicate ops.size false) ≤ n := Nat.le_trans List.countP_le_length (by simp)
    omega
theorem wp_region_listX {id : Nat} {a : Act} {w : World} (hm : P.follows .mixedOrders = true) (Φs : List (Value → World → Prop)) (row0 : Option Nat) (row : Nat → Option Nat) (n : Nat) (hdst : dstB ops = true) (hlt : dltB ops a.tmps.size = true) (hb : backB ops = true) (hq : seqBX ops n = true) (hns : n ≤ ops.size)
    (hone : ∀ i j, row i ≠ none → row j ≠ none → i = j) (hrow : ∀ i, row i = none ∨ row i = row0)
    (hst : AllIdx (fun k p => ∀ i v u u', k ≠ i → p v u → u.grownBy u' (row i) → p v u') 0 Φs)
    (hstep : AllIdx (Shown P ops Q (fun k => Φs.getD k (fun _ _ => True)) row0 row a w) 0 (ops.toList.take n))
    (hlast : ∀ (A : Act) (u : World) (listed : Array Bool), Held ops (fun k => Φs.getD k (fun _ _ => True)) row0 row a w listed A u → (∀ k, k < n → listed.getD k false = true) → wpList P ops Q (ops.toList.drop n) A u) : (Code.region id ops true).wp P Q a w := by
  refine wp_region_eachX hm (fun k => Φs.getD k (fun _ _ => True)) row0 row n hdst hlt hb hq hns hone hrow (fun i k v u u' hki h hg => ?_) (fun i o ho hin => ?_) (fun A u listed hh hall _ => hlast A u listed hh hall)
  · cases hk : Φs[k]? with
    | none =>
      show (Φs.getD k (fun _ _ => True)) v u'
      rw [List.getD_eq_getElem?_getD, hk]
      trivial
    | some p =>
      have := hst.get k p hk
      rw [Nat.zero_add] at this
      have h' : p v u := by
        have h2 : (Φs.getD k (fun _ _ => True)) v u := h
        rw [List.getD_eq_getElem?_getD, hk] at h2
        exact h2
      show (Φs.getD k (fun _ _ => True)) v u'
      rw [List.getD_eq_getElem?_getD, hk]
      exact this i v u u' hki h' hg
  · have := hstep.get i o (by rw [List.getElem?_take, if_pos hin, Array.getElem?_toList]; exact ho)
    rw [Nat.zero_add] at this
    exact this
end
end Go.Proofs.YtdmnhkgiojkphaaGreatDoor
