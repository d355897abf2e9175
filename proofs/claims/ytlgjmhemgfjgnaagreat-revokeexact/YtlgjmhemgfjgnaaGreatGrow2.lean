/- What one shows of an operation in such a region. -/
import Derived.Test.YtlgjmhemgfjgnaaGreatGrow
import Derived.Test.YtlgjmhemgfjgnaaGreatGd
namespace Go.Proofs.YtlgjmhemgfjgnaaGreat
open Go Go.RowKit

/-- operation s alone writes block b. -/
def rowAt (s b : Nat) : Nat → Option Nat := fun k => if k = s then some b else none
theorem rowAt_one (s b : Nat) : ∀ i j, rowAt s b i ≠ none → rowAt s b j ≠ none → i = j := fun i j hi hj => by
  unfold rowAt at hi hj
  by_cases h1 : i = s
  · by_cases h2 : j = s
    · rw [h1, h2]
    · rw [if_neg h2] at hj; exact absurd rfl hj
  · rw [if_neg h1] at hi; exact absurd rfl hi
theorem rowAt_or (s b : Nat) : ∀ i, rowAt s b i = none ∨ rowAt s b i = some b := fun i => by
  unfold rowAt
  split
  · exact .inr rfl
  · exact .inl rfl
theorem rowAt_none {s b i : Nat} (h : s ≠ i) : rowAt s b i = none := by
  unfold rowAt
  rw [if_neg (fun e => h e.symm)]
theorem rowAt_self (s b : Nat) : rowAt s b s ≠ none := by unfold rowAt; simp
theorem rowAt_off {s b i : Nat} {u u' : World} (h : u.grownBy u' (rowAt s b i)) : u.grownBy u' (some b) := by
  rcases rowAt_or s b i with e | e
  · rw [e] at h; exact gsome h _
  · rw [e] at h; exact h
theorem noRow_one : ∀ (i j : Nat), (fun _ : Nat => (none : Option Nat)) i ≠ none → (fun _ : Nat => (none : Option Nat)) j ≠ none → i = j := fun _ _ h _ => absurd rfl h
section
variable {P : Program} {ops : Array Oper} {Q : Exit → Act → World → Prop} {Φ : Nat → Value → World → Prop} {i : Nat} {o : Oper} {A : Act} {u : World}
theorem dep (h : ∀ e ∈ o.after, Region.binds .any e = true → ∀ o' d', ops[e.on]? = some o' → o'.dst = some d' → Φ e.on (A.eval (.tmp d')) u) (j : Nat) (hj : (o.after.any fun e => e.on == j && Region.binds .any e) = true) (d' : Tmp) (hd : ((ops[j]?).bind (·.dst)) = some d') : Φ j (A.eval (.tmp d')) u := by
  obtain ⟨e, he, hb⟩ := Array.any_eq_true'.1 hj
  obtain ⟨h1, h2⟩ := Bool.and_eq_true _ _ ▸ hb
  have e1 : e.on = j := by simpa using h1
  subst e1
  cases ho : ops[e.on]? with
  | none => rw [ho] at hd; cases hd
  | some o' =>
    rw [ho] at hd
    exact h e he h2 o' d' ho hd
theorem depL {Φs : List (Value → World → Prop)} (h : ∀ e ∈ o.after, Region.binds .any e = true → ∀ o' d', ops[e.on]? = some o' → o'.dst = some d' → Φs.getD e.on (fun _ _ => True) (A.eval (.tmp d')) u) (j : Nat) (hj : (o.after.any fun e => e.on == j && Region.binds .any e) = true) (d' : Tmp) (hd : ((ops[j]?).bind (·.dst)) = some d') : Φs.getD j (fun _ _ => True) (A.eval (.tmp d')) u :=
  dep (Φ := fun k => Φs.getD k (fun _ _ => True)) h j hj d' hd
theorem ifw_none {X Y : Prop} (hg : o.guard = none) (h : X) : if Region.wanted o (yielded ops A.tmps) = true then X else Y := by
  rw [if_pos (by simp [Region.wanted, hg])]; exact h
theorem ifw_want {X Y : Prop} (j : Nat) (b : Bool) (d : Tmp) (hg : o.guard = some (j, b)) (hd : ((ops[j]?).bind (·.dst)) = some d) (hb : A.eval (.tmp d) = .bool b) (h : X) : if Region.wanted o (yielded ops A.tmps) = true then X else Y := by
  rw [if_pos (by simp [Region.wanted, hg, yield_at hd hb])]; exact h
theorem ifw_pass {X Y : Prop} (j : Nat) (b c : Bool) (d : Tmp) (hg : o.guard = some (j, b)) (hd : ((ops[j]?).bind (·.dst)) = some d) (hb : A.eval (.tmp d) = .bool c) (hbc : c ≠ b) (h : Y) : if Region.wanted o (yielded ops A.tmps) = true then X else Y := by
  rw [if_neg (by simp [Region.wanted, hg, yield_at hd hb, hbc])]; exact h
theorem wp_quiet1 {C : World → Prop} {K : Act → World → Prop} (v : Value) (h : o.quietAt P A C u v) (hK : ∀ u', (u' = u ∨ C u') → K (A.put o.dst v) u') : o.wp P A u K Q := by
  unfold Oper.wp
  unfold Oper.quietAt at h
  generalize (execOp A.eval o).run P u = r at *
  cases r with
  | ok n w' =>
    cases n <;> simp only [Oper.quietUpon] at h <;> simp only [Oper.upon]
    case value x =>
      obtain ⟨e1, e2⟩ := h
      rw [e1, e2]
      exact hK _ (.inl rfl)
    case skip =>
      obtain ⟨e1, e2⟩ := h
      rw [e1, ← e2]
      exact hK _ (.inl rfl)
    case enter f args =>
      obtain ⟨e1, h⟩ := h
      rw [e1]
      refine h.mono ?_
      rintro e w'' ⟨rfl, hc⟩
      exact hK _ (.inr hc)
    all_goals exact h.elim
  | halt x w' => simp only [Oper.quietUpon] at h
/-- a value that is the same in every world. -/
theorem shown_q {Ψ : Value → World → Prop} {row : Option Nat} (v : Value) (h : o.quietAt P A (fun u' => u.grownBy u' none) u v) (hΦ : ∀ u', u.grownBy u' none → Ψ v u') : o.wp P A u (fun A' u' => ∃ v, A' = A.put o.dst v ∧ u.grownBy u' row ∧ Ψ v u') Q :=
  wp_quiet1 v h (fun u' hu => by
    have hg : u.grownBy u' none := by
      rcases hu with rfl | hu
      · exact ⟨rfl, rfl, rfl, Nat.le_refl _, fun _ _ _ => rfl⟩
      · exact hu
    exact ⟨v, rfl, gsome hg row, hΦ u' hg⟩)
/-- a call whose value hangs on the world. -/
theorem shown_call {Ψ : Value → World → Prop} {row : Option Nat} (f : FuncId) (fn : Func) (hf : P.funcs[f]? = some fn) (hname : (fn.name == "runtime.NumGoroutine") = false) (hbody : fn.body.isNone = false) (xs : Array Operand) (ts : Array TypeId) (ho : o.op = .call { callee := .value (.func f), args := xs, argTypes := ts }) (args : Array Value) (hargs : xs.map A.eval = args) (hc : Calls P f args u fun e w' => ∃ v, e = .returned v ∧ u.grownBy w' none ∧ Ψ v w') : o.wp P A u (fun A' u' => ∃ v, A' = A.put o.dst v ∧ u.grownBy u' row ∧ Ψ v u') Q := by
  have hr : (callFunc f args).run P u = .ok (.enter f args) u := by
    have hpr : (program).run P u = .ok P u := rfl
    unfold callFunc
    rw [Sem.run_bind, hpr]
    simp only [Result.andThen_ok, hf, hname, hbody]
    rfl
  unfold Oper.wp execOp
  simp [ho, resolve, Deferred.ofValue, Act.eval, invoke]
  rw [hargs, hr]
  simp only [Oper.upon]
  refine hc.mono ?_
  rintro e w' ⟨v, rfl, hg, hv⟩
  exact ⟨v, rfl, gsome hg row, hv⟩
theorem shown_alloc {Ψ : Value → World → Prop} {row : Option Nat} (t : TypeId) (ho : o.op = .alloc t) (z : List Value) (hz : (P.info? t).map (fun i => i.zero) = some (some (.agg z.toArray))) (hΦ : ∀ w', Blk w' u.heap.size z t → u.grownBy w' none → Ψ (.pointer (some ⟨u.heap.size, 0, none⟩)) w') : o.wp P A u (fun A' u' => ∃ v, A' = A.put o.dst v ∧ u.grownBy u' row ∧ Ψ v u') Q :=
  wp_alloc_row t ho z hz (fun w' h1 _ h3 => ⟨_, rfl, gsome h3 row, hΦ w' h1 h3⟩)
/-- a row stored whole. -/
theorem shown_store {Ψ : Value → World → Prop} (ty : TypeId) (x y : Operand) (ho : o.op = .store ty x y) (b : Nat) (cs vs : List Value) (t : TypeId) (hx : A.eval x = .pointer (some ⟨b, 0, none⟩)) (hy : A.eval y = .agg vs.toArray)
    (hb : Blk u b cs t) (hfit : vs.length = cs.length) (hi : (P.info? ty).map (·.size) = some vs.length) (h1 : ∀ v ∈ vs, v.oneCell' = true) (hΦ : ∀ w', Blk w' b vs t → u.grownBy w' (some b) → Ψ undef w') : o.wp P A u (fun A' u' => ∃ v, A' = A.put o.dst v ∧ u.grownBy u' (some b) ∧ Ψ v u') Q := by
  refine wp_store_part ty x y ho b 0 cs vs t hx hy hb (by omega) hi h1 (fun w' h1 h2 _ => ⟨_, rfl, h2, hΦ w' ?_ h2⟩)
  have e : splice cs 0 vs = vs := by unfold splice; rw [List.take_zero, List.nil_append, Nat.zero_add, hfit, List.drop_length, List.append_nil]
  rw [e] at h1
  exact h1
theorem quietAt_ex {C : World → Prop} (x : Operand) (k : Nat) (ho : o.op = .extract x k) (vs : Array Value) (v : Value) (hx : A.eval x = .tuple vs) (hv : vs[k]? = some v) : o.quietAt P A C u v := by
  unfold Oper.quietAt execOp
  simp only [ho, hx]
  rw [Sem.run_bind]
  have : (Instr.extract (.tuple vs) k).run P u = .ok v u := by
    unfold Instr.extract
    simp [hv]
  rw [this]
  exact ⟨rfl, rfl⟩
theorem quietAt_len {C : World → Prop} (x : Operand) (t : TypeId) (ho : o.op = .call { callee := .builtin .len, args := #[x], argTypes := #[t] }) (a : Option Addr) (n c : Nat) (hx : A.eval x = .slice a n c) (hu : P.underlying t = some (.slice (P.elem t))) : o.quietAt P A C u (.int .i64 n) := by
  unfold Oper.quietAt execOp
  simp [ho, hx, resolve, invoke, builtin, run_len_slice u t o.type a n c hu]
  exact ⟨rfl, rfl⟩
end
end Go.Proofs.YtlgjmhemgfjgnaaGreat
