/- A region that draws its order and whose one loud operation waits for all others: the others are walked in the order of the text, each quiet in a class of worlds; then the loud one. -/
import Derived.Test.YtdmnhkgiojkphaaGreatDoorAg
namespace Go.Proofs.YtdmnhkgiojkphaaGreatDoor
open Go Go.RowKit

section
variable {P : Program} {ops : Array Oper} {md : Region.Mode} {C : World → Prop} {n : Nat}

def below (md : Region.Mode) (ops : Array Oper) : Nat → Nat → Nat → Bool
  | 0, _, _ => false
  | f + 1, i, j =>
    match ops[i]? with
    | none => false
    | some o => o.after.any fun e => Region.binds md e && (e.on == j || below md ops f e.on j)
/-- what waits for something has it behind it. -/
def Closed (md : Region.Mode) (ops : Array Oper) (listed : Array Bool) : Prop :=
  ∀ i o, listed.getD i false = true → ops[i]? = some o → ∀ e ∈ o.after, Region.binds md e = true → listed.getD e.on false = true
theorem closed_set {listed : Array Bool} (h : Closed md ops listed) {i : Nat} (hi : i ∈ Region.ready md ops listed) : Closed md ops (listed.setIfInBounds i true) := by
  intro k o hk ho e he hb
  refine getD_set_true ?_
  by_cases e' : k = i
  · subst e'
    obtain ⟨_, o', ho', hall⟩ := mem_ready.1 hi
    rw [ho] at ho'
    injection ho' with ho'
    subst ho'
    exact hall e he hb
  · rw [getD_set_ne false (fun x => e' x.symm)] at hk
    exact h k o hk ho e he hb
theorem closed_none (k : Nat) : Closed md ops (Array.replicate k false) := by
  intro i o hi
  rw [Array.getD_eq_getD_getElem?, Array.getElem?_replicate] at hi
  split at hi <;> cases hi
theorem below_listed {listed : Array Bool} (hc : Closed md ops listed) : ∀ (f i j : Nat), (∀ o, ops[i]? = some o → ∀ e ∈ o.after, Region.binds md e = true → listed.getD e.on false = true) → below md ops f i j = true → listed.getD j false = true
  | 0, _, _, _, h => by cases h
  | f + 1, i, j, ha, h => by
    unfold below at h
    cases ho : ops[i]? with
    | none => rw [ho] at h; cases h
    | some o =>
      simp only [ho] at h
      obtain ⟨e, he, hb⟩ := Array.any_eq_true'.1 h
      obtain ⟨hb1, hb2⟩ := Bool.and_eq_true _ _ ▸ hb
      have hl := ha o ho e he hb1
      rcases Bool.or_eq_true _ _ ▸ hb2 with h2 | h2
      · have : e.on = j := by simpa using h2
        rwa [this] at hl
      · exact below_listed hc f e.on j (fun o' ho' => hc e.on o' hl ho') h2
theorem getD_two {l : Array Bool} {j : Nat} (h1 : l.getD j false = true) (h2 : l.getD j true = false) : False := by
  rcases Nat.lt_or_ge j l.size with h | h
  · simp [h] at h1 h2
    rw [h1] at h2
    cases h2
  · simp [Array.getElem?_eq_none h] at h1
theorem ev_same (a : Act) (d : Tmp) (v : Value) (h : d < a.tmps.size) : (a.put (some d) v).eval (.tmp d) = v := by
  simp [Act.put, Act.eval, h]
theorem ev_ne (a : Act) (d e : Tmp) (v : Value) (h : d ≠ e) : (a.put (some d) v).eval (.tmp e) = a.eval (.tmp e) := by
  simp [Act.put, Act.eval, h]
theorem ev_size (a : Act) (d : Tmp) (v : Value) : (a.put (some d) v).tmps.size = a.tmps.size := by
  simp [Act.put]
theorem quietAt_load {o : Oper} {a : Act} {u : World} (ty : TypeId) (x : Operand) (ho : o.op = .load ty x) (b off : Nat) (vs : List Value) (d : TypeDesc) (hx : a.eval x = .pointer (some ⟨b, off, none⟩)) (hc : u.rangeAt b off vs)
    (hu : P.underlying ty = some d) (hd : d.isRow = true) (hi : (P.info? ty).map (·.size) = some vs.length) : o.quietAt P a C u (.agg vs.toArray) := by
  unfold Oper.quietAt execOp
  simp only [ho, hx, Instr.loadAt, Instr.sureAddr, Sem.run_bind, Sem.run_pure, Result.andThen_ok, run_loadVar_mid u b off ty vs d hc hu hd hi]
  exact ⟨rfl, rfl⟩
theorem quietAt_move {o : Oper} {a : Act} {u : World} (x : Operand) (ho : o.op = .move x) : o.quietAt P a C u (a.eval x) := by
  unfold Oper.quietAt execOp
  simp only [ho]
  exact ⟨rfl, rfl⟩
theorem quietAt_mv {o : Oper} {a : Act} {u : World} (x : Operand) (v : Value) (ho : o.op = .move x) (hx : a.eval x = v) : o.quietAt P a C u v := by
  rw [← hx]
  exact quietAt_move x ho
theorem map2 (f : Operand → Value) (x y : Operand) (u v : Value) (hx : f x = u) (hy : f y = v) : #[x, y].map f = #[u, v] := by simp [hx, hy]
theorem quietAt_nil {o : Oper} {a : Act} {u : World} (x : Operand) (ho : o.op = .nilCheck x) (p : Addr) (hx : a.eval x = .pointer (some p)) : o.quietAt P a C u (.pointer (some p)) := by
  unfold Oper.quietAt execOp
  simp only [ho, hx]
  exact ⟨rfl, rfl⟩
theorem quietAt_call {o : Oper} {a : Act} {u : World} (f : FuncId) (fn : Func) (hf : P.funcs[f]? = some fn) (hname : (fn.name == "runtime.NumGoroutine") = false) (hbody : fn.body.isNone = false) (xs : Array Operand) (ts : Array TypeId) (ho : o.op = .call { callee := .value (.func f), args := xs, argTypes := ts }) (v : Value) (args : Array Value) (hargs : xs.map a.eval = args) (hc : Calls P f args u fun e w' => e = .returned v ∧ C w') : o.quietAt P a C u v := by
  have hr : (callFunc f args).run P u = .ok (.enter f args) u := by
    have hpr : (program).run P u = .ok P u := rfl
    unfold callFunc
    rw [Sem.run_bind, hpr]
    simp only [Result.andThen_ok, hf, hname, hbody]
    rfl
  unfold Oper.quietAt execOp
  simp [ho, resolve, Deferred.ofValue, Act.eval, invoke]
  rw [hargs, hr]
  exact ⟨rfl, hc⟩
theorem quietAt_field {o : Oper} {a : Act} {u : World} (t : TypeId) (x : Operand) (i : Nat) (ho : o.op = .fieldAddr t x i) (p q : Addr) (hx : a.eval x = .pointer (some p)) (hr : (Instr.fieldAt t (.pointer (some p)) i).run P u = .ok (.pointer (some q)) u) : o.quietAt P a C u (.pointer (some q)) := by
  unfold Oper.quietAt execOp
  simp only [ho, hx, Sem.run_bind, hr, Result.andThen_ok]
  exact ⟨rfl, rfl⟩
theorem yield_at {a : Act} {j : Nat} {d : Tmp} {b : Bool} (hd : ((ops[j]?).bind (·.dst)) = some d) (hb : a.eval (.tmp d) = .bool b) : yielded ops a.tmps j = some b := by
  unfold yielded
  rw [hd]
  simp only [Act.eval, Array.getD_eq_getD_getElem?] at hb
  cases h : a.tmps[d]? with
  | none => rw [h] at hb; cases hb
  | some v => rw [h] at hb; simp at hb; simp [h, hb]
theorem quietAt_pick {o : Oper} {a : Act} {u : World} (c x y : Operand) (b : Bool) (v : Value) (ho : o.op = .pick c x y) (hc : a.eval c = .bool b) (hv : (if b then a.eval x else a.eval y) = v) : o.quietAt P a C u v := by
  unfold Oper.quietAt execOp
  have h1 : (asBool (.bool b)).run P u = .ok b u := rfl
  simp only [ho, hc, Sem.run_bind, h1, Result.andThen_ok]
  exact ⟨rfl, hv⟩
theorem quietAt_bin {o : Oper} {a : Act} {u : World} (op : BinOp) (t : TypeId) (x y : Operand) (ty : TypeId) (vx vy v : Value) (ho : o.op = .binOp op t x y ty) (hx : a.eval x = vx) (hy : a.eval y = vy) (hr : (do eqGuard op t x y vx vy; binOp op t vx vy : Sem Value).run P u = .ok v u) : o.quietAt P a C u v := by
  subst hx hy
  unfold Oper.quietAt execOp
  simp only [ho]
  rw [Sem.run_bind, hr]
  exact ⟨rfl, rfl⟩
theorem quietAt_idx {o : Oper} {a : Act} {u : World} (t : TypeId) (x i : Operand) (vx vi v : Value) (ho : o.op = .indexAddr t x i) (hx : a.eval x = vx) (hi : a.eval i = vi) (hr : (Instr.indexAt t vx vi).run P u = .ok v u) : o.quietAt P a C u v := by
  subst hx hi
  unfold Oper.quietAt execOp
  simp only [ho]
  rw [Sem.run_bind, hr]
  exact ⟨rfl, rfl⟩
theorem quietAt_ld {o : Oper} {a : Act} {u : World} (t : TypeId) (x : Operand) (vx v : Value) (ho : o.op = .load t x) (hx : a.eval x = vx) (hr : (Instr.loadAt t vx).run P u = .ok v u) : o.quietAt P a C u v := by
  subst hx
  unfold Oper.quietAt execOp
  simp only [ho]
  rw [Sem.run_bind, hr]
  exact ⟨rfl, rfl⟩
theorem quietAt_un {o : Oper} {a : Act} {u : World} (op : UnOp) (t : TypeId) (x : Operand) (vx v : Value) (ho : o.op = .unOp op t x) (hx : a.eval x = vx) (hr : (Op.unary op vx).run P u = .ok v u) : o.quietAt P a C u v := by
  subst hx
  unfold Oper.quietAt execOp
  simp only [ho]
  rw [Sem.run_bind, hr]
  exact ⟨rfl, rfl⟩
theorem map1 (f : Operand → Value) (x : Operand) (u : Value) (hx : f x = u) : #[x].map f = #[u] := by simp [hx]
end
end Go.Proofs.YtdmnhkgiojkphaaGreatDoor

namespace Go.Proofs.YtdmnhkgiojkphaaGreatDoor
open Go Go.RowKit

section
variable {P : Program} {ops : Array Oper} {Q : Exit → Act → World → Prop} {Φ : Nat → Value → World → Prop} {a0 : Act} {w0 : World} {n : Nat} {row0 : Option Nat} {row : Nat → Option Nat}

/-- slot s is written by none of them. -/
def noDst (ops : Array Oper) (s : Nat) : Bool := ops.toList.all fun o => o.dst != some s
def dstB (ops : Array Oper) : Bool := (List.range ops.size).all fun i => (List.range ops.size).all fun j => i == j || (match (ops[i]?).bind (·.dst), (ops[j]?).bind (·.dst) with | some d, some e => d != e | _, _ => true)
def dltB (ops : Array Oper) (m : Nat) : Bool := ops.toList.all fun o => match o.dst with | some d => decide (d < m) | none => true
def backB (ops : Array Oper) : Bool := (List.range ops.size).all fun i => match ops[i]? with | some o => o.after.all (fun e => !(Region.binds .any e) || decide (e.on < i)) | none => true

structure Held (ops : Array Oper) (Φ : Nat → Value → World → Prop) (row0 : Option Nat) (row : Nat → Option Nat) (a0 : Act) (w0 : World) (listed : Array Bool) (a : Act) (w : World) : Prop where
  grown : w0.grownBy w row0
  sz : a.tmps.size = a0.tmps.size
  defers : a.defers = a0.defers
  out : ∀ s, noDst ops s = true → a.eval (.tmp s) = a0.eval (.tmp s)
  got : ∀ k o d, ops[k]? = some o → o.dst = some d → listed.getD k false = true → Φ k (a.eval (.tmp d)) w
  stored : ∀ k, listed.getD k false = true → ∃ v, Φ k v w
  pure_ : (∀ k, row k ≠ none → listed.getD k false = false) → w0.grownBy w none

/-- what is to be shown of operation i. -/
def Shown (P : Program) (ops : Array Oper) (Q : Exit → Act → World → Prop) (Φ : Nat → Value → World → Prop) (row0 : Option Nat) (row : Nat → Option Nat) (a0 : Act) (w0 : World) (i : Nat) (o : Oper) : Prop :=
  ∀ (A : Act) (u : World), w0.grownBy u row0 → (row i ≠ none → w0.grownBy u none) → A.tmps.size = a0.tmps.size → (∀ s, noDst ops s = true → A.eval (.tmp s) = a0.eval (.tmp s)) →
    (∀ e ∈ o.after, Region.binds .any e = true → ∀ o' d', ops[e.on]? = some o' → o'.dst = some d' → Φ e.on (A.eval (.tmp d')) u) →
    if Region.wanted o (yielded ops A.tmps) = true then o.wp P A u (fun A' u' => ∃ v, A' = A.put o.dst v ∧ u.grownBy u' (row i) ∧ Φ i v u') Q else Φ i undef u

theorem noDst_ne {s k : Nat} {o : Oper} (h : noDst ops s = true) (ho : ops[k]? = some o) : o.dst ≠ some s := by
  have := List.all_eq_true.1 h o (by have := Array.mem_of_getElem? ho; simpa using this)
  simpa using this
theorem dst_ne {i j : Nat} {o o' : Oper} {d e : Tmp} (h : dstB ops = true) (hi : ops[i]? = some o) (hj : ops[j]? = some o') (hd : o.dst = some d) (he : o'.dst = some e) (hne : i ≠ j) : d ≠ e := by
  have h1 := List.all_eq_true.1 h i (List.mem_range.2 (Array.getElem?_eq_some_iff.1 hi).1)
  have h2 := List.all_eq_true.1 h1 j (List.mem_range.2 (Array.getElem?_eq_some_iff.1 hj).1)
  simp only [hi, hj, Option.bind_some, hd, he, Bool.or_eq_true, beq_iff_eq, bne_iff_ne] at h2
  exact h2.resolve_left hne
theorem dst_lt {m k : Nat} {o : Oper} {d : Tmp} (h : dltB ops m = true) (ho : ops[k]? = some o) (hd : o.dst = some d) : d < m := by
  have := List.all_eq_true.1 h o (by have := Array.mem_of_getElem? ho; simpa using this)
  simpa [hd] using this
theorem back_lt {k : Nat} {o : Oper} (h : backB ops = true) (ho : ops[k]? = some o) : ∀ e ∈ o.after, Region.binds .any e = true → e.on < k := by
  intro e he hb
  have h1 := List.all_eq_true.1 h k (List.mem_range.2 (Array.getElem?_eq_some_iff.1 ho).1)
  simp only [ho] at h1
  have h2 := Array.all_eq_true_iff_forall_mem.1 h1 e he
  simp only [hb, Bool.not_true, Bool.false_or, decide_eq_true_eq] at h2
  exact h2
theorem countP_less {p q : Nat → Bool} : ∀ (l : List Nat), (∀ x ∈ l, q x = true → p x = true) → ∀ x ∈ l, p x = true → q x = false → l.countP q < l.countP p
  | [], _, x, hx, _, _ => by cases hx
  | y :: l, h, x, hx, hp, hq => by
    have hle : l.countP q ≤ l.countP p := List.countP_mono_left (fun z hz => h z (List.mem_cons_of_mem _ hz))
    rw [List.countP_cons, List.countP_cons]
    rcases List.mem_cons.1 hx with rfl | hx
    · rw [if_pos hp, if_neg (by rw [hq]; decide)]; omega
    · have := countP_less l (fun z hz => h z (List.mem_cons_of_mem _ hz)) x hx hp hq
      have hy := h y List.mem_cons_self
      cases hqy : q y with
      | true => rw [if_pos (hy hqy), if_pos rfl]; omega
      | false => rw [if_neg (by decide)]; split <;> omega
def left (n : Nat) (listed : Array Bool) : Nat := (List.range n).countP fun k => !(listed.getD k false)
theorem first_unlisted {listed : Array Bool} (hb : backB ops = true) (hls : listed.size = ops.size) : ∀ (k : Nat), k < ops.size → listed.getD k false = false → Region.ready .any ops listed ≠ [] := by
  intro k
  induction k using Nat.strongRecOn with
  | ind k ih =>
    intro hk hl
    by_cases hex : ∃ j, j < k ∧ listed.getD j false = false
    · obtain ⟨j, hj, hjl⟩ := hex
      exact ih j hj (by omega) hjl
    · have ho : ops[k]? = some ops[k] := Array.getElem?_eq_getElem hk
      refine List.ne_nil_of_mem (mem_ready.2 ⟨?_, ops[k], ho, fun e he hbi => ?_⟩)
      · rw [Array.getD_eq_getD_getElem?, Array.getElem?_eq_getElem (by omega)] at hl ⊢
        simpa using hl
      · have := back_lt hb ho e he hbi
        cases h : listed.getD e.on false with
        | true => rfl
        | false => exact absurd ⟨e.on, this, h⟩ hex
theorem set_size {l : Array Bool} (i : Nat) : (l.setIfInBounds i true).size = l.size := by simp
theorem getD_set_iff {l : Array Bool} {i k : Nat} (h : (l.setIfInBounds i true).getD k false = true) : k = i ∨ l.getD k false = true := by
  by_cases e : i = k
  · exact .inl e.symm
  · rw [getD_set_ne false e] at h
    exact .inr h
/-- the frame behind: what was there, each of them written. -/
def wrote (ops : List Oper) (A a : Act) : Act := ops.foldl (fun acc o => match o.dst with | none => acc | some d => acc.put (some d) (A.eval (.tmp d))) a
theorem wrote_size (A : Act) : ∀ (l : List Oper) (a : Act), (wrote l A a).tmps.size = a.tmps.size
  | [], _ => rfl
  | o :: l, a => by
    show (wrote l A (match o.dst with | none => a | some d => a.put (some d) (A.eval (.tmp d)))).tmps.size = _
    rw [wrote_size A l]
    cases o.dst with
    | none => rfl
    | some d => exact ev_size a d _
theorem wrote_defers (A : Act) : ∀ (l : List Oper) (a : Act), (wrote l A a).defers = a.defers
  | [], _ => rfl
  | o :: l, a => by
    show (wrote l A (match o.dst with | none => a | some d => a.put (some d) (A.eval (.tmp d)))).defers = _
    rw [wrote_defers A l]
    cases o.dst <;> rfl
theorem wrote_at (A : Act) (s : Nat) : ∀ (l : List Oper) (a : Act), s < a.tmps.size → (a.eval (.tmp s) = A.eval (.tmp s) ∨ ∃ o ∈ l, o.dst = some s) → (wrote l A a).eval (.tmp s) = A.eval (.tmp s)
  | [], a, _, h => by
    rcases h with h | ⟨o, ho, _⟩
    · exact h
    · cases ho
  | o :: l, a, hs, h => by
    show (wrote l A (match o.dst with | none => a | some d => a.put (some d) (A.eval (.tmp d)))).eval (.tmp s) = _
    cases hd : o.dst with
    | none =>
      refine wrote_at A s l a hs ?_
      rcases h with h | ⟨o', ho', hd'⟩
      · exact .inl h
      · rcases List.mem_cons.1 ho' with rfl | hm
        · rw [hd] at hd'; cases hd'
        · exact .inr ⟨o', hm, hd'⟩
    | some d =>
      refine wrote_at A s l _ (by rw [ev_size]; exact hs) ?_
      by_cases e : d = s
      · subst e
        exact .inl (ev_same a d _ hs)
      · rw [ev_ne a d s _ e]
        rcases h with h | ⟨o', ho', hd'⟩
        · exact .inl h
        · rcases List.mem_cons.1 ho' with rfl | hm
          · rw [hd] at hd'; injection hd' with hd'; exact absurd hd' e
          · exact .inr ⟨o', hm, hd'⟩
theorem act_ext {A B : Act} (hs : A.tmps.size = B.tmps.size) (hd : A.defers = B.defers) (h : ∀ s, s < B.tmps.size → A.eval (.tmp s) = B.eval (.tmp s)) : A = B := by
  obtain ⟨ta, da⟩ := A
  obtain ⟨tb, db⟩ := B
  simp only at hs hd
  subst hd
  congr 1
  refine Array.ext hs (fun i h1 h2 => ?_)
  have := h i h2
  simpa [Act.eval, Array.getD_eq_getD_getElem?, h1, h2] using this
theorem Held.frame {listed : Array Bool} {A : Act} {u : World} (h : Held ops Φ row0 row a0 w0 listed A u) : A = wrote ops.toList A a0 := by
  refine act_ext (by rw [wrote_size]; exact h.sz) (by rw [wrote_defers]; exact h.defers) (fun s hs => ?_)
  rw [wrote_size] at hs
  refine (wrote_at A s _ _ hs ?_).symm
  cases hn : noDst ops s with
  | true => exact .inl (h.out s hn).symm
  | false =>
    right
    unfold noDst at hn
    have := List.all_eq_false.1 hn
    obtain ⟨o, ho, hne⟩ := this
    exact ⟨o, ho, by simpa using hne⟩
/-- the part that has come up. -/
theorem Held.part {listed : Array Bool} {A : Act} {u : World} (h : Held ops Φ row0 row a0 w0 listed A u) (n : Nat) (hsame : ∀ s, noDst (ops.toList.take n).toArray s = true → A.eval (.tmp s) = a0.eval (.tmp s)) : A = wrote (ops.toList.take n) A a0 := by
  refine act_ext (by rw [wrote_size]; exact h.sz) (by rw [wrote_defers]; exact h.defers) (fun s hs => ?_)
  rw [wrote_size] at hs
  refine (wrote_at A s _ _ hs ?_).symm
  cases hn : noDst (ops.toList.take n).toArray s with
  | true => exact .inl (hsame s hn).symm
  | false =>
    right
    unfold noDst at hn
    have := List.all_eq_false.1 hn
    obtain ⟨o, ho, hne⟩ := this
    exact ⟨o, by simpa using ho, by simpa using hne⟩
def AllIdx {α : Type} (S : Nat → α → Prop) : Nat → List α → Prop
  | _, [] => True
  | k, x :: l => S k x ∧ AllIdx S (k + 1) l
theorem AllIdx.get {α : Type} {S : Nat → α → Prop} : ∀ {k : Nat} {l : List α}, AllIdx S k l → ∀ (j : Nat) (x : α), l[j]? = some x → S (k + j) x
  | _, [], _, j, x, h => by simp at h
  | k, y :: l, hs, 0, x, h => by
    simp only [List.getElem?_cons_zero, Option.some.injEq] at h
    subst h
    exact hs.1
  | k, y :: l, hs, j + 1, x, h => by
    have := AllIdx.get hs.2 j x (by simpa using h)
    rwa [show k + 1 + j = k + (j + 1) by omega] at this
end
end Go.Proofs.YtdmnhkgiojkphaaGreatDoor

namespace Go.Proofs.YtdmnhkgiojkphaaGreatDoor
open Go Go.RowKit

theorem noRow_one : ∀ (i j : Nat), (fun _ : Nat => (none : Option Nat)) i ≠ none → (fun _ : Nat => (none : Option Nat)) j ≠ none → i = j := fun _ _ h _ => absurd rfl h
section
variable {P : Program} {ops : Array Oper} {Q : Exit → Act → World → Prop} {Φ : Nat → Value → World → Prop} {i : Nat} {o : Oper} {A : Act} {u : World}
theorem dep (h : ∀ e ∈ o.after, Region.binds .any e = true → ∀ o' d', ops[e.on]? = some o' → o'.dst = some d' → Φ e.on (A.eval (.tmp d')) u) (j : Nat) (hj : (o.after.any fun e => e.on == j && Region.binds .any e) = true) (d' : Tmp) (hd : ((ops[j]?).bind (·.dst)) = some d') : Φ j (A.eval (.tmp d')) u := by
  obtain ⟨e, he, hb⟩ := Array.any_eq_true'.1 hj
  obtain ⟨h1, h2⟩ := Bool.and_eq_true _ _ ▸ hb
  have e1 : e.on = j := by simpa using h1
  subst e1
  cases ho : ops[e.on]? with
  | none => rw [ho] at hd; cases hd
  | some o' =>
    rw [ho] at hd
    exact h e he h2 o' d' ho hd
theorem depL {Φs : List (Value → World → Prop)} (h : ∀ e ∈ o.after, Region.binds .any e = true → ∀ o' d', ops[e.on]? = some o' → o'.dst = some d' → Φs.getD e.on (fun _ _ => True) (A.eval (.tmp d')) u) (j : Nat) (hj : (o.after.any fun e => e.on == j && Region.binds .any e) = true) (d' : Tmp) (hd : ((ops[j]?).bind (·.dst)) = some d') : Φs.getD j (fun _ _ => True) (A.eval (.tmp d')) u :=
  dep (Φ := fun k => Φs.getD k (fun _ _ => True)) h j hj d' hd
theorem ifw_none {X Y : Prop} (hg : o.guard = none) (h : X) : if Region.wanted o (yielded ops A.tmps) = true then X else Y := by
  rw [if_pos (by simp [Region.wanted, hg])]; exact h
theorem ifw_want {X Y : Prop} (j : Nat) (b : Bool) (d : Tmp) (hg : o.guard = some (j, b)) (hd : ((ops[j]?).bind (·.dst)) = some d) (hb : A.eval (.tmp d) = .bool b) (h : X) : if Region.wanted o (yielded ops A.tmps) = true then X else Y := by
  rw [if_pos (by simp [Region.wanted, hg, yield_at hd hb])]; exact h
theorem wp_quiet1 {C : World → Prop} {K : Act → World → Prop} (v : Value) (h : o.quietAt P A C u v) (hK : ∀ u', (u' = u ∨ C u') → K (A.put o.dst v) u') : o.wp P A u K Q := by
  unfold Oper.wp
  unfold Oper.quietAt at h
  generalize (execOp A.eval o).run P u = r at *
  cases r with
  | ok n w' =>
    cases n <;> simp only [Oper.quietUpon] at h <;> simp only [Oper.upon]
    case value x =>
      obtain ⟨e1, e2⟩ := h
      rw [e1, e2]
      exact hK _ (.inl rfl)
    case skip =>
      obtain ⟨e1, e2⟩ := h
      rw [e1, ← e2]
      exact hK _ (.inl rfl)
    case enter f args =>
      obtain ⟨e1, h⟩ := h
      rw [e1]
      refine h.mono ?_
      rintro e w'' ⟨rfl, hc⟩
      exact hK _ (.inr hc)
    all_goals exact h.elim
  | halt x w' => simp only [Oper.quietUpon] at h
/-- a value that is the same in every world. -/
theorem shown_q {Ψ : Value → World → Prop} {row : Option Nat} (v : Value) (h : o.quietAt P A (fun u' => u.grownBy u' none) u v) (hΦ : ∀ u', u.grownBy u' none → Ψ v u') : o.wp P A u (fun A' u' => ∃ v, A' = A.put o.dst v ∧ u.grownBy u' row ∧ Ψ v u') Q :=
  wp_quiet1 v h (fun u' hu => by
    have hg : u.grownBy u' none := by
      rcases hu with rfl | hu
      · exact ⟨rfl, rfl, rfl, Nat.le_refl _, fun _ _ _ => rfl⟩
      · exact hu
    exact ⟨v, rfl, gsome hg row, hΦ u' hg⟩)
/-- a call whose value hangs on the world. -/
theorem shown_call {Ψ : Value → World → Prop} {row : Option Nat} (f : FuncId) (fn : Func) (hf : P.funcs[f]? = some fn) (hname : (fn.name == "runtime.NumGoroutine") = false) (hbody : fn.body.isNone = false) (xs : Array Operand) (ts : Array TypeId) (ho : o.op = .call { callee := .value (.func f), args := xs, argTypes := ts }) (args : Array Value) (hargs : xs.map A.eval = args) (hc : Calls P f args u fun e w' => ∃ v, e = .returned v ∧ u.grownBy w' none ∧ Ψ v w') : o.wp P A u (fun A' u' => ∃ v, A' = A.put o.dst v ∧ u.grownBy u' row ∧ Ψ v u') Q := by
  have hr : (callFunc f args).run P u = .ok (.enter f args) u := by
    have hpr : (program).run P u = .ok P u := rfl
    unfold callFunc
    rw [Sem.run_bind, hpr]
    simp only [Result.andThen_ok, hf, hname, hbody]
    rfl
  unfold Oper.wp execOp
  simp [ho, resolve, Deferred.ofValue, Act.eval, invoke]
  rw [hargs, hr]
  simp only [Oper.upon]
  refine hc.mono ?_
  rintro e w' ⟨v, rfl, hg, hv⟩
  exact ⟨v, rfl, gsome hg row, hv⟩
theorem quietAt_len {C : World → Prop} (x : Operand) (t : TypeId) (ho : o.op = .call { callee := .builtin .len, args := #[x], argTypes := #[t] }) (a : Option Addr) (n c : Nat) (hx : A.eval x = .slice a n c) (hu : P.underlying t = some (.slice (P.elem t))) : o.quietAt P A C u (.int .i64 n) := by
  unfold Oper.quietAt execOp
  simp [ho, hx, resolve, invoke, builtin, run_len_slice u t o.type a n c hu]
  exact ⟨rfl, rfl⟩
end
end Go.Proofs.YtdmnhkgiojkphaaGreatDoor

namespace Go.Proofs.YtdmnhkgiojkphaaGreatDoor
open Go Go.RowKit

section
variable {P : Program} {ops : Array Oper} {Q : Exit → Act → World → Prop} {Φ : Nat → Value → World → Prop} {a0 : Act} {w0 : World} {n : Nat} {row0 : Option Nat} {row : Nat → Option Nat}

def seqBX (ops : Array Oper) (n : Nat) : Bool := (List.range ops.size).all fun i => decide (i < n) || (List.range i).all fun k => below .any ops 9 i k
theorem seq_listedX {i k : Nat} {listed : Array Bool} (hq : seqBX ops n = true) (hc : Closed .any ops listed) (hi : i ∈ Region.ready .any ops listed) (hn : n ≤ i) (hk : k < i) : listed.getD k false = true := by
  obtain ⟨_, o, ho, hall⟩ := mem_ready.1 hi
  have h1 := List.all_eq_true.1 hq i (List.mem_range.2 (Array.getElem?_eq_some_iff.1 ho).1)
  have h2 : ((List.range i).all fun k => below .any ops 9 i k) = true := by
    rcases Bool.or_eq_true _ _ ▸ h1 with h | h
    · have : i < n := by simpa using h
      omega
    · exact h
  have h3 := List.all_eq_true.1 h2 k (List.mem_range.2 hk)
  refine below_listed hc 9 i k (fun o' ho' => ?_) h3
  rw [ho] at ho'
  injection ho' with ho'
  subst ho'
  exact hall
theorem seq_goX (hb : backB ops = true) (hq : seqBX ops n = true) : ∀ (r m : Nat), m + r = ops.size → n ≤ m → ∀ (fuel : Nat) (listed : Array Bool) (a : Act) (w : World), r ≤ fuel → listed.size = ops.size → Closed .any ops listed → (∀ k, k < m → listed.getD k false = true) → (∀ k, m ≤ k → listed.getD k false = false) →
    wpList P ops Q (ops.toList.drop m) a w → wpAny P .any ops Q fuel listed a w
  | 0, m, hm, _, fuel, listed, a, w, _, hls, _, hl, _, h => by
    have hr : Region.ready .any ops listed = [] := by
      apply List.eq_nil_iff_forall_not_mem.2
      intro j hj
      obtain ⟨hun, o, ho, _⟩ := mem_ready.1 hj
      have := (Array.getElem?_eq_some_iff.1 ho).1
      exact getD_two (hl j (by omega)) hun
    rw [List.drop_of_length_le (by simp; omega)] at h
    cases fuel with
    | zero => exact ⟨hr, h⟩
    | succ f => exact ⟨fun _ => h, fun j hj => by rw [hr] at hj; cases hj⟩
  | r + 1, m, hm, hn, fuel, listed, a, w, hf, hls, hc, hl, hu, h => by
    obtain ⟨f, rfl⟩ : ∃ f, fuel = f + 1 := ⟨fuel - 1, by omega⟩
    have hms : m < ops.size := by omega
    have ho : ops[m]? = some ops[m] := Array.getElem?_eq_getElem hms
    refine ⟨fun h0 => absurd h0 (first_unlisted hb hls m hms (hu m (Nat.le_refl _))), fun i hi => ?_⟩
    have hi' := mem_ready.1 hi
    obtain ⟨hun, o, hoi, _⟩ := hi'
    have his := (Array.getElem?_eq_some_iff.1 hoi).1
    have him : i = m := by
      rcases Nat.lt_trichotomy i m with h1 | h1 | h1
      · exact (getD_two (hl i h1) hun).elim
      · exact h1
      · have := seq_listedX hq hc hi (by omega) h1
        rw [hu m (Nat.le_refl _)] at this
        cases this
    subst him
    have hd : ops.toList.drop i = ops[i] :: ops.toList.drop (i + 1) := by
      rw [List.drop_eq_getElem_cons (by simpa using hms)]
      simp
    rw [hd] at h
    have hnext : ∀ a' w', wpList P ops Q (ops.toList.drop (i + 1)) a' w' → wpAny P .any ops Q f (listed.setIfInBounds i true) a' w' := fun a' w' hw => by
      refine seq_goX hb hq r (i + 1) (by omega) (by omega) f _ a' w' (by omega) (by rw [set_size]; exact hls) (closed_set hc hi) (fun k hk => ?_) (fun k hk => ?_) hw
      · by_cases e : k = i
        · subst e
          rw [Array.getD_eq_getD_getElem?, Array.getElem?_setIfInBounds_self_of_lt (by omega)]
          rfl
        · exact getD_set_true (hl k (by omega))
      · rw [getD_set_ne false (by omega)]
        exact hu k (by omega)
    unfold wpList at h
    unfold wpOp
    rw [ho]
    simp only
    split
    · rename_i hw
      rw [if_pos hw] at h
      exact h.imp (Oper.wp_mono hnext) id
    · rename_i hw
      rw [if_neg hw] at h
      exact hnext _ _ h
theorem wpAny_eachX (hdst : dstB ops = true) (hlt : dltB ops a0.tmps.size = true) (hb : backB ops = true) (hq : seqBX ops n = true) (hns : n ≤ ops.size)
    (hone : ∀ i j, row i ≠ none → row j ≠ none → i = j) (hrow : ∀ i, row i = none ∨ row i = row0) (hst : ∀ i k v u u', k ≠ i → Φ k v u → u.grownBy u' (row i) → Φ k v u') (hstep : ∀ i o, ops[i]? = some o → i < n → Shown P ops Q Φ row0 row a0 w0 i o)
    (hlast : ∀ (A : Act) (u : World) (listed : Array Bool), Held ops Φ row0 row a0 w0 listed A u → (∀ k, k < n → listed.getD k false = true) → (∀ k, n ≤ k → listed.getD k false = false) → wpList P ops Q (ops.toList.drop n) A u) :
    ∀ (fuel : Nat) (listed : Array Bool) (a : Act) (w : World), listed.size = ops.size → (∀ k, n ≤ k → listed.getD k false = false) → Closed .any ops listed → Held ops Φ row0 row a0 w0 listed a w → left n listed + (ops.size - n) ≤ fuel → wpAny P .any ops Q fuel listed a w := by
  intro fuel
  induction fuel with
  | zero =>
    intro listed a w hls hn hc hh hf
    have hall : ∀ k, k < n → listed.getD k false = true := fun k hk => by
      cases h : listed.getD k false with
      | true => rfl
      | false =>
        have : 0 < left n listed := List.countP_pos_iff.2 ⟨k, List.mem_range.2 hk, by simp only [h]; rfl⟩
        omega
    exact seq_goX hb hq (ops.size - n) n (by omega) (Nat.le_refl _) 0 listed a w (by omega) hls hc hall hn (hlast a w listed hh hall hn)
  | succ fuel ih =>
    intro listed a w hls hn hc hh hf
    by_cases hex : ∃ k, k < n ∧ listed.getD k false = false
    · obtain ⟨k0, hk0, hk0l⟩ := hex
      refine ⟨fun h0 => absurd h0 (first_unlisted hb hls k0 (by omega) hk0l), fun i hi => ?_⟩
      obtain ⟨hun, o, ho, hall⟩ := mem_ready.1 hi
      have his : i < ops.size := (Array.getElem?_eq_some_iff.1 ho).1
      have hin : i < n := by
        rcases Nat.lt_or_ge i n with h | h
        · exact h
        · have := seq_listedX hq hc hi h (by omega : k0 < i)
          rw [hk0l] at this
          cases this
      have hiu0 : listed.getD i false = false := by
        rw [Array.getD_eq_getD_getElem?, Array.getElem?_eq_getElem (by omega)] at hun ⊢
        simpa using hun
      have hs := hstep i o ho hin a w hh.grown (fun hri => hh.pure_ (fun k hk => by rw [hone k i hk hri]; exact hiu0)) hh.sz hh.out (fun e' he' hbi o' d' ho' hd' => hh.got _ _ _ ho' hd' (hall e' he' hbi))
      have hnext : ∀ (v : Value) (u' : World), (∀ k v, k ≠ i → Φ k v w → Φ k v u') → w0.grownBy u' row0 → (row i = none → w.grownBy u' none) → Φ i v u' → wpAny P .any ops Q fuel (listed.setIfInBounds i true) (a.put o.dst v) u' := fun v u' hkp hg hpu hv => by
        refine ih _ _ _ (by rw [set_size]; exact hls) (fun k hk => ?_) (closed_set hc hi) ⟨?_, ?_, ?_, fun s hs' => ?_, fun k o' d hk hd hl => ?_, fun k hl => ?_, fun hall0 => ?_⟩ ?_
        · rw [getD_set_ne false (by omega)]; exact hn k hk
        · exact hg
        · rw [← hh.sz]
          cases hd : o.dst with
          | none => rfl
          | some d => rw [ev_size]
        · rw [← hh.defers]
          cases hd : o.dst with
          | none => rfl
          | some d => rfl
        · rw [← hh.out s hs']
          cases hd : o.dst with
          | none => rfl
          | some d => exact ev_ne a d s v (fun e' => noDst_ne hs' ho (by rw [hd, e']))
        · by_cases hki : k = i
          · subst hki
            rw [ho] at hk
            injection hk with hk
            subst hk
            rw [hd, ev_same a d v (by rw [hh.sz]; exact dst_lt hlt ho hd)]
            exact hv
          · have hl' : listed.getD k false = true := (getD_set_iff hl).resolve_left hki
            have hold := hkp _ _ hki (hh.got k o' d hk hd hl')
            cases hdo : o.dst with
            | none => exact hold
            | some di =>
              rw [ev_ne a di d v (dst_ne hdst ho hk hdo hd (fun e' => hki e'.symm))]
              exact hold
        · by_cases hki : k = i
          · subst hki; exact ⟨v, hv⟩
          · obtain ⟨v', hv'⟩ := hh.stored k ((getD_set_iff hl).resolve_left hki)
            exact ⟨v', hkp _ _ hki hv'⟩
        · have hri : row i = none := by
            cases hr : row i with
            | none => rfl
            | some x =>
              have := hall0 i (by rw [hr]; simp)
              rw [Array.getD_eq_getD_getElem?, Array.getElem?_setIfInBounds_self_of_lt (by omega)] at this
              cases this
          have h1 := hh.pure_ (fun k hk => by
            have := hall0 k hk
            by_cases hki : k = i
            · rw [hki, hri] at hk; exact absurd rfl hk
            · rw [getD_set_ne false (fun e => hki e.symm)] at this; exact this)
          have h2 := hpu hri
          exact ⟨h2.os.trans h1.os, h2.tape.trans h1.tape, h2.output.trans h1.output, Nat.le_trans h1.size h2.size, fun j hj hr => (h2.block j (Nat.lt_of_lt_of_le hj h1.size) hr).trans (h1.block j hj hr)⟩
        · have hiu : listed.getD i false = false := by
            rw [Array.getD_eq_getD_getElem?, Array.getElem?_eq_getElem (by omega)] at hun ⊢
            simpa using hun
          have : left n (listed.setIfInBounds i true) < left n listed := by
            refine countP_less _ (fun x _ hx => ?_) i (List.mem_range.2 hin) (by simp only [hiu]; rfl) ?_
            · cases hxl : listed.getD x false with
              | false => rfl
              | true => rw [getD_set_true hxl] at hx; exact hx
            · rw [Array.getD_eq_getD_getElem?, Array.getElem?_setIfInBounds_self_of_lt (by omega)]
              rfl
          omega
      unfold wpOp
      simp only [ho]
      split
      · rename_i hw
        rw [if_pos hw] at hs
        refine .inl (Oper.wp_mono (fun a' w' hq => ?_) hs)
        obtain ⟨v, rfl, hg, hv⟩ := hq
        refine hnext v w' (fun k v' hk h => hst i k v' _ _ hk h hg) ?_ (fun hr => by rw [hr] at hg; exact hg) hv
        have h1 := hh.grown
        refine ⟨hg.os.trans h1.os, hg.tape.trans h1.tape, hg.output.trans h1.output, Nat.le_trans h1.size hg.size, fun j hj hr => (hg.block j (Nat.lt_of_lt_of_le hj h1.size) ?_).trans (h1.block j hj hr)⟩
        rcases hrow i with e | e
        · rw [e]; simp
        · rw [e]; exact hr
      · rename_i hw
        rw [if_neg hw] at hs
        exact hnext undef w (fun _ _ _ h => h) hh.grown (fun _ => ⟨rfl, rfl, rfl, Nat.le_refl _, fun _ _ _ => rfl⟩) hs
    · have hall : ∀ k, k < n → listed.getD k false = true := fun k hk => by
        cases h : listed.getD k false with
        | true => rfl
        | false => exact absurd ⟨k, hk, h⟩ hex
      exact seq_goX hb hq (ops.size - n) n (by omega) (Nat.le_refl _) _ listed a w (by omega) hls hc hall hn (hlast a w listed hh hall hn)
theorem wp_region_eachX {id : Nat} {a : Act} {w : World} (hm : P.follows .mixedOrders = true) (Φ : Nat → Value → World → Prop) (row0 : Option Nat) (row : Nat → Option Nat) (n : Nat) (hdst : dstB ops = true) (hlt : dltB ops a.tmps.size = true) (hb : backB ops = true) (hq : seqBX ops n = true) (hns : n ≤ ops.size)
    (hone : ∀ i j, row i ≠ none → row j ≠ none → i = j) (hrow : ∀ i, row i = none ∨ row i = row0) (hst : ∀ i k v u u', k ≠ i → Φ k v u → u.grownBy u' (row i) → Φ k v u') (hstep : ∀ i o, ops[i]? = some o → i < n → Shown P ops Q Φ row0 row a w i o)
    (hlast : ∀ (A : Act) (u : World) (listed : Array Bool), Held ops Φ row0 row a w listed A u → (∀ k, k < n → listed.getD k false = true) → (∀ k, n ≤ k → listed.getD k false = false) → wpList P ops Q (ops.toList.drop n) A u) : (Code.region id ops true).wp P Q a w := by
  have hr : ∀ k, (Array.replicate ops.size false).getD k false = false := fun k => by
    rw [Array.getD_eq_getD_getElem?, Array.getElem?_replicate]; split <;> rfl
  refine wp_region_any hm (wpAny_eachX hdst hlt hb hq hns hone hrow hst hstep hlast _ _ _ _ (by simp) (fun k _ => hr k) (closed_none _) ⟨⟨rfl, rfl, rfl, Nat.le_refl _, fun _ _ _ => rfl⟩, rfl, rfl, fun _ _ => rfl, fun k o d _ _ hl => ?_, fun k hl => ?_, fun _ => ⟨rfl, rfl, rfl, Nat.le_refl _, fun _ _ _ => rfl⟩⟩ ?_)
  · rw [hr k] at hl; cases hl
  · rw [hr k] at hl; cases hl
  · have : left n (Array.replicate ops.size false) ≤ n := Nat.le_trans List.countP_le_length (by simp)
    omega
theorem wp_region_listX {id : Nat} {a : Act} {w : World} (hm : P.follows .mixedOrders = true) (Φs : List (Value → World → Prop)) (row0 : Option Nat) (row : Nat → Option Nat) (n : Nat) (hdst : dstB ops = true) (hlt : dltB ops a.tmps.size = true) (hb : backB ops = true) (hq : seqBX ops n = true) (hns : n ≤ ops.size)
    (hone : ∀ i j, row i ≠ none → row j ≠ none → i = j) (hrow : ∀ i, row i = none ∨ row i = row0)
    (hst : AllIdx (fun k p => ∀ i v u u', k ≠ i → p v u → u.grownBy u' (row i) → p v u') 0 Φs)
    (hstep : AllIdx (Shown P ops Q (fun k => Φs.getD k (fun _ _ => True)) row0 row a w) 0 (ops.toList.take n))
    (hlast : ∀ (A : Act) (u : World) (listed : Array Bool), Held ops (fun k => Φs.getD k (fun _ _ => True)) row0 row a w listed A u → (∀ k, k < n → listed.getD k false = true) → wpList P ops Q (ops.toList.drop n) A u) : (Code.region id ops true).wp P Q a w := by
  refine wp_region_eachX hm (fun k => Φs.getD k (fun _ _ => True)) row0 row n hdst hlt hb hq hns hone hrow (fun i k v u u' hki h hg => ?_) (fun i o ho hin => ?_) (fun A u listed hh hall _ => hlast A u listed hh hall)
  · cases hk : Φs[k]? with
    | none =>
      show (Φs.getD k (fun _ _ => True)) v u'
      rw [List.getD_eq_getElem?_getD, hk]
      trivial
    | some p =>
      have := hst.get k p hk
      rw [Nat.zero_add] at this
      have h' : p v u := by
        have h2 : (Φs.getD k (fun _ _ => True)) v u := h
        rw [List.getD_eq_getElem?_getD, hk] at h2
        exact h2
      show (Φs.getD k (fun _ _ => True)) v u'
      rw [List.getD_eq_getElem?_getD, hk]
      exact this i v u u' hki h' hg
  · have := hstep.get i o (by rw [List.getElem?_take, if_pos hin, Array.getElem?_toList]; exact ho)
    rw [Nat.zero_add] at this
    exact this
end
end Go.Proofs.YtdmnhkgiojkphaaGreatDoor
