/- A region that draws its order and whose one loud operation waits for all others: the others are walked in the order of the text, each quiet in a class of worlds; then the loud one. -/
import Derived.Test.YtdmnhkgiojkphaaGreatDoorAg
namespace Go.Proofs.YtdmnhkgiojkphaaGreatDoor
open Go Go.RowKit

section
variable {P : Program} {ops : Array Oper} {md : Region.Mode} {C : World → Prop} {n : Nat}

def below (md : Region.Mode) (ops : Array Oper) : Nat → Nat → Nat → Bool
  | 0, _, _ => false
  | f + 1, i, j =>
    match ops[i]? with
    | none => false
    | some o => o.after.any fun e => Region.binds md e && (e.on == j || below md ops f e.on j)
def lastB (md : Region.Mode) (ops : Array Oper) (n : Nat) : Bool := (List.range ops.size).all fun j => j == n || below md ops 3 n j
/-- what waits for something has it behind it. -/
def Closed (md : Region.Mode) (ops : Array Oper) (listed : Array Bool) : Prop :=
  ∀ i o, listed.getD i false = true → ops[i]? = some o → ∀ e ∈ o.after, Region.binds md e = true → listed.getD e.on false = true
theorem closed_set {listed : Array Bool} (h : Closed md ops listed) {i : Nat} (hi : i ∈ Region.ready md ops listed) : Closed md ops (listed.setIfInBounds i true) := by
  intro k o hk ho e he hb
  refine getD_set_true ?_
  by_cases e' : k = i
  · subst e'
    obtain ⟨_, o', ho', hall⟩ := mem_ready.1 hi
    rw [ho] at ho'
    injection ho' with ho'
    subst ho'
    exact hall e he hb
  · rw [getD_set_ne false (fun x => e' x.symm)] at hk
    exact h k o hk ho e he hb
theorem closed_none (k : Nat) : Closed md ops (Array.replicate k false) := by
  intro i o hi
  rw [Array.getD_eq_getD_getElem?, Array.getElem?_replicate] at hi
  split at hi <;> cases hi
theorem below_listed {listed : Array Bool} (hc : Closed md ops listed) : ∀ (f i j : Nat), (∀ o, ops[i]? = some o → ∀ e ∈ o.after, Region.binds md e = true → listed.getD e.on false = true) → below md ops f i j = true → listed.getD j false = true
  | 0, _, _, _, h => by cases h
  | f + 1, i, j, ha, h => by
    unfold below at h
    cases ho : ops[i]? with
    | none => rw [ho] at h; cases h
    | some o =>
      simp only [ho] at h
      obtain ⟨e, he, hb⟩ := Array.any_eq_true'.1 h
      obtain ⟨hb1, hb2⟩ := Bool.and_eq_true _ _ ▸ hb
      have hl := ha o ho e he hb1
      rcases Bool.or_eq_true _ _ ▸ hb2 with h2 | h2
      · have : e.on = j := by simpa using h2
        rwa [this] at hl
      · exact below_listed hc f e.on j (fun o' ho' => hc e.on o' hl ho') h2
/-- when it may come up, all others have. -/
theorem last_ready (hL : lastB md ops n = true) {listed : Array Bool} (hc : Closed md ops listed) (h : n ∈ Region.ready md ops listed) (j : Nat) (hj : j < ops.size) (hne : j ≠ n) : listed.getD j false = true := by
  obtain ⟨_, o, ho, hall⟩ := mem_ready.1 h
  have := List.all_eq_true.1 hL j (List.mem_range.2 hj)
  rcases Bool.or_eq_true _ _ ▸ this with h1 | h1
  · exact absurd (by simpa using h1) hne
  · refine below_listed hc 3 n j (fun o' ho' => ?_) h1
    rw [ho] at ho'
    injection ho' with ho'
    subst ho'
    exact hall
theorem getD_two {l : Array Bool} {j : Nat} (h1 : l.getD j false = true) (h2 : l.getD j true = false) : False := by
  rcases Nat.lt_or_ge j l.size with h | h
  · simp [h] at h1 h2
    rw [h1] at h2
    cases h2
  · simp [Array.getElem?_eq_none h] at h1
theorem last_done (hL : lastB md ops n = true) {listed : Array Bool} (hc : Closed md ops listed) (h : n ∈ Region.ready md ops listed) : Region.ready md ops (listed.setIfInBounds n true) = [] := by
  apply List.eq_nil_iff_forall_not_mem.2
  intro j hj
  obtain ⟨hun, o, ho, _⟩ := mem_ready.1 hj
  have hjs : j < ops.size := (Array.getElem?_eq_some_iff.1 ho).1
  by_cases e : j = n
  · subst e
    have := (mem_ready.1 h).1
    rcases Nat.lt_or_ge j listed.size with h' | h'
    · rw [Array.getD_eq_getD_getElem?, Array.getElem?_setIfInBounds_self_of_lt h'] at hun
      cases hun
    · rw [Array.getD_eq_getD_getElem?, Array.getElem?_eq_none h'] at this
      cases this
  · have h1 := last_ready hL hc h j hjs e
    rw [getD_set_ne true (fun e' => e e'.symm)] at hun
    exact getD_two h1 hun
/-- Whatever order is picked: all but the last are quiet. -/
def wpAnyL (P : Program) (md : Region.Mode) (ops : Array Oper) (C : World → Prop) (n : Nat) (Q : Act → Prop) : Nat → Array Bool → Act → Prop
  | 0, _, _ => False
  | fuel + 1, listed, a => Region.ready md ops listed ≠ [] ∧ ∀ i ∈ Region.ready md ops listed, (i = n → Q a) ∧ (i ≠ n → qOp P ops C i (wpAnyL P md ops C n Q fuel (listed.setIfInBounds i true)) a)
theorem wpAny_of_L (hL : lastB md ops n = true) {Q : Act → Prop} {Q' : Exit → Act → World → Prop} (hQ : ∀ a w, C w → Q a → wpOp P ops Q' n (fun a' w' => Q' .normal a' w') a w) :
    ∀ (fuel : Nat) (listed : Array Bool) (a : Act) (w : World), Closed md ops listed → C w → wpAnyL P md ops C n Q fuel listed a → wpAny P md ops Q' fuel listed a w
  | 0, _, _, _, _, _, h => h.elim
  | fuel + 1, listed, a, w, hc, hw, h => ⟨fun h0 => absurd h0 h.1, fun i hi => by
      by_cases e : i = n
      · subst e
        have hd := last_done hL hc hi
        refine wpOp_mono (fun a' w' hq => ?_) (hQ a w hw ((h.2 i hi).1 rfl))
        cases fuel with
        | zero => exact ⟨hd, hq⟩
        | succ f => exact ⟨fun _ => hq, fun j hj => by rw [hd] at hj; cases hj⟩
      · exact wpOp_of_qOp hw (fun a' w' hw' => wpAny_of_L hL hQ fuel _ a' w' (closed_set hc hi) hw') ((h.2 i hi).2 e)⟩
/-- a quiet one that may come up may be taken first. -/
theorem wpAnyL_first (hL : lastB md ops n = true) {Q : Act → Prop} {i : Nat} {oi : Oper} {v : Value} (hi : ops[i]? = some oi) (hin : i ≠ n) (hsel : ∀ (j : Nat) (o : Oper) cs b, ops[j]? = some o → o.op ≠ .select cs b) :
    ∀ (fuel : Nat) (listed : Array Bool) (a : Act), Closed md ops listed →
      (∀ j oj, ops[j]? = some oj → j ≠ i → listed.getD j true = false → (∀ e ∈ oj.after, Region.binds md e = true → e.on ≠ i) → oi.apart ops oj = true) →
      i ∈ Region.ready md ops listed → YieldsIn P ops C oi v a → wpAnyL P md ops C n Q fuel (listed.setIfInBounds i true) (a.put oi.dst v) → wpAnyL P md ops C n Q (fuel + 1) listed a
  | 0, _, _, _, _, _, _, H => H.elim
  | fuel + 1, listed, a, hc, hfree, hr, hy, H => ⟨List.ne_nil_of_mem hr, fun j hj => by
      have hiu := (mem_ready.1 hr).1
      have his : i < ops.size := (Array.getElem?_eq_some_iff.1 hi).1
      refine ⟨fun e => ?_, fun hjn => ?_⟩
      · subst e
        exact (getD_two (last_ready hL hc hj i his hin) hiu).elim
      · by_cases hji : j = i
        · subst hji
          exact hy.qOp hi H
        · obtain ⟨hjun, oj, hoj, hall⟩ := mem_ready.1 hj
          have hno : ∀ e ∈ oj.after, Region.binds md e = true → e.on ≠ i := fun e he hb hon => by
            have := hall e he hb
            rw [hon] at this
            exact getD_two this hiu
          have h1 := (H.2 j (ready_mono hj hji)).2 hjn
          refine qOp_mono (fun a' h3 => ?_) (qOp_put hoj (hfree j oj hoj hji hjun hno) (fun cs b => hsel i oi cs b hi) (fun cs b => hsel j oj cs b hoj) hy h1)
          refine wpAnyL_first hL hi hin hsel fuel (listed.setIfInBounds j true) a' (closed_set hc hj) (fun k ok hk hki hun hno' => ?_) (ready_mono hr (fun e => hji e.symm)) h3.1 ?_
          · refine hfree k ok hk hki ?_ hno'
            by_cases hjk : j = k
            · subst hjk; exact hjun
            · rwa [getD_set_ne true hjk] at hun
          · rw [Array.setIfInBounds_comm _ _ hji]
            exact h3.2⟩
theorem wpAnyL_lex (hL : lastB md ops n = true) {Q : Act → Prop} (hs : Region.noSelect ops = true) : ∀ (l : List Oper) (k : Nat) (listed : Array Bool) (a : Act), Closed md ops listed → (∀ j, j < l.length → l[j]? = ops[k + j]?) → k + l.length = n →
    Region.lexFrom md ops (l.length + 1) k listed = true → wpQuiet P ops C Q l a → wpAnyL P md ops C n Q (l.length + 1) listed a
  | [], k, listed, a, hc, _, hk, hB, h => by
    have hk' : k = n := by simpa using hk
    subst hk'
    simp only [List.length_nil, Region.lexFrom, Bool.and_eq_true] at hB
    obtain ⟨⟨hr, _⟩, he⟩ := hB
    have hr' : k ∈ Region.ready md ops listed := by simpa using hr
    refine ⟨List.ne_nil_of_mem hr', fun i hi => ⟨fun _ => h, fun hne => ?_⟩⟩
    have := ready_mono hi hne
    rw [last_done hL hc hr'] at this
    cases this
  | o :: l, k, listed, a, hc, hl, hk, hB, h => by
    have h0 : ops[k]? = some o := by simpa using (hl 0 (by simp)).symm
    rw [List.length_cons, Region.lexFrom] at hB
    simp only [Bool.and_eq_true] at hB
    obtain ⟨⟨hr, hf⟩, hB'⟩ := hB
    have hst : qOp P ops C k (wpQuiet P ops C Q l) a := by unfold qOp; simp only [h0]; exact h
    obtain ⟨v, hy, hK⟩ := yieldsIn_of_qOp h0 hst
    have hkn : k ≠ n := by simp at hk; omega
    refine wpAnyL_first hL h0 hkn (Region.noSelect_spec hs) (l.length + 1) listed a hc (Region.free_spec h0 hf) (by simpa using hr) hy ?_
    exact wpAnyL_lex hL hs l (k + 1) _ _ (closed_set hc (by simpa using hr)) (fun j hj => by have := hl (j + 1) (by simp; omega); simpa [Nat.add_assoc, Nat.add_comm 1 j] using this) (by simp at hk; omega) hB' hK
/-- THE LAW. -/
theorem wp_region_last {id : Nat} {Q : Exit → Act → World → Prop} {a : Act} {w : World} {o : Oper} (hm : P.follows .mixedOrders = true) (hB : Region.lexB .any ops = true) (n : Nat) (hn : ops.size = n + 1) (hL : lastB .any ops n = true) (ho : ops[n]? = some o) (hgd : o.guard = none) (C : World → Prop) (hC : C w.drew)
    (l : List Oper) (hl : ops.toList.dropLast = l) (h : wpQuiet P ops C (fun a' => ∀ w', C w' → o.wp P a' w' (fun a'' w'' => Q .normal a'' w'') Q) l a) : (Code.region id ops true).wp P Q a w := by
  simp only [Region.lexB, Bool.and_eq_true] at hB
  subst hl
  have hlen : (ops.toList.dropLast).length = n := by simp; omega
  refine wp_region_any hm (wpAny_of_L (C := C) (Q := fun a' => ∀ w', C w' → o.wp P a' w' (fun a'' w'' => Q .normal a'' w'') Q) hL (fun a' w' hw' hq => ?_) _ _ _ _ (closed_none _) hC ?_)
  · unfold wpOp
    simp only [ho]
    rw [if_pos (by simp [Region.wanted, hgd])]
    exact .inl (hq w' hw')
  · have := wpAnyL_lex (P := P) (C := C) (md := .any) hL hB.1 ops.toList.dropLast 0 (Array.replicate ops.size false) a (closed_none _) (fun j hj => by
      rw [hlen] at hj
      rw [Nat.zero_add, List.getElem?_dropLast, if_pos (by simp; omega), Array.getElem?_toList]) (by omega) (by rw [hlen, ← hn]; exact hB.2) h
    rw [hlen, ← hn] at this
    exact this
/-- the same, the frame under a letter. -/
theorem wp_region_lastA {id : Nat} {Q : Exit → Act → World → Prop} {a : Act} {w : World} {o : Oper} (hm : P.follows .mixedOrders = true) (hB : Region.lexB .any ops = true) (n : Nat) (hn : ops.size = n + 1) (hL : lastB .any ops n = true) (ho : ops[n]? = some o) (hgd : o.guard = none) (C : World → Prop) (hC : C w.drew)
    (l : List Oper) (hl : ops.toList.dropLast = l) (h : ∀ A : Act, A = a → wpQuiet P ops C (fun a' => ∀ w', C w' → o.wp P a' w' (fun a'' w'' => Q .normal a'' w'') Q) l A) : (Code.region id ops true).wp P Q a w :=
  wp_region_last hm hB n hn hL ho hgd C hC l hl (h a rfl)
theorem ev_same (a : Act) (d : Tmp) (v : Value) (h : d < a.tmps.size) : (a.put (some d) v).eval (.tmp d) = v := by
  simp [Act.put, Act.eval, h]
theorem ev_ne (a : Act) (d e : Tmp) (v : Value) (h : d ≠ e) : (a.put (some d) v).eval (.tmp e) = a.eval (.tmp e) := by
  simp [Act.put, Act.eval, h]
theorem ev_size (a : Act) (d : Tmp) (v : Value) : (a.put (some d) v).tmps.size = a.tmps.size := by
  simp [Act.put]
/-- one quiet operation. -/
theorem wpQuiet_one {Q : Act → Prop} {o : Oper} {rest : List Oper} {a : Act} (hgd : o.guard = none) (v : Value) (hv : ∀ u, C u → o.quietAt P a C u v) (h : wpQuiet P ops C Q rest (a.put o.dst v)) : wpQuiet P ops C Q (o :: rest) a := by
  unfold wpQuiet
  rw [if_pos (by simp [Region.wanted, hgd])]
  exact ⟨v, hv, h⟩
theorem quietAt_load {o : Oper} {a : Act} {u : World} (ty : TypeId) (x : Operand) (ho : o.op = .load ty x) (b off : Nat) (vs : List Value) (d : TypeDesc) (hx : a.eval x = .pointer (some ⟨b, off, none⟩)) (hc : u.rangeAt b off vs)
    (hu : P.underlying ty = some d) (hd : d.isRow = true) (hi : (P.info? ty).map (·.size) = some vs.length) : o.quietAt P a C u (.agg vs.toArray) := by
  unfold Oper.quietAt execOp
  simp only [ho, hx, Instr.loadAt, Instr.sureAddr, Sem.run_bind, Sem.run_pure, Result.andThen_ok, run_loadVar_mid u b off ty vs d hc hu hd hi]
  exact ⟨rfl, rfl⟩
theorem quietAt_move {o : Oper} {a : Act} {u : World} (x : Operand) (ho : o.op = .move x) : o.quietAt P a C u (a.eval x) := by
  unfold Oper.quietAt execOp
  simp only [ho]
  exact ⟨rfl, rfl⟩
theorem quietAt_mv {o : Oper} {a : Act} {u : World} (x : Operand) (v : Value) (ho : o.op = .move x) (hx : a.eval x = v) : o.quietAt P a C u v := by
  rw [← hx]
  exact quietAt_move x ho
theorem lt_put {a : Act} {d : Option Tmp} {v : Value} {k : Nat} (h : k < a.tmps.size) : k < (a.put d v).tmps.size := by
  cases d with
  | none => exact h
  | some d => rw [ev_size]; exact h
theorem map2 (f : Operand → Value) (x y : Operand) (u v : Value) (hx : f x = u) (hy : f y = v) : #[x, y].map f = #[u, v] := by simp [hx, hy]
theorem quietAt_nil {o : Oper} {a : Act} {u : World} (x : Operand) (ho : o.op = .nilCheck x) (p : Addr) (hx : a.eval x = .pointer (some p)) : o.quietAt P a C u (.pointer (some p)) := by
  unfold Oper.quietAt execOp
  simp only [ho, hx]
  exact ⟨rfl, rfl⟩
theorem quietAt_call {o : Oper} {a : Act} {u : World} (f : FuncId) (fn : Func) (hf : P.funcs[f]? = some fn) (hname : (fn.name == "runtime.NumGoroutine") = false) (hbody : fn.body.isNone = false) (xs : Array Operand) (ts : Array TypeId) (ho : o.op = .call { callee := .value (.func f), args := xs, argTypes := ts }) (v : Value) (args : Array Value) (hargs : xs.map a.eval = args) (hc : Calls P f args u fun e w' => e = .returned v ∧ C w') : o.quietAt P a C u v := by
  have hr : (callFunc f args).run P u = .ok (.enter f args) u := by
    have hpr : (program).run P u = .ok P u := rfl
    unfold callFunc
    rw [Sem.run_bind, hpr]
    simp only [Result.andThen_ok, hf, hname, hbody]
    rfl
  unfold Oper.quietAt execOp
  simp [ho, resolve, Deferred.ofValue, Act.eval, invoke]
  rw [hargs, hr]
  exact ⟨rfl, hc⟩
theorem quietAt_field {o : Oper} {a : Act} {u : World} (t : TypeId) (x : Operand) (i : Nat) (ho : o.op = .fieldAddr t x i) (p q : Addr) (hx : a.eval x = .pointer (some p)) (hr : (Instr.fieldAt t (.pointer (some p)) i).run P u = .ok (.pointer (some q)) u) : o.quietAt P a C u (.pointer (some q)) := by
  unfold Oper.quietAt execOp
  simp only [ho, hx, Sem.run_bind, hr, Result.andThen_ok]
  exact ⟨rfl, rfl⟩
theorem quietAt_arr {o : Oper} {a : Act} {u : World} (t : TypeId) (x : Operand) (ho : o.op = .sliceToArrayPointer t x) (p : Option Addr) (len c n : Nat) (e : TypeId) (hx : a.eval x = .slice p len c) (hu : P.underlying t = some (.array n e)) (hl : n ≤ len) : o.quietAt P a C u (.pointer p) := by
  unfold Oper.quietAt execOp
  simp only [ho, hx, Instr.arrayAt, Sem.run_bind, run_underlying hu, Result.andThen_ok]
  rw [if_neg (by omega)]
  exact ⟨rfl, rfl⟩
theorem yield_at {a : Act} {j : Nat} {d : Tmp} {b : Bool} (hd : ((ops[j]?).bind (·.dst)) = some d) (hb : a.eval (.tmp d) = .bool b) : yielded ops a.tmps j = some b := by
  unfold yielded
  rw [hd]
  simp only [Act.eval, Array.getD_eq_getD_getElem?] at hb
  cases h : a.tmps[d]? with
  | none => rw [h] at hb; cases hb
  | some v => rw [h] at hb; simp at hb; simp [h, hb]
/-- a guarded one that is wanted. -/
theorem wpQuiet_want' {Q : Act → Prop} {o : Oper} {rest : List Oper} {a : Act} (j : Nat) (b : Bool) (d : Tmp) (hgd : o.guard = some (j, b)) (hd : ((ops[j]?).bind (·.dst)) = some d) (hb : a.eval (.tmp d) = .bool b) (v : Value) (hv : ∀ u, C u → o.quietAt P a C u v) (h : wpQuiet P ops C Q rest (a.put o.dst v)) : wpQuiet P ops C Q (o :: rest) a := by
  unfold wpQuiet
  rw [if_pos (by simp [Region.wanted, hgd, yield_at hd hb])]
  exact ⟨v, hv, h⟩
/-- one that is passed over. -/
theorem wpQuiet_pass {Q : Act → Prop} {o : Oper} {rest : List Oper} {a : Act} (j : Nat) (b c : Bool) (d : Tmp) (hgd : o.guard = some (j, b)) (hd : ((ops[j]?).bind (·.dst)) = some d) (hb : a.eval (.tmp d) = .bool c) (hbc : c ≠ b) (h : wpQuiet P ops C Q rest (a.put o.dst undef)) : wpQuiet P ops C Q (o :: rest) a := by
  unfold wpQuiet
  rw [if_neg (by simp [Region.wanted, hgd, yield_at hd hb, hbc])]
  exact h
theorem quietAt_as {o : Oper} {a : Act} {u : World} (x : Operand) (v : Value) (ho : o.op = .assign x) (hx : a.eval x = v) : o.quietAt P a C u v := by
  subst hx
  unfold Oper.quietAt execOp
  simp only [ho]
  exact ⟨rfl, rfl⟩
theorem quietAt_pick {o : Oper} {a : Act} {u : World} (c x y : Operand) (b : Bool) (v : Value) (ho : o.op = .pick c x y) (hc : a.eval c = .bool b) (hv : (if b then a.eval x else a.eval y) = v) : o.quietAt P a C u v := by
  unfold Oper.quietAt execOp
  have h1 : (asBool (.bool b)).run P u = .ok b u := rfl
  simp only [ho, hc, Sem.run_bind, h1, Result.andThen_ok]
  exact ⟨rfl, hv⟩
theorem quietAt_bin {o : Oper} {a : Act} {u : World} (op : BinOp) (t : TypeId) (x y : Operand) (ty : TypeId) (vx vy v : Value) (ho : o.op = .binOp op t x y ty) (hx : a.eval x = vx) (hy : a.eval y = vy) (hr : (do eqGuard op t x y vx vy; binOp op t vx vy : Sem Value).run P u = .ok v u) : o.quietAt P a C u v := by
  subst hx hy
  unfold Oper.quietAt execOp
  simp only [ho]
  rw [Sem.run_bind, hr]
  exact ⟨rfl, rfl⟩
theorem quietAt_idx {o : Oper} {a : Act} {u : World} (t : TypeId) (x i : Operand) (vx vi v : Value) (ho : o.op = .indexAddr t x i) (hx : a.eval x = vx) (hi : a.eval i = vi) (hr : (Instr.indexAt t vx vi).run P u = .ok v u) : o.quietAt P a C u v := by
  subst hx hi
  unfold Oper.quietAt execOp
  simp only [ho]
  rw [Sem.run_bind, hr]
  exact ⟨rfl, rfl⟩
theorem quietAt_ld {o : Oper} {a : Act} {u : World} (t : TypeId) (x : Operand) (vx v : Value) (ho : o.op = .load t x) (hx : a.eval x = vx) (hr : (Instr.loadAt t vx).run P u = .ok v u) : o.quietAt P a C u v := by
  subst hx
  unfold Oper.quietAt execOp
  simp only [ho]
  rw [Sem.run_bind, hr]
  exact ⟨rfl, rfl⟩
theorem quietAt_cv {o : Oper} {a : Act} {u : World} (s t : TypeId) (x : Operand) (vx v : Value) (ho : o.op = .convert s t x) (hx : a.eval x = vx) (hr : (convert s t vx).run P u = .ok v u) : o.quietAt P a C u v := by
  subst hx
  unfold Oper.quietAt execOp
  simp only [ho]
  rw [Sem.run_bind, hr]
  exact ⟨rfl, rfl⟩
theorem quietAt_un {o : Oper} {a : Act} {u : World} (op : UnOp) (t : TypeId) (x : Operand) (vx v : Value) (ho : o.op = .unOp op t x) (hx : a.eval x = vx) (hr : (Op.unary op vx).run P u = .ok v u) : o.quietAt P a C u v := by
  subst hx
  unfold Oper.quietAt execOp
  simp only [ho]
  rw [Sem.run_bind, hr]
  exact ⟨rfl, rfl⟩
theorem map1 (f : Operand → Value) (x : Operand) (u : Value) (hx : f x = u) : #[x].map f = #[u] := by simp [hx]
theorem ev_const (a : Act) (v : Value) : a.eval (.const v) = v := rfl
/-- a region all of whose operations are quiet in a class of worlds, the frame under a letter. -/
theorem wp_region_quietA {id : Nat} {Q : Exit → Act → World → Prop} {a : Act} {w : World} (hm : P.follows .mixedOrders = true) (hB : Region.lexB .any ops = true) (C : World → Prop) (hC : C w.drew)
    (l : List Oper) (hl : ops.toList = l) (h : ∀ A : Act, A = a → wpQuiet P ops C (fun a' => ∀ w', C w' → Q .normal a' w') l A) : (Code.region id ops true).wp P Q a w := by
  subst hl
  exact wp_region_quiet hm hB hC (h a rfl)
end
end Go.Proofs.YtdmnhkgiojkphaaGreatDoor
