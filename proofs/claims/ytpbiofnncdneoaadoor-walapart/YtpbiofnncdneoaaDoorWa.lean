/- Scopes of several labels; rows of slices of bytes. -/
import Derived.Test.YtpbiofnncdneoaaDoorDp
import Derived.Test.YtpbiofnncdneoaaDoorRD
import Derived.ScopeJumps
import Derived.WalkMore
namespace Go.Proofs.YtpbiofnncdneoaaDoor
open Go Go.RowKit Go.MapKept Go.MuLone
open Go.RowKit (wrap32 wrap64)

/-- As Q; by a goto to label l: J l. -/
def jumps (J : Nat → Act → World → Prop) (Q : Exit → Act → World → Prop) : Exit → Act → World → Prop
  | .goto l, a, w => J l a w
  | e, a, w => Q e a w
theorem wp_scope_many {P : Program} {a : Act} {w : World} {Q : Exit → Act → World → Prop} {c : Code} (J : Nat → Act → World → Prop) (μ : Nat → Act → World → Nat)
    (first : c.wp P (jumps J Q) a w)
    (pass : ∀ l a w, J l a w → ∃ rest, findLabel c l = some rest ∧ rest.wp P (jumps (fun l' a' w' => J l' a' w' ∧ μ l' a' w' < μ l a w) Q) a w) : (Code.scope c).wp P Q a w := by
  intro b k cs
  have hg : ∀ l rest, findLabel c l = some rest → gotoIn l (.inScope c :: k) = some (.code rest :: .inScope c :: k) := fun l rest hf => by simp [gotoIn, hf]
  have key : ∀ n l a w, μ l a w = n → J l a w → ∀ rest, findLabel c l = some rest → ∃ e a' w', Q e a' w' ∧ Arrives P (lone (b.at a (.code rest :: .inScope c :: k)) cs w) b k cs e a' w' := by
    intro n
    induction n using Nat.strongRecOn with
    | _ n ih =>
      intro l a w hn hJ rest hf
      obtain ⟨rest', hf', hp⟩ := pass l a w hJ
      rw [hf] at hf'
      injection hf' with hf'
      subst hf'
      obtain ⟨e, a₁, w₁, hq, harr⟩ := hp b (.inScope c :: k) cs
      cases e with
      | normal => exact ⟨.normal, a₁, w₁, hq, Steps.trans harr (.one step_inScope)⟩
      | exit id => exact ⟨.exit id, a₁, w₁, hq, fun k' hk => harr k' (by simp [exitTo, hk])⟩
      | goto l' =>
        obtain ⟨hJ', hlt⟩ := hq
        obtain ⟨rest₂, hf₂, _⟩ := pass l' a₁ w₁ hJ'
        obtain ⟨e₂, a₂, w₂, hq₂, harr₂⟩ := ih _ (by omega) l' a₁ w₁ rfl hJ' rest₂ hf₂
        exact ⟨e₂, a₂, w₂, hq₂, .of_steps (harr _ (hg l' rest₂ hf₂)) harr₂⟩
      | ret => exact ⟨_, a₁, w₁, hq, harr⟩
      | panic ch => exact ⟨_, a₁, w₁, hq, harr⟩
      | outgrown => exact ⟨_, a₁, w₁, hq, harr⟩
  obtain ⟨e, a₁, w₁, hq, harr⟩ := first b (.inScope c :: k) cs
  cases e with
  | normal => exact ⟨.normal, a₁, w₁, hq, .head step_scope (Steps.trans harr (.one step_inScope))⟩
  | exit id => exact ⟨.exit id, a₁, w₁, hq, fun k' hk => .head step_scope (harr k' (by simp [exitTo, hk]))⟩
  | goto l' =>
    obtain ⟨rest₂, hf₂, _⟩ := pass l' a₁ w₁ hq
    obtain ⟨e₂, a₂, w₂, hq₂, harr₂⟩ := key _ l' a₁ w₁ rfl hq rest₂ hf₂
    exact ⟨e₂, a₂, w₂, hq₂, .of_steps (.head step_scope (harr _ (hg l' rest₂ hf₂))) harr₂⟩
  | ret => exact ⟨_, a₁, w₁, hq, .of_steps (.one step_scope) harr⟩
  | panic ch => exact ⟨_, a₁, w₁, hq, .of_steps (.one step_scope) harr⟩
  | outgrown => exact ⟨_, a₁, w₁, hq, .of_steps (.one step_scope) harr⟩

theorem jumps_mono {J J' : Nat → Act → World → Prop} {Q : Exit → Act → World → Prop} (h : ∀ l a w, J l a w → J' l a w) : ∀ e a w, jumps J Q e a w → jumps J' Q e a w := by
  intro e a w q
  cases e with
  | goto l => exact h l a w q
  | _ => exact q
theorem wp_scope_from {P : Program} {a : Act} {w : World} {Q : Exit → Act → World → Prop} {c y : Code} (l0 : Nat) (J : Nat → Act → World → Prop) (μ : Nat → Act → World → Nat) (hf : findLabel c l0 = some (.seq .skip y))
    (first : (∀ a w, J l0 a w → y.wp P (jumps J Q) a w) → c.wp P (jumps J Q) a w)
    (pass0 : ∀ a w, J l0 a w → y.wp P (jumps (fun l' a' w' => J l' a' w' ∧ μ l' a' w' < μ l0 a w) Q) a w)
    (pass : ∀ l a w, l ≠ l0 → J l a w → ∃ rest, findLabel c l = some rest ∧ rest.wp P (jumps (fun l' a' w' => J l' a' w' ∧ μ l' a' w' < μ l a w) Q) a w) : (Code.scope c).wp P Q a w := by
  refine wp_scope_many J μ (first fun a w hJ => Code.wp_mono (jumps_mono fun _ _ _ h => h.1) (pass0 a w hJ)) fun l a w hJ => ?_
  by_cases e : l = l0
  · subst e
    exact ⟨_, hf, wp_seq (wp_skip (pass0 a w hJ))⟩
  · exact pass l a w e hJ
/-- A slice of bytes that lies below B, or is a row of the call's own. -/
def Rb (B C : Nat) (w : World) (v : Value) (l : List UInt8) : Prop := Rd w (fun k => k < C) v l ∨ Out B w v l
theorem Rb.on {B C : Nat} {w w' : World} {v : Value} {l : List UInt8} {row : Option Nat} (h : Rb B C w v l) (hg : w.grownBy w' row) (h1 : ∀ k, row = some k → C ≤ k) (h2 : ∀ k, row = some k → Out B w v l → v.ownBlock ≠ some k) : Rb B C w' v l := by
  rcases h with h | h
  · refine .inl ?_
    obtain ⟨a, b, off, c, e, hc, hn, ha, hcell⟩ := h
    refine ⟨a, b, off, c, e, hc, hn, fun h0 => ⟨(ha h0).1, Nat.lt_of_lt_of_le (ha h0).2.1 hg.size, (ha h0).2.2⟩, fun i hi => ?_⟩
    have := ha (by omega)
    rw [← hcell i hi]
    exact cell_at hg this.2.1 (fun e => by have := h1 _ e; omega)
  · exact .inr (h.on hg (fun k hk => h2 k hk h))
theorem Rb.keep {B C : Nat} {w w' : World} {v : Value} {l : List UInt8} (h : Rb B C w v l) (hg : w.grownBy w' none) : Rb B C w' v l := h.on hg (fun k hk => by cases hk) (fun k hk => by cases hk)
theorem Rb.rd {B C : Nat} {w : World} {v : Value} {l : List UInt8} (h : Rb B C w v l) : ∃ F, Rd w F v l := by
  rcases h with h | h
  · exact ⟨_, h⟩
  · exact ⟨_, h.rd⟩
theorem Rb.len {B C : Nat} {w : World} {v : Value} {l : List UInt8} (h : Rb B C w v l) : ∃ a c, v = .slice a l.length c := by
  obtain ⟨F, a, b, off, c, e, _⟩ := h.rd
  exact ⟨a, c, e⟩
/-- Rows of bytes in memory, one slice a cell. -/
inductive Each (R : Value → List UInt8 → Prop) : List Value → List (List UInt8) → Prop
  | nil : Each R [] []
  | cons {v : Value} {l : List UInt8} {vs : List Value} {ls : List (List UInt8)} (h : R v l) (t : Each R vs ls) : Each R (v :: vs) (l :: ls)
theorem Each.mono {R S : Value → List UInt8 → Prop} (hs : ∀ v l, R v l → S v l) : ∀ {vs ls}, Each R vs ls → Each S vs ls
  | _, _, .nil => .nil
  | _, _, .cons h t => .cons (hs _ _ h) (t.mono hs)
theorem Each.app {R : Value → List UInt8 → Prop} {v : Value} {l : List UInt8} (h : R v l) : ∀ {vs ls}, Each R vs ls → Each R (vs ++ [v]) (ls ++ [l])
  | _, _, .nil => .cons h .nil
  | _, _, .cons h' t => .cons h' (Each.app h t)
theorem Each.len {R : Value → List UInt8 → Prop} : ∀ {vs ls}, Each R vs ls → vs.length = ls.length
  | _, _, .nil => rfl
  | _, _, .cons _ t => by simp only [List.length_cons, t.len]
theorem Each.get {R : Value → List UInt8 → Prop} : ∀ {vs ls}, Each R vs ls → ∀ i (h : i < ls.length), ∃ v, vs[i]? = some v ∧ R v ls[i]
  | _, _, .nil, i, h => by cases h
  | _, _, .cons h' t, 0, h => ⟨_, rfl, h'⟩
  | _, _, .cons h' t, i + 1, h => by
    obtain ⟨v, h1, h2⟩ := t.get i (by simpa using h)
    exact ⟨v, by simpa using h1, by simpa using h2⟩
/-- A row of slices of the call's own. -/
structure OutS (B C : Nat) (w : World) (v : Value) (ls : List (List UInt8)) : Prop where
  ex : ∃ vs, w.ownsRow B 36 1 v ls.length vs ∧ Each (Rb B C w) vs ls
theorem OutS.len {B C : Nat} {w : World} {v : Value} {ls : List (List UInt8)} (h : OutS B C w v ls) : ∃ a c, v = .slice a ls.length c := by
  obtain ⟨vs, h, -⟩ := h.ex
  rcases h.2 with ⟨h1, h2⟩ | ⟨g, cap, cur, h1, _⟩
  · exact ⟨none, 0, by rw [h1, h2]⟩
  · exact ⟨_, _, h1⟩
theorem OutS.keep {B C : Nat} {w w' : World} {v : Value} {ls : List (List UInt8)} (h : OutS B C w v ls) (hg : w.grownBy w' none) : OutS B C w' v ls := by
  obtain ⟨vs, h1, h2⟩ := h.ex
  exact ⟨vs, World.ownsRow.kept h1 hg (by cases v.ownBlock <;> simp), h2.mono (fun v l h => h.keep hg)⟩
theorem OutS.nil (B C : Nat) (w : World) : OutS B C w (.slice none 0 0) [] := ⟨[], ⟨rfl, .inl ⟨rfl, rfl⟩⟩, .nil⟩
theorem Tryd.info36 : (Tryd.prog.info? 36).map (fun i => (i.zero, i.size, i.bytes)) = some (some (.slice none 0 0), 1, 24) := by kernel_rfl
set_option maxRecDepth 100000 in
/-- append of one slice. -/
theorem app_row {w : World} {B C g : Nat} {vs : Value} {ls : List (List UInt8)} {v : Value} {l : List UInt8} (h : OutS B C w vs ls) (hb : Blk w g [v] 36) (ho : Rb B C w v l) (hE : ls.length ≤ 1000000) (hB : B ≤ w.heap.size) (hC : C ≤ B) (ty : TypeId) :
    ∃ v' w', (Builtin.append_ #[22, 22] ty #[vs, .slice (some ⟨g, 0, none⟩) 1 1]).run Tryd.prog w = .ok v' w' ∧ OutS B C w' v' (ls ++ [l]) ∧ w.grownBy w' vs.ownBlock ∧ (v'.ownBlock = vs.ownBlock ∨ v'.ownBlock = some w.heap.size) := by
  obtain ⟨inf, hi, hz0, hz1, hz2⟩ := info_parts Tryd.info36
  obtain ⟨xs, hrow, heach⟩ := h.ex
  obtain ⟨ba, bc, hbv⟩ := ho.len
  obtain ⟨v', w', h1, h2, h3, _, h4⟩ := run_append_own_at (P := Tryd.prog) w B 22 ty 36 inf (.slice none 0 0) 1 24 Tryd.underlying22 hi hz0 hz1 hz2 rfl (by decide) vs _ _ hrow ⟨g, 0, none⟩ 1 1 [v] rfl (by
    intro j u hu
    rw [Addr.add_lit, Nat.zero_add]
    rcases (show j = 0 ∨ 1 ≤ j by omega) with rfl | h2
    · injection hu with hu; subst hu; exact hb.cell 0
    · have : ([v] : List Value)[j]? = none := by simp; omega
      rw [this] at hu; cases hu) (by rw [hbv]; intro x hx; rw [List.mem_singleton.1 hx]; rfl) (by unfold maxLen; omega) (by omega) hB
  refine ⟨v', w', h1, ⟨xs ++ [v], by rw [List.length_append]; exact h2, ?_⟩, h3, h4⟩
  have hx : ∀ v l, Rb B C w v l → Rb B C w' v l := fun v l hr => hr.on h3 (fun k hk => Nat.le_trans hC (own_low hrow k hk)) (fun k hk hr => own_ne hrow hr (by decide) k hk)
  exact (heach.mono hx).app (hx _ _ ho)
theorem wpList_append_row {w : World} {ops : Array Oper} {rest : List Oper} {o : Oper} {a : Act} {Q : Exit → Act → World → Prop} (hgd : o.guard = none) (s x : Operand) (ho : o.op = .call { callee := .builtin .append, args := #[s, x], argTypes := #[22, 22] })
    (B C g : Nat) (ls : List (List UInt8)) (v : Value) (l : List UInt8) (hown : OutS B C w (a.eval s) ls) (hx : a.eval x = .slice (some ⟨g, 0, none⟩) 1 1) (hb : Blk w g [v] 36) (hr : Rb B C w v l) (hE : ls.length ≤ 1000000) (hB : B ≤ w.heap.size) (hC : C ≤ B)
    (h : ∀ v' w', OutS B C w' v' (ls ++ [l]) → w.grownBy w' (a.eval s).ownBlock → (v'.ownBlock = (a.eval s).ownBlock ∨ v'.ownBlock = some w.heap.size) → wpList Tryd.prog ops Q rest (a.put o.dst v') w') : wpList Tryd.prog ops Q (o :: rest) a w :=
  wpList_plain hgd fun _ hK => by
    obtain ⟨v', w', h1, h2, h3, h4⟩ := app_row hown hb hr hE hB hC o.type
    have hK' := hK _ _ (h v' w' h2 h3 h4)
    unfold Oper.wp
    simp [execOp, ho, resolve, invoke, builtin, hx, h1, Result.andThen]
    exact hK'
theorem Rb.base {B B' : Nat} {w : World} {v : Value} {l : List UInt8} {C : Nat} (h : Rb B C w v l) (hb : B' ≤ B) : Rb B' C w v l := by
  rcases h with h | h
  · exact .inl h
  · exact .inr (owns_base h hb)
theorem OutS.base {B B' C : Nat} {w : World} {v : Value} {ls : List (List UInt8)} (h : OutS B C w v ls) (hb : B' ≤ B) : OutS B' C w v ls := by
  obtain ⟨vs, h1, h2⟩ := h.ex
  exact ⟨vs, owns_base h1 hb, h2.mono (fun v l h => h.base hb)⟩
/-- Frames, one behind the other. -/
def flat (rs : List (List UInt8)) : List UInt8 := (rs.map frameL).flatten
theorem flat_app (rs ss : List (List UInt8)) : flat (rs ++ ss) = flat rs ++ flat ss := by simp [flat]
theorem flat_one (r : List UInt8) : flat [r] = frameL r := by simp [flat]
theorem flat_at {rs : List (List UInt8)} {i : Nat} (h : i < rs.length) : flat (rs.take (i + 1)) = flat (rs.take i) ++ frameL rs[i] := by
  rw [List.take_succ_eq_append_getElem h, flat_app, flat_one]
theorem flat_split {rs : List (List UInt8)} {i : Nat} (h : i < rs.length) : flat rs = flat (rs.take i) ++ (frameL rs[i] ++ flat (rs.drop (i + 1))) := by
  rw [← List.append_assoc, ← flat_at h, ← flat_app, List.take_append_drop]
/-- .. how many bytes they have. -/
def flen (rs : List (List UInt8)) : Nat := (flat rs).length
theorem flen_at {rs : List (List UInt8)} {i : Nat} (h : i < rs.length) : flen (rs.take (i + 1)) = flen (rs.take i) + (rs[i].length + 13) := by
  unfold flen
  rw [flat_at h, List.length_append, frameL_length]
theorem flen_le (rs : List (List UInt8)) (i : Nat) : flen (rs.take i) ≤ flen rs := by
  have h : flat rs = flat (rs.take i) ++ flat (rs.drop i) := by rw [← flat_app, List.take_append_drop]
  unfold flen
  rw [h, List.length_append]
  omega
end Go.Proofs.YtpbiofnncdneoaaDoor
