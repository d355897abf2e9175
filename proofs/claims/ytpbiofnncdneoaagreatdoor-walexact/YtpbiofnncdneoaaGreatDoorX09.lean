/- Scopes of several labels; rows of slices of bytes. -/
import Derived.Test.YtpbiofnncdneoaaGreatDoorX07
import Derived.Test.YtpbiofnncdneoaaGreatDoorX08
import Derived.ScopeJumps
import Derived.WalkMore
namespace Go.Proofs.YtpbiofnncdneoaaGreatDoor
open Go Go.RowKit Go.MapKept Go.MuLone
open Go.RowKit (wrap32 wrap64)

/-- As Q; by a goto to label l: J l. -/
def jumps (J : Nat → Act → World → Prop) (Q : Exit → Act → World → Prop) : Exit → Act → World → Prop
 | .goto l, a, w => J l a w
 | e, a, w => Q e a w
theorem wp_scope_many {P : Program} {a : Act} {w : World} {Q : Exit → Act → World → Prop} {c : Code} (J : Nat → Act → World → Prop) (μ : Nat → Act → World → Nat)
  (first : c.wp P (jumps J Q) a w)
  (pass : ∀ l a w, J l a w → ∃ rest, findLabel c l = some rest ∧ rest.wp P (jumps (fun l' a' w' => J l' a' w' ∧ μ l' a' w' < μ l a w) Q) a w) : (Code.scope c).wp P Q a w := by
 intro b k cs
 have hg : ∀ l rest, findLabel c l = some rest → gotoIn l (.inScope c :: k) = some (.code rest :: .inScope c :: k) := fun l rest hf => by simp [gotoIn, hf]
 have key : ∀ n l a w, μ l a w = n → J l a w → ∀ rest, findLabel c l = some rest → ∃ e a' w', Q e a' w' ∧ Arrives P (lone (b.at a (.code rest :: .inScope c :: k)) cs w) b k cs e a' w' := by
  intro n
  induction n using Nat.strongRecOn with
  | _ n ih =>
   intro l a w hn hJ rest hf
   obtain ⟨rest', hf', hp⟩ := pass l a w hJ
   rw [hf] at hf'
   injection hf' with hf'
   subst hf'
   obtain ⟨e, a₁, w₁, hq, harr⟩ := hp b (.inScope c :: k) cs
   cases e with
   | normal => exact ⟨.normal, a₁, w₁, hq, Steps.trans harr (.one step_inScope)⟩
   | exit id => exact ⟨.exit id, a₁, w₁, hq, fun k' hk => harr k' (by simp [exitTo, hk])⟩
   | goto l' =>
    obtain ⟨hJ', hlt⟩ := hq
    obtain ⟨rest₂, hf₂, _⟩ := pass l' a₁ w₁ hJ'
    obtain ⟨e₂, a₂, w₂, hq₂, harr₂⟩ := ih _ (by omega) l' a₁ w₁ rfl hJ' rest₂ hf₂
    exact ⟨e₂, a₂, w₂, hq₂, .of_steps (harr _ (hg l' rest₂ hf₂)) harr₂⟩
   | ret => exact ⟨_, a₁, w₁, hq, harr⟩
   | panic ch => exact ⟨_, a₁, w₁, hq, harr⟩
   | outgrown => exact ⟨_, a₁, w₁, hq, harr⟩
 obtain ⟨e, a₁, w₁, hq, harr⟩ := first b (.inScope c :: k) cs
 cases e with
 | normal => exact ⟨.normal, a₁, w₁, hq, .head step_scope (Steps.trans harr (.one step_inScope))⟩
 | exit id => exact ⟨.exit id, a₁, w₁, hq, fun k' hk => .head step_scope (harr k' (by simp [exitTo, hk]))⟩
 | goto l' =>
  obtain ⟨rest₂, hf₂, _⟩ := pass l' a₁ w₁ hq
  obtain ⟨e₂, a₂, w₂, hq₂, harr₂⟩ := key _ l' a₁ w₁ rfl hq rest₂ hf₂
  exact ⟨e₂, a₂, w₂, hq₂, .of_steps (.head step_scope (harr _ (hg l' rest₂ hf₂))) harr₂⟩
 | ret => exact ⟨_, a₁, w₁, hq, .of_steps (.one step_scope) harr⟩
 | panic ch => exact ⟨_, a₁, w₁, hq, .of_steps (.one step_scope) harr⟩
 | outgrown => exact ⟨_, a₁, w₁, hq, .of_steps (.one step_scope) harr⟩

theorem jumps_mono {J J' : Nat → Act → World → Prop} {Q : Exit → Act → World → Prop} (h : ∀ l a w, J l a w → J' l a w) : ∀ e a w, jumps J Q e a w → jumps J' Q e a w := by
 intro e a w q
 cases e with
 | goto l => exact h l a w q
 | _ => exact q
theorem wp_scope_from {P : Program} {a : Act} {w : World} {Q : Exit → Act → World → Prop} {c y : Code} (l0 : Nat) (J : Nat → Act → World → Prop) (μ : Nat → Act → World → Nat) (hf : findLabel c l0 = some (.seq .skip y))
  (first : (∀ a w, J l0 a w → y.wp P (jumps J Q) a w) → c.wp P (jumps J Q) a w)
  (pass0 : ∀ a w, J l0 a w → y.wp P (jumps (fun l' a' w' => J l' a' w' ∧ μ l' a' w' < μ l0 a w) Q) a w)
  (pass : ∀ l a w, l ≠ l0 → J l a w → ∃ rest, findLabel c l = some rest ∧ rest.wp P (jumps (fun l' a' w' => J l' a' w' ∧ μ l' a' w' < μ l a w) Q) a w) : (Code.scope c).wp P Q a w := by
 refine wp_scope_many J μ (first fun a w hJ => Code.wp_mono (jumps_mono fun _ _ _ h => h.1) (pass0 a w hJ)) fun l a w hJ => ?_
 by_cases e : l = l0
 ·subst e
  exact ⟨_, hf, wp_seq (wp_skip (pass0 a w hJ))⟩
 ·exact pass l a w e hJ
/-- A slice of bytes that lies below B, or is a row of the call's own. -/
def Rb (B C : Nat) (w : World) (v : Value) (l : List UInt8) : Prop := Rd w (fun k => k < C) v l ∨ Out B w v l
theorem Rb.on {B C : Nat} {w w' : World} {v : Value} {l : List UInt8} {row : Option Nat} (h : Rb B C w v l) (hg : w.grownBy w' row) (h1 : ∀ k, row = some k → C ≤ k) (h2 : ∀ k, row = some k → Out B w v l → v.ownBlock ≠ some k) : Rb B C w' v l := by
 rcases h with h | h
 ·refine .inl ?_
  obtain ⟨a, b, off, c, e, hc, hn, ha, hcell⟩ := h
  refine ⟨a, b, off, c, e, hc, hn, fun h0 => ⟨(ha h0).1, Nat.lt_of_lt_of_le (ha h0).2.1 hg.size, (ha h0).2.2⟩, fun i hi => ?_⟩
  have := ha (by omega)
  rw [← hcell i hi]
  exact cell_at hg this.2.1 (fun e => by have := h1 _ e; omega)
 ·exact .inr (h.on hg (fun k hk => h2 k hk h))
theorem Rb.keep {B C : Nat} {w w' : World} {v : Value} {l : List UInt8} (h : Rb B C w v l) (hg : w.grownBy w' none) : Rb B C w' v l := h.on hg (fun k hk => by cases hk) (fun k hk => by cases hk)
theorem Rb.rd {B C : Nat} {w : World} {v : Value} {l : List UInt8} (h : Rb B C w v l) : ∃ F, Rd w F v l := by
 rcases h with h | h
 ·exact ⟨_, h⟩
 ·exact ⟨_, h.rd⟩
theorem Rb.len {B C : Nat} {w : World} {v : Value} {l : List UInt8} (h : Rb B C w v l) : ∃ a c, v = .slice a l.length c := by
 obtain ⟨F, a, b, off, c, e, _⟩ := h.rd
 exact ⟨a, c, e⟩
/-- Rows of bytes in memory, one slice a cell. -/
inductive Each (R : Value → List UInt8 → Prop) : List Value → List (List UInt8) → Prop
 | nil : Each R [] []
 | cons {v : Value} {l : List UInt8} {vs : List Value} {ls : List (List UInt8)} (h : R v l) (t : Each R vs ls) : Each R (v :: vs) (l :: ls)
theorem Each.mono {R S : Value → List UInt8 → Prop} (hs : ∀ v l, R v l → S v l) : ∀ {vs ls}, Each R vs ls → Each S vs ls
 | _, _, .nil => .nil
 | _, _, .cons h t => .cons (hs _ _ h) (t.mono hs)
theorem Each.app {R : Value → List UInt8 → Prop} {v : Value} {l : List UInt8} (h : R v l) : ∀ {vs ls}, Each R vs ls → Each R (vs ++ [v]) (ls ++ [l])
 | _, _, .nil => .cons h .nil
 | _, _, .cons h' t => .cons h' (Each.app h t)
theorem Each.len {R : Value → List UInt8 → Prop} : ∀ {vs ls}, Each R vs ls → vs.length = ls.length
 | _, _, .nil => rfl
 | _, _, .cons _ t => by simp only [List.length_cons, t.len]
theorem Each.get {R : Value → List UInt8 → Prop} : ∀ {vs ls}, Each R vs ls → ∀ i (h : i < ls.length), ∃ v, vs[i]? = some v ∧ R v ls[i]
 | _, _, .nil, i, h => by cases h
 | _, _, .cons h' t, 0, h => ⟨_, rfl, h'⟩
 | _, _, .cons h' t, i + 1, h => by
  obtain ⟨v, h1, h2⟩ := t.get i (by simpa using h)
  exact ⟨v, by simpa using h1, by simpa using h2⟩
/-- A row of slices of the call's own. -/
structure OutS (B C : Nat) (w : World) (v : Value) (ls : List (List UInt8)) : Prop where
 ex : ∃ vs, w.ownsRow B 74 1 v ls.length vs ∧ Each (Rb B C w) vs ls
theorem OutS.len {B C : Nat} {w : World} {v : Value} {ls : List (List UInt8)} (h : OutS B C w v ls) : ∃ a c, v = .slice a ls.length c := by
 obtain ⟨vs, h, -⟩ := h.ex
 rcases h.2 with ⟨h1, h2⟩ | ⟨g, cap, cur, h1, _⟩
 ·exact ⟨none, 0, by rw [h1, h2]⟩
 ·exact ⟨_, _, h1⟩
theorem OutS.keep {B C : Nat} {w w' : World} {v : Value} {ls : List (List UInt8)} (h : OutS B C w v ls) (hg : w.grownBy w' none) : OutS B C w' v ls := by
 obtain ⟨vs, h1, h2⟩ := h.ex
 exact ⟨vs, World.ownsRow.kept h1 hg (by cases v.ownBlock <;> simp), h2.mono (fun v l h => h.keep hg)⟩
theorem OutS.nil (B C : Nat) (w : World) : OutS B C w (.slice none 0 0) [] := ⟨[], ⟨rfl, .inl ⟨rfl, rfl⟩⟩, .nil⟩
theorem Tryz.info74 : (Tryz.prog.info? 74).map (fun i => (i.zero, i.size, i.bytes)) = some (some (.slice none 0 0), 1, 24) := by kernel_rfl
set_option maxRecDepth 100000 in
/-- append of one slice. -/
theorem app_row {w : World} {B C g : Nat} {vs : Value} {ls : List (List UInt8)} {v : Value} {l : List UInt8} (h : OutS B C w vs ls) (hb : Blk w g [v] 74) (ho : Rb B C w v l) (hE : ls.length ≤ 1000000) (hB : B ≤ w.heap.size) (hC : C ≤ B) (ty : TypeId) :
  ∃ v' w', (Builtin.append_ #[37, 37] ty #[vs, .slice (some ⟨g, 0, none⟩) 1 1]).run Tryz.prog w = .ok v' w' ∧ OutS B C w' v' (ls ++ [l]) ∧ w.grownBy w' vs.ownBlock ∧ (v'.ownBlock = vs.ownBlock ∨ v'.ownBlock = some w.heap.size) := by
 obtain ⟨inf, hi, hz0, hz1, hz2⟩ := info_parts Tryz.info74
 obtain ⟨xs, hrow, heach⟩ := h.ex
 obtain ⟨ba, bc, hbv⟩ := ho.len
 obtain ⟨v', w', h1, h2, h3, _, h4⟩ := run_append_own_at (P := Tryz.prog) w B 37 ty 74 inf (.slice none 0 0) 1 24 Tryz.underlying37 hi hz0 hz1 hz2 rfl (by decide) vs _ _ hrow ⟨g, 0, none⟩ 1 1 [v] rfl (by
  intro j u hu
  rw [Addr.add_lit, Nat.zero_add]
  rcases (show j = 0 ∨ 1 ≤ j by omega) with rfl | h2
  ·injection hu with hu; subst hu; exact hb.cell 0
  ·have : ([v] : List Value)[j]? = none := by simp; omega
   rw [this] at hu; cases hu) (by rw [hbv]; intro x hx; rw [List.mem_singleton.1 hx]; rfl) (by unfold maxLen; omega) (by omega) hB
 refine ⟨v', w', h1, ⟨xs ++ [v], by rw [List.length_append]; exact h2, ?_⟩, h3, h4⟩
 have hx : ∀ v l, Rb B C w v l → Rb B C w' v l := fun v l hr => hr.on h3 (fun k hk => Nat.le_trans hC (own_low hrow k hk)) (fun k hk hr => own_ne hrow hr (by decide) k hk)
 exact (heach.mono hx).app (hx _ _ ho)
theorem wpList_append_row {w : World} {ops : Array Oper} {rest : List Oper} {o : Oper} {a : Act} {Q : Exit → Act → World → Prop} (hgd : o.guard = none) (s x : Operand) (ho : o.op = .call { callee := .builtin .append, args := #[s, x], argTypes := #[37, 37] })
  (B C g : Nat) (ls : List (List UInt8)) (v : Value) (l : List UInt8) (hown : OutS B C w (a.eval s) ls) (hx : a.eval x = .slice (some ⟨g, 0, none⟩) 1 1) (hb : Blk w g [v] 74) (hr : Rb B C w v l) (hE : ls.length ≤ 1000000) (hB : B ≤ w.heap.size) (hC : C ≤ B)
  (h : ∀ v' w', OutS B C w' v' (ls ++ [l]) → w.grownBy w' (a.eval s).ownBlock → (v'.ownBlock = (a.eval s).ownBlock ∨ v'.ownBlock = some w.heap.size) → wpList Tryz.prog ops Q rest (a.put o.dst v') w') : wpList Tryz.prog ops Q (o :: rest) a w :=
 wpList_plain hgd fun _ hK => by
  obtain ⟨v', w', h1, h2, h3, h4⟩ := app_row hown hb hr hE hB hC o.type
  have hK' := hK _ _ (h v' w' h2 h3 h4)
  unfold Oper.wp
  simp [execOp, ho, resolve, invoke, builtin, hx, h1, Result.andThen]
  exact hK'
theorem Rb.base {B B' : Nat} {w : World} {v : Value} {l : List UInt8} {C : Nat} (h : Rb B C w v l) (hb : B' ≤ B) : Rb B' C w v l := by
 rcases h with h | h
 ·exact .inl h
 ·exact .inr (owns_base h hb)
theorem OutS.base {B B' C : Nat} {w : World} {v : Value} {ls : List (List UInt8)} (h : OutS B C w v ls) (hb : B' ≤ B) : OutS B' C w v ls := by
 obtain ⟨vs, h1, h2⟩ := h.ex
 exact ⟨vs, owns_base h1 hb, h2.mono (fun v l h => h.base hb)⟩
/-- Frames, one behind the other. -/
def flat (rs : List (List UInt8)) : List UInt8 := (rs.map frameL).flatten
theorem flat_app (rs ss : List (List UInt8)) : flat (rs ++ ss) = flat rs ++ flat ss := by simp [flat]
theorem flat_one (r : List UInt8) : flat [r] = frameL r := by simp [flat]
theorem flat_at {rs : List (List UInt8)} {i : Nat} (h : i < rs.length) : flat (rs.take (i + 1)) = flat (rs.take i) ++ frameL rs[i] := by
 rw [List.take_succ_eq_append_getElem h, flat_app, flat_one]
theorem flat_split {rs : List (List UInt8)} {i : Nat} (h : i < rs.length) : flat rs = flat (rs.take i) ++ (frameL rs[i] ++ flat (rs.drop (i + 1))) := by
 rw [← List.append_assoc, ← flat_at h, ← flat_app, List.take_append_drop]
/-- .. how many bytes they have. -/
def flen (rs : List (List UInt8)) : Nat := (flat rs).length
theorem flen_at {rs : List (List UInt8)} {i : Nat} (h : i < rs.length) : flen (rs.take (i + 1)) = flen (rs.take i) + (rs[i].length + 13) := by
 unfold flen
 rw [flat_at h, List.length_append, frameL_length]
end Go.Proofs.YtpbiofnncdneoaaGreatDoor

namespace Go.Proofs.YtpbiofnncdneoaaGreatDoor
open Go Go.RowKit Go.MapKept Go.MuLone
open Go.RowKit (wrap32 wrap64)

theorem jumps_ret {J : Nat → Act → World → Prop} {Q : Exit → Act → World → Prop} {a : Act} {w : World} (h : Q .ret a w) : jumps J Q .ret a w := h
/-- What holds at the labels of take. -/
def takeJ (w : World) (a : Option Addr) (n c : Nat) (rs : List (List UInt8)) (D0 D2 : Prop) (l : Nat) (a' : Act) (w' : World) : Prop :=
 (l = 1 ∧ ∃ (i k : Nat) (rv x1 u6 u7 u9 u10 u11 u12 u13 u14 u15 u16 u17 u18 u19 u20 u21 u22 u23 u24 u25 u26 u27 u28 u29 u30 u31 u32 u33 u34 : Value), a' = { tmps := #[.slice a n c, x1, .slice none 0 0, .int .i64 0, .int .i64 0, rv, u6, u7, .int .i64 k, u9, u10, u11, u12, u13, u14, u15, u16, u17, u18, u19, u20, u21, u22, u23, u24, u25, u26, u27, u28, u29, u30, u31, u32, u33, u34], defers := [] } ∧ i ≤ rs.length ∧ Hid (flen (rs.take i) = k) ∧ Hid (OutS w.heap.size 0 w' rv (rs.take i) ∧ w.grownBy w' none)) ∨
 (l = 0 ∧ D0 ∧ ∃ (k : Nat) (rv x1 u6 u7 u9 u10 u11 u12 u13 u14 u15 u16 u17 u18 u19 u20 u21 u22 u23 u24 u25 u26 u27 u28 u29 u30 u31 u32 u33 u34 : Value), a' = { tmps := #[.slice a n c, x1, .slice none 0 0, .int .i64 0, .int .i64 0, rv, u6, u7, .int .i64 k, u9, u10, u11, u12, u13, u14, u15, u16, u17, u18, u19, u20, u21, u22, u23, u24, u25, u26, u27, u28, u29, u30, u31, u32, u33, u34], defers := [] } ∧ Hid (flen rs = k) ∧ Hid (OutS w.heap.size 0 w' rv rs ∧ w.grownBy w' none)) ∨
 (l = 2 ∧ D2 ∧ ∃ (k : Nat) (rv x1 u6 u7 u9 u10 u11 u12 u13 u14 u15 u16 u17 u18 u19 u20 u21 u22 u23 u24 u25 u26 u27 u28 u29 u30 u31 u32 u33 u34 : Value), a' = { tmps := #[.slice a n c, x1, .slice none 0 0, .int .i64 0, .int .i64 0, rv, u6, u7, .int .i64 k, u9, u10, u11, u12, u13, u14, u15, u16, u17, u18, u19, u20, u21, u22, u23, u24, u25, u26, u27, u28, u29, u30, u31, u32, u33, u34], defers := [] } ∧ Hid (w.grownBy w' none))
set_option maxRecDepth 100000 in
set_option maxHeartbeats 4000000 in
theorem take_any (w : World) (F : Nat → Prop) (v : Value) (f : List UInt8) (rs : List (List UInt8)) (t : List UInt8) (hr : Rd w F v f) (hf : f = flat rs ++ t) (hrs : ∀ r ∈ rs, r.length ≤ 16777216) (hl : f.length ≤ 268435456) (hT : Tab w) (hrl : rs.length ≤ 1000000) (hnz : t ≠ [] → unfrE t ≠ 0) :
  Calls Tryz.prog 47 #[v] w fun e w' => w.grownBy w' none ∧ ((t = [] ∨ unfrE t = 30) → ∃ v', e = .returned (.tuple #[v', .int .i64 (flen rs : Nat), .int .i64 0]) ∧ OutS w.heap.size 0 w' v' rs) ∧ (¬ (t = [] ∨ unfrE t = 30) → e = .returned (.tuple #[.slice none 0 0, .int .i64 0, .int .i64 101])) := by
 obtain ⟨a, b, off, c, rfl, hc, hnn, ha, hcell⟩ := hr
 obtain ⟨n, HN⟩ : ∃ x, Hid (f.length = x) := ⟨_, hid rfl⟩
 rw [HN.out] at hc ⊢
 have HA := hid ha
 have HC := hid hcell
 have HF := hid hf
 have HRs := hid hrs
 have HT : Hid (∀ u, w.grownBy u none → Tab u) := hid (fun u hu => hT.keep hu)
 have HL : Hid (n ≤ 268435456 ∧ rs.length ≤ 1000000) := hid ⟨by rw [← HN.out]; exact hl, hrl⟩
 have HNz := hid hnz
 have HLn : Hid (flen rs + t.length = n) := hid (by rw [← HN.out, hf, List.length_append]; rfl)
 obtain ⟨D, hD⟩ : ∃ D : Prop, (t = [] ∨ unfrE t = 30) = D := ⟨_, rfl⟩
 have HD := hid hD
 rw [hD]
 clear ha hcell hf hrs hT hl hrl hnz hD
 go_enter Tryz.func47, Tryz.ntmps47
 go_wp2
 refine wp_scope_from 1 (takeJ w a n c rs D (¬ D)) (fun l a' _ => if l = 1 then n + 1 - (intOf (a'.tmps.getD 8 undef)).toNat else 0) rfl ?first ?pass0 ?pass
 case first =>
  intro hy
  go_wp2
  go_step3
  simp only [Exit.then]
  exact (‹∀ a w, Code.wp _ _ _ a w → _› : ∀ a w, Code.wp Tryz.prog _ _ a w → _) _ _ (hy _ _ (.inl ⟨rfl, 0, 0, _, _, _, _, _, _, _, _, _, _, _, _, _, _, _, _, _, _, _, _, _, _, _, _, _, _, _, _, _, _, rfl, Nat.zero_le _, hid rfl, hid ⟨OutS.nil _ _ _, grefl _ _⟩⟩))
 case pass0 =>
  rintro a' w' (⟨-, i, k, rv, x1, u6, u7, u9, u10, u11, u12, u13, u14, u15, u16, u17, u18, u19, u20, u21, u22, u23, u24, u25, u26, u27, u28, u29, u30, u31, u32, u33, u34, rfl, hi, HK, HS⟩ | ⟨h, -⟩ | ⟨h, -⟩)
  ·by_cases hlt : i < rs.length
   ·as_aux_lemma =>
    obtain ⟨z, hz⟩ : ∃ z, rs[i] = z := ⟨_, rfl⟩
    have HZ := hid hz
    have HZl : Hid (z.length ≤ 16777216) := hid (by rw [← hz]; exact HRs.out _ (List.getElem_mem _))
    obtain ⟨s, HSf⟩ : ∃ s, Hid (f = flat (rs.take i) ++ (frameL z ++ s)) := ⟨flat (rs.drop (i + 1)) ++ t, hid (by rw [HF.out, flat_split hlt, hz]; simp [List.append_assoc])⟩
    have hfl : (flat (rs.take i)).length = k := HK.out
    have HDr : Hid (f.drop k = frameL z ++ s) := hid (by rw [HSf.out, ← hfl, List.drop_left])
    have HLe : Hid (k + (z.length + 13) + s.length = n) := hid (by rw [← HN.out, HSf.out, ← hfl]; simp [frameL_length]; omega)
    have hkn : k < n := by have := HLe.out; omega
    have hkn' : ¬ ((k : Int) = (n : Int)) := by omega
    have hk0 : ¬ (n < k) := by omega
    have hkc : ¬ (c - k = 0) := by omega
    obtain ⟨rfl, hb1, hb2⟩ := HA.out (by rw [HN.out]; omega)
    have HRd : Hid (Rd w F (.slice (some ⟨b, off + k, none⟩) (n - k) (c - k)) (frameL z ++ s)) := hid (by
     have q := Rd.part HA.out HC.out k (n - k) (c - k) (by rw [HN.out]; omega) (by omega) (by omega)
     rw [List.take_of_length_le (by rw [List.length_drop, HN.out]; omega), HDr.out] at q
     exact q)
    have hu := unfr_frame z s HZl.out
    have HUn : Hid (∀ u, w.grownBy u none → Calls Tryz.prog 102 #[.slice (some ⟨b, off + k, none⟩) (n - k) (c - k)] u fun e w' => ∃ v', e = .returned (.tuple #[v', .int .i64 ((z.length + 13 : Nat) : Int), .int .i64 0]) ∧ Out u.heap.size w' v' z ∧ u.grownBy w' none) := hid (fun u hg => by
     have q := unframe_any (frameL z ++ s) F _ u (by simp [frameL_length]; have := HLe.out; have := HL.out.1; omega) (HRd.out.keep hg) (HT.out u hg)
     unfold unfB at q
     rw [hu.1, hu.2.1, hu.2.2] at q
     exact q)
    obtain ⟨zz, hzz⟩ : ∃ x : Nat, z.length + 13 = x := ⟨_, rfl⟩
    rw [hzz] at HUn
    have HZz : Hid (z.length + 13 = zz) := hid hzz
    have hk1 : k ≤ 268435456 := by have := HLe.out; have := HL.out.1; omega
    have hz1 : zz ≤ 268435456 := by have := HLe.out; have := HL.out.1; omega
    clear hz hfl hu hzz hnn
    go_upto_region 9 with (go_at_call 102; (with_reducible refine (HUn.out _ HS.out.2).mono ?_); rintro e w2 ⟨v2, rfl, hO, hg⟩; have HO2 := hid hO; have HG2 := hid hg; obtain ⟨va, vc, hv2⟩ := hO.len; clear hO hg)
    obtain ⟨zl, hzl⟩ : ∃ x, z.length = x := ⟨_, rfl⟩
    rw [hzl] at hv2 ⊢
    subst hv2
    have HOw : Hid (∀ q, rv.ownBlock = some q → w.heap.size ≤ q) := hid (fun q hq => by obtain ⟨xs, h1, -⟩ := HS.out.1.ex; exact own_low h1 q hq)
    have HB2 := hid (Blk.new w2 [Value.slice va zl vc] 74)
    have HG2' := hid (gtrans HS.out.2 HG2.out)
    have HOS : Hid (OutS w.heap.size 0 (w2.alloc (.cells #[Value.slice va zl vc] 74)) rv (rs.take i)) := hid ((HS.out.1.keep HG2.out).keep (galloc _ _ _))
    have HRB : Hid (Rb w.heap.size 0 (w2.alloc (.cells #[Value.slice va zl vc] 74)) (.slice va zl vc) z) := hid (.inr (owns_base (HO2.out.keep (galloc _ _ _)) HS.out.2.size))
    have HSz : Hid (w.heap.size ≤ (w2.alloc (.cells #[Value.slice va zl vc] 74)).heap.size) := hid (gtrans HG2'.out (galloc _ _ _)).size
    have HTk : Hid ((rs.take i).length ≤ 1000000) := hid (by rw [List.length_take]; have := HL.out.2; omega)
    go_wp2_with (at_builtin; refine wpList_append_row rfl _ _ rfl w.heap.size 0 _ (rs.take i) _ z HOS.out rfl HB2.out HRB.out HTk.out HSz.out (Nat.zero_le _) ?_; intro v4 w4 hO4 hg4 _; have HO4 := hid hO4; have HG4 := hid hg4; clear hO4 hg4)
    go_step3
    have HGn : Hid (w.grownBy w4 none) := hid ((gtrans HG2'.out (galloc _ _ none)).andThen HG4.out (fun q hq => .inl (HOw.out q hq)))
    have hsum : (k : Int) + (zz : Int) = ((k + zz : Nat) : Int) := by omega
    rw [hsum]
    refine And.intro (show takeJ w _ n c rs D (¬ D) 1 _ _ from .inl ⟨rfl, i + 1, k + zz, v4, x1, _, _, _, _, _, _, _, _, _, _, _, _, _, _, _, _, _, _, _, _, _, _, _, _, _, _, _, _, rfl, by omega, hid ?_, hid ⟨?_, HGn.out⟩⟩) ?_
    ·rw [flen_at hlt, HK.out, HZ.out, HZz.out]
    ·rw [List.take_succ_eq_append_getElem hlt, HZ.out]; exact HO4.out
    ·simp [intOf]; have := HZz.out; omega
   ·as_aux_lemma =>
    have hie : i = rs.length := by omega
    subst hie
    rw [List.take_length] at HK HS
    have HD' := HD
    by_cases ht0 : t = []
    ·have hkn : k = n := by have := HLn.out; rw [ht0] at this; have := HK.out; simp at *; omega
     have hkn' : (k : Int) = (n : Int) := by omega
     have hD : D := by rw [← HD.out]; exact .inl ht0
     clear ht0 HD HD'
     subst hkn
     clear hkn'
     go_wp2
     go_step3
     refine And.intro (show takeJ w _ _ c rs D (¬ D) 0 _ _ from .inr (.inl ⟨rfl, hD, _, rv, x1, _, _, _, _, _, _, _, _, _, _, _, _, _, _, _, _, _, _, _, _, _, _, _, _, _, _, _, _, rfl, HK, hid HS.out⟩)) ?_
     simp [intOf]
    ·have htl : 0 < t.length := List.length_pos_iff.2 ht0
     have hkn : k < n := by have := HLn.out; have := HK.out; omega
     have hkn' : ¬ ((k : Int) = (n : Int)) := by omega
     have hk0 : ¬ (n < k) := by omega
     have hkc : ¬ (c - k = 0) := by omega
     obtain ⟨rfl, hb1, hb2⟩ := HA.out (by rw [HN.out]; omega)
     have HDr : Hid (f.drop k = t) := hid (by rw [HF.out, ← HK.out]; exact List.drop_left ..)
     have HRd : Hid (Rd w F (.slice (some ⟨b, off + k, none⟩) (n - k) (c - k)) t) := hid (by
      have q := Rd.part HA.out HC.out k (n - k) (c - k) (by rw [HN.out]; omega) (by omega) (by omega)
      rw [List.take_of_length_le (by rw [List.length_drop, HN.out]; omega), HDr.out] at q
      exact q)
     obtain ⟨E, hE⟩ : ∃ x, unfrE t = x := ⟨_, rfl⟩
     have hnz : E ≠ 0 := by rw [← hE]; exact HNz.out ht0
     have HUn : Hid (∀ u, w.grownBy u none → Calls Tryz.prog 102 #[.slice (some ⟨b, off + k, none⟩) (n - k) (c - k)] u fun e w' => ∃ v', e = .returned (.tuple #[v', .int .i64 0, .int .i64 E]) ∧ u.grownBy w' none) := hid (fun u hg => by
      have q := unframe_any t F _ u (by have := HLn.out; have := HL.out.1; omega) (HRd.out.keep hg) (HT.out u hg)
      rw [hE, if_neg hnz] at q
      exact q.mono fun e w' ⟨v', q1, _, q3⟩ => ⟨v', q1, q3⟩)
     have HDE : Hid (D ↔ E = 30) := hid (by rw [← HD.out, hE]; exact ⟨fun h => h.resolve_left ht0, .inr⟩)
     clear HD HD' hE htl hnn ht0
     by_cases hE3 : E = 30
     ·have hD : D := HDE.out.2 hE3
      subst hE3
      go_wp2_with (go_at_call 102; (with_reducible refine (HUn.out _ HS.out.2).mono ?_); rintro e w2 ⟨v2, rfl, hg⟩; have HG2 := hid hg; clear hg)
      go_step3
      refine And.intro (show takeJ w _ _ c rs D (¬ D) 0 _ _ from .inr (.inl ⟨rfl, hD, _, rv, x1, _, _, _, _, _, _, _, _, _, _, _, _, _, _, _, _, _, _, _, _, _, _, _, _, _, _, _, _, rfl, HK, hid ⟨HS.out.1.keep HG2.out, gtrans HS.out.2 HG2.out⟩⟩)) ?_
      simp [intOf]; have := HK.out; omega
     ·have hD : ¬ D := fun q => hE3 (HDE.out.1 q)
      go_wp2_with (go_at_call 102; (with_reducible refine (HUn.out _ HS.out.2).mono ?_); rintro e w2 ⟨v2, rfl, hg⟩; have HG2 := hid hg; clear hg)
      go_step3
      refine And.intro (show takeJ w _ _ c rs D (¬ D) 2 _ _ from .inr (.inr ⟨rfl, hD, k, rv, x1, _, _, _, _, _, _, _, _, _, _, _, _, _, _, _, _, _, _, _, _, _, _, _, _, _, _, _, _, rfl, hid (gtrans HS.out.2 HG2.out)⟩)) ?_
      simp [intOf]; omega
  ·cases h
  ·cases h
 case pass =>
  rintro l a' w' hne (⟨rfl, -⟩ | ⟨rfl, hD0, k, rv, x1, u6, u7, u9, u10, u11, u12, u13, u14, u15, u16, u17, u18, u19, u20, u21, u22, u23, u24, u25, u26, u27, u28, u29, u30, u31, u32, u33, u34, rfl, HK, HS⟩ | ⟨rfl, hD2, k, rv, x1, u6, u7, u9, u10, u11, u12, u13, u14, u15, u16, u17, u18, u19, u20, u21, u22, u23, u24, u25, u26, u27, u28, u29, u30, u31, u32, u33, u34, rfl, HS⟩)
  ·exact absurd rfl hne
  ·refine ⟨_, rfl, ?_⟩
   go_wp2
   refine jumps_ret ?_
   go_ret3
   exact ⟨HS.out.2, fun _ => ⟨_, by rw [HK.out]; rfl, HS.out.1⟩, fun h => absurd hD0 h⟩
  ·refine ⟨_, rfl, ?_⟩
   go_wp2
   refine jumps_ret ?_
   go_ret3
   exact ⟨HS.out, fun h => absurd h hD2, fun _ => rfl⟩
end Go.Proofs.YtpbiofnncdneoaaGreatDoor

namespace Go.Proofs.YtpbiofnncdneoaaGreatDoor
open Go Go.RowKit Go.MapKept Go.MuLone
open Go.RowKit (wrap32 wrap64)

def lgc (b : Nat) (s : ByteArray) (z : Nat) (off : Bool) : List Value := [.pointer (some ⟨b, 0, none⟩), .string s, .int .i64 (z : Int), .bool off]
/-- A log at block lb: of the disk at b, its name, its size, is it off. -/
def Lg (w : World) (lb b : Nat) (s : ByteArray) (z : Nat) (off : Bool) : Prop := Blk w lb (lgc b s z off) 128
theorem ld25 (b i : Nat) (p : Addr) (u : World) (h : u.cell? ⟨b, i, none⟩ = some (.pointer (some p))) : (Instr.loadAt 26 (.pointer (some ⟨b, i, none⟩))).run Tryz.prog u = .ok (.pointer (some p)) u := by go_simp
variable {w : World} {B b lb : Nat} {A : Ab} {P : Nat → Prop} {s : ByteArray} {z : Nat} {off : Bool}
set_option maxRecDepth 100000 in
theorem lsize_any (h : Lg w lb b s z off) : Calls Tryz.prog 19 #[.pointer (some ⟨lb, 0, none⟩)] w fun e w' => e = .returned (.int .i64 (z : Nat)) ∧ w' = w := by
 have k2 : w.cell? ⟨lb, 2, none⟩ = some (.int .i64 (z : Int)) := h.cell 2
 clear h
 go_enter Tryz.func19, Tryz.ntmps19
 go_wp2_with fail
 go_ret
 exact ⟨rfl, rfl⟩
set_option maxRecDepth 100000 in
/-- A log that is off says so. -/
theorem lapp_off (h : Lg w lb b s z true) (v : Value) : Calls Tryz.prog 16 #[.pointer (some ⟨lb, 0, none⟩), v] w fun e w' => e = .returned (.int .i64 102) ∧ w' = w := by
 have k3 : w.cell? ⟨lb, 3, none⟩ = some (.bool true) := h.cell 3
 clear h
 go_enter Tryz.func16, Tryz.ntmps16
 go_wp2_with fail
 go_ret
 exact ⟨rfl, rfl⟩
/-- What Append leaves of the log. -/
def lgZ (A : Ab) (s : ByteArray) (z : Nat) (l : List UInt8) : Nat := if A.appE s (frameL l) = 0 then z + (l.length + 13) else z
set_option maxRecDepth 100000 in
set_option maxHeartbeats 4000000 in
theorem lapp_any (h : Lg w lb b s z false) (hd : DkP w B b A P) (hP : ∀ k, P k → k < w.heap.size) (hlb : ¬ P lb) (hw : A.wr ≤ 4611686018427387904) (hz : z ≤ 1099511627776) (hT : Tab w) (F : Nat → Prop) (v : Value) (l : List UInt8) (hr : Rd w F v l) (hl : l.length ≤ 16777216) :
  Calls Tryz.prog 16 #[.pointer (some ⟨lb, 0, none⟩), v] w fun e w' => e = .returned (.int .i64 (A.appE s (frameL l))) ∧ Lg w' lb b s (lgZ A s z l) (decide (A.appE s (frameL l) ≠ 0)) ∧ ∃ P', DkP w' B b (A.app s (frameL l)) P' ∧ (∀ k, P' k → k < w'.heap.size) ∧ (∀ k, P' k → P k ∨ w.heap.size ≤ k) ∧ DF w w' (fun k => P k ∨ k = lb) := by
 have k3 : w.cell? ⟨lb, 3, none⟩ = some (.bool false) := h.cell 3
 have HLg := hid h
 have HDk := hid hd
 have HP := hid hP
 have HLb := hid hlb
 have HLt : Hid (lb < w.heap.size) := hid h.lt
 have HFr := hid (frame_ok l F v w hl hr hT)
 have HL : Hid (l.length + 13 ≤ 16777229) := hid (by omega)
 have HWr := hid hw
 have hz1 := hz
 obtain ⟨va, vn, vc, hv⟩ : ∃ a n c, v = .slice a n c := by obtain ⟨a, _, _, c, e, _⟩ := hr; exact ⟨a, _, c, e⟩
 subst hv
 obtain ⟨E, HE⟩ : ∃ x, Hid (A.appE s (frameL l) = x) := ⟨_, hid rfl⟩
 rw [HE.out]
 clear h hd hP hlb hl hr hT hw hz
 go_enter Tryz.func16, Tryz.ntmps16
 go_upto_region 6 with (go_at_call 50; (with_reducible refine HFr.out.mono ?_); rintro e w2 ⟨v2, rfl, hO, hg⟩; have HO2 := hid hO; have HG2 := hid hg; obtain ⟨fa, fc, hv2⟩ := hO.len; clear hO hg)
 obtain ⟨fn, hfn⟩ : ∃ x, (frameL l).length = x := ⟨_, rfl⟩
 rw [hfn] at hv2 ⊢
 subst hv2
 have HFn : Hid (fn = l.length + 13) := hid (by rw [← hfn, frameL_length])
 clear hfn HFr
 have HLg2 : Hid (∀ u, w2.grownBy u none → Lg u lb b s z false) := hid (fun u hu => Blk.keep (Blk.keep HLg.out HG2.out) hu)
 have HC0 : Hid (∀ u, w2.grownBy u none → u.cell? ⟨lb, 0, none⟩ = some (.pointer (some ⟨b, 0, none⟩))) := hid (fun u hu => (HLg2.out u hu).cell 0)
 have HC1 : Hid (∀ u, w2.grownBy u none → u.cell? ⟨lb, 1, none⟩ = some (.string s)) := hid (fun u hu => (HLg2.out u hu).cell 1)
 have HAp : Hid (∀ u, w2.grownBy u none → Calls Tryz.prog 51 #[.pointer (some ⟨b, 0, none⟩), .string s, .slice fa fn fc] u fun e w' => e = .returned (.int .i64 (A.appE s (frameL l))) ∧ DkP w' B b (A.app s (frameL l)) (newP P u w') ∧ DF u w' P) := hid (fun u hu => by
  have ho := HO2.out.keep hu
  refine append_p ((HDk.out.keep HG2.out).keep hu) s _ fa fn fc (frameL l) ho.rd (fun k hk hp => ?_) HWr.out
  have h1 := HP.out k hp
  have h2 := hk
  omega)
 rw [HE.out] at HAp
 have HZ1 : Hid (E = 0 → lgZ A s z l = z + fn) := hid (fun e => by unfold lgZ; rw [HE.out, if_pos e, HFn.out])
 have HZ2 : Hid (E ≠ 0 → lgZ A s z l = z) := hid (fun e => by unfold lgZ; rw [HE.out, if_neg e])
 clear HE
 refine wp_region_listX (by kernel_rfl) [fun v _ => v = (Value.pointer (some ⟨lb, 0, none⟩)), fun v _ => v = (Value.pointer (some ⟨lb, 0, none⟩)), fun v _ => v = (Value.pointer (some ⟨lb, 0, none⟩)), fun v _ => v = (Value.pointer (some ⟨b, 0, none⟩)), fun v _ => v = (Value.pointer (some ⟨lb, 0, none⟩)), fun v _ => v = (Value.pointer (some ⟨lb, 0, none⟩)), fun v _ => v = (Value.pointer (some ⟨lb, 1, none⟩)), fun v _ => v = (Value.string s), fun v _ => v = (Value.slice fa fn fc)] (none) (fun _ => none) 9 (by kernel_rfl) (by kernel_rfl) (by kernel_rfl) (by kernel_rfl) (by decide) noRow_one (fun _ => .inl rfl) ⟨fun i v u u' hki h hg => h, fun i v u u' hki h hg => h, fun i v u u' hki h hg => h, fun i v u u' hki h hg => h, fun i v u u' hki h hg => h, fun i v u u' hki h hg => h, fun i v u u' hki h hg => h, fun i v u u' hki h hg => h, fun i v u u' hki h hg => h, trivial⟩ ⟨?_, ?_, ?_, ?_, ?_, ?_, ?_, ?_, ?_, trivial⟩ ?_
 ·intro A u hu hpu hsz hout hdeps
  have e0 : A.eval (.tmp 0) = (.pointer (some ⟨lb, 0, none⟩)) := (hout 0 (by kernel_rfl)).trans rfl
  refine ifw_none rfl ?_
  with_reducible refine shown_q (Value.pointer (some ⟨lb, 0, none⟩)) ?qq_1_0 (fun _ _ => ?qr_1_0)
  case qr_1_0 => exact (rfl : (Value.pointer (some ⟨lb, 0, none⟩)) = (Value.pointer (some ⟨lb, 0, none⟩)))
  with_reducible refine quietAt_mv (.tmp 0) (Value.pointer (some ⟨lb, 0, none⟩)) ?h0_1_0 ?h1_1_0
  case h0_1_0 => rfl
  case h1_1_0 => exact e0
 ·intro A u hu hpu hsz hout hdeps
  have e19 : A.eval (.tmp 19) = (.pointer (some ⟨lb, 0, none⟩)) := by have h := depL hdeps 0 (by kernel_rfl) 19 (by kernel_rfl); exact h
  refine ifw_none rfl ?_
  with_reducible refine shown_q (Value.pointer (some ⟨lb, 0, none⟩)) ?qq_1_1 (fun _ _ => ?qr_1_1)
  case qr_1_1 => exact (rfl : (Value.pointer (some ⟨lb, 0, none⟩)) = (Value.pointer (some ⟨lb, 0, none⟩)))
  with_reducible refine quietAt_nil (.tmp 19) ?h0_1_1 ⟨lb, 0, none⟩ ?h1_1_1
  case h0_1_1 => rfl
  case h1_1_1 => exact e19
 ·intro A u hu hpu hsz hout hdeps
  have e20 : A.eval (.tmp 20) = (.pointer (some ⟨lb, 0, none⟩)) := by have h := depL hdeps 1 (by kernel_rfl) 20 (by kernel_rfl); exact h
  refine ifw_none rfl ?_
  with_reducible refine shown_q (Value.pointer (some ⟨lb, 0, none⟩)) ?qq_1_2 (fun _ _ => ?qr_1_2)
  case qr_1_2 => exact (rfl : (Value.pointer (some ⟨lb, 0, none⟩)) = (Value.pointer (some ⟨lb, 0, none⟩)))
  with_reducible refine quietAt_field 128 (.tmp 20) 0 ?h0_1_2 ⟨lb, 0, none⟩ ⟨lb, 0, none⟩ ?h1_1_2 ?h2_1_2
  case h0_1_2 => rfl
  case h1_1_2 => exact e20
  case h2_1_2 => kernel_rfl
 ·intro A u hu hpu hsz hout hdeps
  have e21 : A.eval (.tmp 21) = (.pointer (some ⟨lb, 0, none⟩)) := by have h := depL hdeps 2 (by kernel_rfl) 21 (by kernel_rfl); exact h
  refine ifw_none rfl ?_
  with_reducible refine shown_q (Value.pointer (some ⟨b, 0, none⟩)) ?qq_1_3 (fun _ _ => ?qr_1_3)
  case qr_1_3 => exact (rfl : (Value.pointer (some ⟨b, 0, none⟩)) = (Value.pointer (some ⟨b, 0, none⟩)))
  with_reducible refine quietAt_ld 26 (.tmp 21) (Value.pointer (some ⟨lb, 0, none⟩)) (Value.pointer (some ⟨b, 0, none⟩)) ?h0_1_3 ?h1_1_3 ?h2_1_3
  case h0_1_3 => rfl
  case h1_1_3 => exact e21
  case h2_1_3 => exact ld25 lb 0 ⟨b, 0, none⟩ u (HC0.out u hu)
 ·intro A u hu hpu hsz hout hdeps
  have e0 : A.eval (.tmp 0) = (.pointer (some ⟨lb, 0, none⟩)) := (hout 0 (by kernel_rfl)).trans rfl
  refine ifw_none rfl ?_
  with_reducible refine shown_q (Value.pointer (some ⟨lb, 0, none⟩)) ?qq_1_4 (fun _ _ => ?qr_1_4)
  case qr_1_4 => exact (rfl : (Value.pointer (some ⟨lb, 0, none⟩)) = (Value.pointer (some ⟨lb, 0, none⟩)))
  with_reducible refine quietAt_mv (.tmp 0) (Value.pointer (some ⟨lb, 0, none⟩)) ?h0_1_4 ?h1_1_4
  case h0_1_4 => rfl
  case h1_1_4 => exact e0
 ·intro A u hu hpu hsz hout hdeps
  have e23 : A.eval (.tmp 23) = (.pointer (some ⟨lb, 0, none⟩)) := by have h := depL hdeps 4 (by kernel_rfl) 23 (by kernel_rfl); exact h
  refine ifw_none rfl ?_
  with_reducible refine shown_q (Value.pointer (some ⟨lb, 0, none⟩)) ?qq_1_5 (fun _ _ => ?qr_1_5)
  case qr_1_5 => exact (rfl : (Value.pointer (some ⟨lb, 0, none⟩)) = (Value.pointer (some ⟨lb, 0, none⟩)))
  with_reducible refine quietAt_nil (.tmp 23) ?h0_1_5 ⟨lb, 0, none⟩ ?h1_1_5
  case h0_1_5 => rfl
  case h1_1_5 => exact e23
 ·intro A u hu hpu hsz hout hdeps
  have e24 : A.eval (.tmp 24) = (.pointer (some ⟨lb, 0, none⟩)) := by have h := depL hdeps 5 (by kernel_rfl) 24 (by kernel_rfl); exact h
  refine ifw_none rfl ?_
  with_reducible refine shown_q (Value.pointer (some ⟨lb, 1, none⟩)) ?qq_1_6 (fun _ _ => ?qr_1_6)
  case qr_1_6 => exact (rfl : (Value.pointer (some ⟨lb, 1, none⟩)) = (Value.pointer (some ⟨lb, 1, none⟩)))
  with_reducible refine quietAt_field 128 (.tmp 24) 1 ?h0_1_6 ⟨lb, 0, none⟩ ⟨lb, 1, none⟩ ?h1_1_6 ?h2_1_6
  case h0_1_6 => rfl
  case h1_1_6 => exact e24
  case h2_1_6 => kernel_rfl
 ·intro A u hu hpu hsz hout hdeps
  have e25 : A.eval (.tmp 25) = (.pointer (some ⟨lb, 1, none⟩)) := by have h := depL hdeps 6 (by kernel_rfl) 25 (by kernel_rfl); exact h
  refine ifw_none rfl ?_
  with_reducible refine shown_q (Value.string s) ?qq_1_7 (fun _ _ => ?qr_1_7)
  case qr_1_7 => exact (rfl : (Value.string s) = (Value.string s))
  with_reducible refine quietAt_ld 9 (.tmp 25) (Value.pointer (some ⟨lb, 1, none⟩)) (Value.string s) ?h0_1_7 ?h1_1_7 ?h2_1_7
  case h0_1_7 => rfl
  case h1_1_7 => exact e25
  case h2_1_7 => exact ld9 lb 1 s u (HC1.out u hu)
 ·intro A u hu hpu hsz hout hdeps
  have e5 : A.eval (.tmp 5) = (.slice fa fn fc) := (hout 5 (by kernel_rfl)).trans rfl
  refine ifw_none rfl ?_
  with_reducible refine shown_q (Value.slice fa fn fc) ?qq_1_8 (fun _ _ => ?qr_1_8)
  case qr_1_8 => exact (rfl : (Value.slice fa fn fc) = (Value.slice fa fn fc))
  with_reducible refine quietAt_mv (.tmp 5) (Value.slice fa fn fc) ?h0_1_8 ?h1_1_8
  case h0_1_8 => rfl
  case h1_1_8 => exact e5
 ·intro A u8 listed hh hall
  have hA := hh.frame
  have HU := hid hh.grown
  obtain ⟨x19, hx19⟩ : ∃ x, A.eval (.tmp 19) = x := ⟨_, rfl⟩
  have f19 : (fun v _ => v = (Value.pointer (some ⟨lb, 0, none⟩))) x19 u8 := by rw [← hx19]; exact hh.got 0 _ 19 rfl rfl (hall 0 (by decide))
  obtain ⟨x20, hx20⟩ : ∃ x, A.eval (.tmp 20) = x := ⟨_, rfl⟩
  have f20 : (fun v _ => v = (Value.pointer (some ⟨lb, 0, none⟩))) x20 u8 := by rw [← hx20]; exact hh.got 1 _ 20 rfl rfl (hall 1 (by decide))
  obtain ⟨x21, hx21⟩ : ∃ x, A.eval (.tmp 21) = x := ⟨_, rfl⟩
  have f21 : (fun v _ => v = (Value.pointer (some ⟨lb, 0, none⟩))) x21 u8 := by rw [← hx21]; exact hh.got 2 _ 21 rfl rfl (hall 2 (by decide))
  obtain ⟨x22, hx22⟩ : ∃ x, A.eval (.tmp 22) = x := ⟨_, rfl⟩
  have f22 : (fun v _ => v = (Value.pointer (some ⟨b, 0, none⟩))) x22 u8 := by rw [← hx22]; exact hh.got 3 _ 22 rfl rfl (hall 3 (by decide))
  obtain ⟨x23, hx23⟩ : ∃ x, A.eval (.tmp 23) = x := ⟨_, rfl⟩
  have f23 : (fun v _ => v = (Value.pointer (some ⟨lb, 0, none⟩))) x23 u8 := by rw [← hx23]; exact hh.got 4 _ 23 rfl rfl (hall 4 (by decide))
  obtain ⟨x24, hx24⟩ : ∃ x, A.eval (.tmp 24) = x := ⟨_, rfl⟩
  have f24 : (fun v _ => v = (Value.pointer (some ⟨lb, 0, none⟩))) x24 u8 := by rw [← hx24]; exact hh.got 5 _ 24 rfl rfl (hall 5 (by decide))
  obtain ⟨x25, hx25⟩ : ∃ x, A.eval (.tmp 25) = x := ⟨_, rfl⟩
  have f25 : (fun v _ => v = (Value.pointer (some ⟨lb, 1, none⟩))) x25 u8 := by rw [← hx25]; exact hh.got 6 _ 25 rfl rfl (hall 6 (by decide))
  obtain ⟨x26, hx26⟩ : ∃ x, A.eval (.tmp 26) = x := ⟨_, rfl⟩
  have f26 : (fun v _ => v = (Value.string s)) x26 u8 := by rw [← hx26]; exact hh.got 7 _ 26 rfl rfl (hall 7 (by decide))
  obtain ⟨x27, hx27⟩ : ∃ x, A.eval (.tmp 27) = x := ⟨_, rfl⟩
  have f27 : (fun v _ => v = (Value.slice fa fn fc)) x27 u8 := by rw [← hx27]; exact hh.got 8 _ 27 rfl rfl (hall 8 (by decide))
  obtain ⟨x28, hx28⟩ : ∃ x, A.eval (.tmp 28) = x := ⟨_, rfl⟩
  obtain ⟨x7, hx7⟩ : ∃ x, A.eval (.tmp 7) = x := ⟨_, rfl⟩
  dsimp only [wrote, List.foldl] at hA
  rw [hx19, hx20, hx21, hx22, hx23, hx24, hx25, hx26, hx27, hx28, hx7] at hA
  clear hh hall hx19 hx20 hx21 hx22 hx23 hx24 hx25 hx26 hx27 hx28 hx7
  replace f19 := (f19 : x19 = (.pointer (some ⟨lb, 0, none⟩)))
  subst f19
  replace f20 := (f20 : x20 = (.pointer (some ⟨lb, 0, none⟩)))
  subst f20
  replace f21 := (f21 : x21 = (.pointer (some ⟨lb, 0, none⟩)))
  subst f21
  replace f22 := (f22 : x22 = (.pointer (some ⟨b, 0, none⟩)))
  subst f22
  replace f23 := (f23 : x23 = (.pointer (some ⟨lb, 0, none⟩)))
  subst f23
  replace f24 := (f24 : x24 = (.pointer (some ⟨lb, 0, none⟩)))
  subst f24
  replace f25 := (f25 : x25 = (.pointer (some ⟨lb, 1, none⟩)))
  subst f25
  replace f26 := (f26 : x26 = (.string s))
  subst f26
  replace f27 := (f27 : x27 = (.slice fa fn fc))
  subst f27
  subst hA
  show wpList _ _ _ [_, _] _ _
  simp only [Act.put, List.setIfInBounds_toArray, List.set_cons_succ, List.set_cons_zero]
  go_upto_region 7 with (go_at_call 51; (with_reducible refine (HAp.out _ HU.out).mono ?_); rintro e w4 ⟨rfl, hd, hf⟩; have HD4 := hid hd; have HF4 := hid hf; clear hd hf)
  have HLg4 : Hid (Lg w4 lb b s z false) := hid (Blk.df (HLg2.out _ HU.out) HF4.out HLb.out)
  have HGs := hid (gtrans HG2.out HU.out)
  have HPf : Hid (∀ k, newP P u8 w4 k → k < w4.heap.size) := hid (fun k hk => by
   rcases hk with hk | hk
   ·have := HP.out k hk; have := HGs.out.size; have := HF4.out.size; omega
   ·exact hk.2)
  have HPg : Hid (∀ k, newP P u8 w4 k → P k ∨ w.heap.size ≤ k) := hid (fun k hk => by
   rcases hk with hk | hk
   ·exact .inl hk
   ·right; have := HGs.out.size; omega)
  have HDF : Hid (DF w w4 P) := hid ((DF.of HGs.out).trans HF4.out (fun _ _ q => q))
  have HLbs : Hid (¬ newP P u8 w4 lb) := hid (fun hk => by
   rcases hk with hk | hk
   ·exact HLb.out hk
   ·have := HLt.out; have := HGs.out.size; omega)
  have k2 : w4.cell? ⟨lb, 2, none⟩ = some (.int .i64 (z : Int)) := HLg4.out.cell 2
  have k3 : w4.cell? ⟨lb, 3, none⟩ = some (.bool false) := HLg4.out.cell 3
  have f2 : w4.frozen? ⟨lb, 2, none⟩ = false := HLg4.out.frozen 2
  have f3 : w4.frozen? ⟨lb, 3, none⟩ = false := HLg4.out.frozen 3
  by_cases hE : E = 0
  ·subst hE
   have hfn1 : fn ≤ 16777229 := by have := HL.out; have := HFn.out; omega
   have HS := hid (HLg4.out.set 2 (.int .i64 ((z + fn : Nat) : Int)))
   have HSg := hid (gset w4 ⟨lb, 2, none⟩ (.int .i64 ((z + fn : Nat) : Int)))
   go_wp2_with fail
   go_ret
   have hsum : (z : Int) + (fn : Int) = ((z + fn : Nat) : Int) := by omega
   rw [hsum]
   refine ⟨rfl, ?_, _, HD4.out.df (DF.one HSg.out (P := fun k => k = lb) rfl) (fun k _ hk e => HLbs.out (e ▸ hk)), fun k hk => Nat.lt_of_lt_of_le (HPf.out k hk) HSg.out.size, HPg.out, (HDF.out.mono (fun k hk => .inl hk)).trans (DF.one HSg.out (P := fun k => P k ∨ k = lb) (.inr rfl)) (fun _ _ q => q)⟩
   rw [HZ1.out trivial]
   exact HS.out
  ·have HS := hid (HLg4.out.set 3 (.bool true))
   have HSg := hid (gset w4 ⟨lb, 3, none⟩ (.bool true))
   go_wp2_with fail
   go_ret
   refine ⟨rfl, ?_, _, HD4.out.df (DF.one HSg.out (P := fun k => k = lb) rfl) (fun k _ hk e => HLbs.out (e ▸ hk)), fun k hk => Nat.lt_of_lt_of_le (HPf.out k hk) HSg.out.size, HPg.out, (HDF.out.mono (fun k hk => .inl hk)).trans (DF.one HSg.out (P := fun k => P k ∨ k = lb) (.inr rfl)) (fun _ _ q => q)⟩
   rw [HZ2.out hE]
   exact HS.out
end Go.Proofs.YtpbiofnncdneoaaGreatDoor
