/- Two hashes and two rows: their state; append that tells where the row lies; cells taken and stored within a region. -/
import Derived.Test.YtmiojplbcjhggaaDoorGrow2
import Derived.Test.YtmiojplbcjhggaaDoorExA
import Derived.Test.YtmiojplbcjhggaaDoorWiOv
import Derived.Maps.AppendAt
namespace Go.Proofs.YtmiojplbcjhggaaDoor
open Go Go.RowKit
open Go.RowKit (wrap32 wrap64)

def upd {α : Type} (f : Nat → α) (j : Nat) (x : α) : Nat → α := fun k => if k = j then x else f k
theorem upd_same {α : Type} (f : Nat → α) (j : Nat) (x : α) : upd f j x j = x := by simp [upd]
theorem upd_ne {α : Type} (f : Nat → α) {j k : Nat} (x : α) (h : k ≠ j) : upd f j x k = f k := by simp [upd, h]
def cells2v (V : Nat → Value) : List Value := [V 0, V 1]
theorem cells2v_length (V : Nat → Value) : (cells2v V).length = 2 := rfl
theorem lt2 {P : Nat → Prop} (h : P 0 ∧ P 1) : ∀ j, j < 2 → P j
  | 0, _ => h.1
  | 1, _ => h.2
  | n + 2, h' => by omega
theorem cells2v_get (V : Nat → Value) : ∀ j, j < 2 → (cells2v V)[j]? = some (V j) := lt2 ⟨rfl, rfl⟩
theorem cells2v_set (V : Nat → Value) (v : Value) : ∀ j, j < 2 → (cells2v V).set j v = cells2v (upd V j v) := lt2 ⟨rfl, rfl⟩
theorem Tryd.zero34 : (Tryd.prog.info? 34).map (fun i => i.zero) = some (some (.agg (cells2v fun _ => .pointer none).toArray)) := by kernel_rfl
theorem Tryd.zero35 : (Tryd.prog.info? 35).map (fun i => i.zero) = some (some (.agg (cells2v fun _ => .slice none 0 0).toArray)) := by kernel_rfl
theorem Tryd.size34 : (Tryd.prog.info? 34).map (·.size) = some 2 := by kernel_rfl

theorem Blk.ne {w : World} {b b' : Nat} {cs cs' : List Value} {t t' : TypeId} (h : Blk w b cs t) (h' : Blk w b' cs' t') (ht : t ≠ t') : b ≠ b' := fun e => by
  subst e
  exact ht (h.agree h').2
theorem Hs.blk {w : World} {b : Nat} {l : List UInt8} (h : Hs w b l) : ∃ cs, Blk w b cs 75 := by
  obtain ⟨g, _, h2⟩ := h
  exact ⟨_, h2⟩
theorem Out.cells5 {C g : Nat} {w : World} {v : Value} {l : List UInt8} (h : Out C w v l) (hv : v.ownBlock = some g) : ∃ cs, Blk w g cs 5 := by
  rcases h.2 with ⟨rfl, _⟩ | ⟨g', cap, cur, rfl, hb, hg, _⟩
  · simp [Value.ownBlock] at hv
  · have : g' = g := by simpa [Value.ownBlock] using hv
    subst this
    exact ⟨cur.toList, by unfold Blk; simpa using hg⟩
theorem Hs.apart {C b : Nat} {w : World} {v : Value} {l l' : List UInt8} (h : Hs w b l) (o : Out C w v l') : v.ownBlock ≠ some b := fun e => by
  obtain ⟨cs, h1⟩ := h.blk
  obtain ⟨cs', h2⟩ := o.cells5 e
  exact h1.ne h2 (by decide) rfl
theorem Out.apartBlk {C b : Nat} {w : World} {v : Value} {cs : List Value} {t : TypeId} {l : List UInt8} (o : Out C w v l) (h : Blk w b cs t) (ht : t ≠ 5) : v.ownBlock ≠ some b := fun e => by
  obtain ⟨cs', h2⟩ := o.cells5 e
  exact h.ne h2 ht rfl

structure Pts (w : World) (p3 p4 C : Nat) (B : Nat → Nat) (V : Nat → Value) (LH LV : Nat → List UInt8) : Prop where
  hp : Blk w p3 (cells2v fun j => .pointer (some ⟨B j, 0, none⟩)) 34
  vp : Blk w p4 (cells2v V) 35
  hs : ∀ j, j < 2 → Hs w (B j) (LH j) ∧ C ≤ B j
  os : ∀ j, j < 2 → Out C w (V j) (LV j)
  inj : ∀ j k, j < 2 → k < 2 → B j = B k → j = k
  dis : ∀ j k, j < 2 → k < 2 → ∀ g, (V j).ownBlock = some g → (V k).ownBlock = some g → j = k
theorem Pts.keep {w w' : World} {p3 p4 C : Nat} {B : Nat → Nat} {V : Nat → Value} {LH LV : Nat → List UInt8} (h : Pts w p3 p4 C B V LH LV) (hg : w.grownBy w' none) : Pts w' p3 p4 C B V LH LV :=
  ⟨h.hp.keep hg, h.vp.keep hg, fun j hj => ⟨(h.hs j hj).1.keep hg, (h.hs j hj).2⟩, fun j hj => (h.os j hj).keep hg, h.inj, h.dis⟩
theorem Pts.wrote {w w' : World} {p3 p4 C : Nat} {B : Nat → Nat} {V : Nat → Value} {LH LV : Nat → List UInt8} (h : Pts w p3 p4 C B V LH LV) {r : Nat} (hr : r < 2) {l : List UInt8} (hg : w.grownBy w' (some (B r))) (hH : Hs w' (B r) l) : Pts w' p3 p4 C B V (upd LH r l) LV := by
  obtain ⟨cs, hb⟩ := (h.hs r hr).1.blk
  refine ⟨h.hp.on hg (fun e => hb.ne h.hp (by decide) (Option.some.inj e)), h.vp.on hg (fun e => hb.ne h.vp (by decide) (Option.some.inj e)), fun j hj => ?_, fun j hj => (h.os j hj).on hg (fun k hk e => (h.hs r hr).1.apart (h.os j hj) (by rw [e, ← hk])), h.inj, h.dis⟩
  by_cases e : j = r
  · subst e
    rw [upd_same]
    exact ⟨hH, (h.hs j hj).2⟩
  · rw [upd_ne _ _ e]
    exact ⟨(h.hs j hj).1.on hg (fun e' => e (h.inj j r hj hr (Option.some.inj e').symm)), (h.hs j hj).2⟩
theorem Pts.appended {w w1 w2 : World} {p3 p4 C : Nat} {B : Nat → Nat} {V : Nat → Value} {LH LV : Nat → List UInt8} (h : Pts w p3 p4 C B V LH LV) {r : Nat} (hr : r < 2) {l : List UInt8} {v : Value} (hg : w.grownBy w1 (V r).ownBlock) (hO : Out C w1 v l) (hat : v.ownBlock = (V r).ownBlock ∨ v.ownBlock = some w.heap.size)
    (hg2 : w1.grownBy w2 (some p4)) (hp : Blk w2 p4 ((cells2v V).set r v) 35) : Pts w2 p3 p4 C B (upd V r v) LH (upd LV r l) := by
  have b4 : ∀ {j : Nat} {cs : List Value} {t : TypeId}, Blk w j cs t → t ≠ 5 → (V r).ownBlock ≠ some j := fun hb ht => (h.os r hr).apartBlk hb ht
  have k3 := h.hp.on hg (b4 h.hp (by decide))
  have k4 := h.vp.on hg (b4 h.vp (by decide))
  have hos : ∀ j, j < 2 → j ≠ r → Out C w1 (V j) (LV j) := fun j hj hne => (h.os j hj).on hg (fun k hk e => hne (h.dis j r hj hr k e hk))
  have hvn : ∀ j, j < 2 → j ≠ r → ∀ g, (V j).ownBlock = some g → v.ownBlock ≠ some g := fun j hj hne g hv hv' => by
    rcases hat with e | e
    · exact hne (h.dis j r hj hr g hv (by rw [← e]; exact hv'))
    · rw [e] at hv'
      have h1 := (World.ownsRow.lt (h.os j hj) g hv).2
      injection hv' with hv'
      omega
  refine ⟨k3.on hg2 (fun e => k4.ne k3 (by decide) (Option.some.inj e)), by rw [cells2v_set V v r hr] at hp; exact hp, fun j hj => ?_, fun j hj => ?_, h.inj, fun j k hj hk g h1 h2 => ?_⟩
  · have hb := (h.hs j hj).1.on hg (fun e => (h.hs j hj).1.apart (h.os r hr) e)
    obtain ⟨cs, hc⟩ := hb.blk
    exact ⟨hb.on hg2 (fun e => k4.ne hc (by decide) (Option.some.inj e)), (h.hs j hj).2⟩
  · by_cases e : j = r
    · subst e
      rw [upd_same, upd_same]
      exact hO.on hg2 (fun k hk e => hO.apartBlk k4 (by decide) (by rw [e, ← hk]))
    · rw [upd_ne _ _ e, upd_ne _ _ e]
      exact (hos j hj e).on hg2 (fun k hk e' => (hos j hj e).apartBlk k4 (by decide) (by rw [e', ← hk]))
  · by_cases e : j = r
    · by_cases e' : k = r
      · omega
      · rw [e, upd_same] at h1
        rw [upd_ne _ _ e'] at h2
        exact absurd h1 (hvn k hk e' g h2)
    · by_cases e' : k = r
      · rw [e', upd_same] at h2
        rw [upd_ne _ _ e] at h1
        exact absurd h2 (hvn j hj e g h1)
      · rw [upd_ne _ _ e] at h1
        rw [upd_ne _ _ e'] at h2
        exact h.dis j k hj hk g h1 h2

theorem Pts.newed {w w1 w2 w3 : World} {p3 p4 C : Nat} {B : Nat → Nat} {V : Nat → Value} {LH LV : Nat → List UInt8} (h : Pts w p3 p4 C B V LH LV) {r bn : Nat} (hr : r < 2) (hg : w.grownBy w1 none) (hH : Hs w1 bn []) (hbn : w.heap.size ≤ bn) (hC : C ≤ w.heap.size)
    (hg2 : w1.grownBy w2 (some p3)) (hp : Blk w2 p3 ((cells2v fun j => .pointer (some ⟨B j, 0, none⟩)).set r (.pointer (some ⟨bn, 0, none⟩))) 34)
    (hg3 : w2.grownBy w3 (some p4)) (hv : Blk w3 p4 ((cells2v V).set r (.slice none 0 0)) 35) : Pts w3 p3 p4 C (upd B r bn) (upd V r (.slice none 0 0)) (upd LH r []) (upd LV r []) := by
  have k := h.keep hg
  have n34 : p3 ≠ p4 := fun e => (k.hp.ne k.vp (by decide)) e
  have up : ∀ {b : Nat} {l : List UInt8}, Hs w1 b l → Hs w3 b l := fun hb => by
    obtain ⟨cs, hc⟩ := hb.blk
    exact (hb.on hg2 (fun e => k.hp.ne hc (by decide) (Option.some.inj e))).on hg3 (fun e => k.vp.ne hc (by decide) (Option.some.inj e))
  have uo : ∀ {v : Value} {l : List UInt8}, Out C w1 v l → Out C w3 v l := fun ho => (ho.on hg2 (fun q hq e => ho.apartBlk k.hp (by decide) (by rw [e, ← hq]))).on hg3 (fun q hq e => ho.apartBlk k.vp (by decide) (by rw [e, ← hq]))
  have e1 : upd (fun j => Value.pointer (some ⟨B j, 0, none⟩)) r (.pointer (some ⟨bn, 0, none⟩)) = fun j => Value.pointer (some ⟨upd B r bn j, 0, none⟩) := funext fun j => by
    unfold upd
    split <;> rfl
  refine ⟨?_, by rw [cells2v_set V _ r hr] at hv; exact hv, fun j hj => ?_, fun j hj => ?_, fun j q hj hq he => ?_, fun j q hj hq g h1 h2 => ?_⟩
  · rw [cells2v_set _ _ r hr, e1] at hp
    exact hp.on hg3 (fun e => n34 (Option.some.inj e).symm)
  · by_cases e : j = r
    · subst e
      rw [upd_same, upd_same]
      exact ⟨up hH, by omega⟩
    · rw [upd_ne _ _ e, upd_ne _ _ e]
      exact ⟨up (k.hs j hj).1, (k.hs j hj).2⟩
  · by_cases e : j = r
    · subst e
      rw [upd_same, upd_same]
      exact Out.nil _ _
    · rw [upd_ne _ _ e, upd_ne _ _ e]
      exact uo (k.os j hj)
  · by_cases e : j = r
    · by_cases e' : q = r
      · omega
      · rw [e, upd_same, upd_ne _ _ e'] at he
        have := (h.hs q hq).1.lt
        omega
    · by_cases e' : q = r
      · rw [e', upd_same, upd_ne _ _ e] at he
        have := (h.hs j hj).1.lt
        omega
      · rw [upd_ne _ _ e, upd_ne _ _ e'] at he
        exact h.inj j q hj hq he
  · by_cases e : j = r
    · rw [e, upd_same] at h1
      simp [Value.ownBlock] at h1
    · by_cases e' : q = r
      · rw [e', upd_same] at h2
        simp [Value.ownBlock] at h2
      · rw [upd_ne _ _ e] at h1
        rw [upd_ne _ _ e'] at h2
        exact h.dis j q hj hq g h1 h2

/-- append of bytes that can be read, within a region; where the row lies. -/
theorem step_append_at {w : World} {ops : Array Oper} {o : Oper} {a : Act} {K : Act → World → Prop} {Q : Exit → Act → World → Prop} {E : Prop} (hgd : o.guard = none) (s x : Operand)
    (ho : o.op = .call { callee := .builtin .append, args := #[s, x], argTypes := #[23, 23] })
    (B : Nat) (F : Nat → Prop) (acc l : List UInt8) (hown : Out B w (a.eval s) acc) (hx : Rd w F (a.eval x) l) (hn : acc.length + l.length ≤ 35184372088832) (hB : B ≤ w.heap.size)
    (h : ∀ v' w', Out B w' v' (acc ++ l) → w.grownBy w' (a.eval s).ownBlock → (v'.ownBlock = (a.eval s).ownBlock ∨ v'.ownBlock = some w.heap.size) → K (a.put o.dst v') w') : if Region.wanted o (yielded ops a.tmps) = true then Oper.wp Tryd.prog o a w K Q else E := by
  have hw : Region.wanted o (yielded ops a.tmps) = true := by simp [Region.wanted, hgd]
  rw [if_pos hw]
  obtain ⟨inf, hi, hz0, hz1, hz2⟩ := info_parts Tryd.info5
  obtain ⟨p, b, off, c, e, hc, hnn, ha, hcell⟩ := hx
  cases p with
  | none =>
    have c0 := hnn rfl
    have hl : l = [] := List.eq_nil_of_length_eq_zero (by omega)
    subst hl
    subst c0
    have hrun := run_append_owned_none (P := Tryd.prog) (w := w) B 23 o.type 5 inf 1 Tryd.underlying23 hi (a.eval s) _ _ hown
    have hK := h (a.eval s) w (by rw [List.append_nil]; exact hown) (World.grownBy.refl _ _) (.inl rfl)
    have e' : a.eval x = .slice none 0 0 := e
    unfold Oper.wp
    simp [execOp, ho, resolve, invoke, builtin, e', hrun, Result.andThen]
    exact hK
  | some q =>
    obtain ⟨v', w', hr, h2, h3, _, h5⟩ := run_append_own_at (P := Tryd.prog) w B 23 o.type 5 inf (.int .u8 0) 1 1 Tryd.underlying23 hi hz0 hz1 hz2 rfl (by decide) (a.eval s) _ _ hown q l.length c (Lib.byteCells l) (by simp [Lib.byteCells])
      (fun j u hu => by
        have hj : j < l.length := by have := (List.getElem?_eq_some_iff.1 hu).1; simpa [Lib.byteCells] using this
        have hq := (ha (by omega)).1
        injection hq with hq
        rw [hq, Addr.add_lit, hcell j hj, ← hu]
        simp [Lib.byteCells, List.getElem?_eq_getElem hj])
      (bcs_one l) (by unfold maxLen; omega) (by omega) hB
    have hK := h v' w' (Out.more h2 rfl rfl) h3 h5
    have e' : a.eval x = .slice (some q) l.length c := e
    unfold Oper.wp
    simp [execOp, ho, resolve, invoke, builtin, e', hr, Result.andThen]
    exact hK
section
variable {P : Program} {ops : Array Oper} {S : World → Prop} {o : Oper} {a : Act}
theorem yieldsIf_mv (hw : Region.wanted o (yielded ops a.tmps) = true) (x : Operand) (ho : o.op = .move x) (v : Value) (hx : a.eval x = v) : YieldsIf P ops S o v a :=
  .inl ⟨hw, fun w _ => by
    unfold execOp
    simp only [ho, hx]
    rfl⟩
theorem yieldsIf_slice0 (hw : Region.wanted o (yielded ops a.tmps) = true) (t : TypeId) (x : Operand) (ho : o.op = .slice t x none none none) (vx v : Value) (hx : a.eval x = vx) (hr : ∀ u : World, (Instr.sliceAt t vx none none none).run P u = .ok v u) : YieldsIf P ops S o v a :=
  .inl ⟨hw, fun w _ => by
    subst hx
    unfold execOp
    simp only [ho, Option.map_none]
    rw [Sem.run_bind, hr]
    rfl⟩
theorem yieldsIf_bin (hw : Region.wanted o (yielded ops a.tmps) = true) (op : BinOp) (t : TypeId) (x y : Operand) (ty : TypeId) (ho : o.op = .binOp op t x y ty) (vx vy v : Value) (hx : a.eval x = vx) (hy : a.eval y = vy) (hr : ∀ u : World, (do eqGuard op t x y vx vy; binOp op t vx vy : Sem Value).run P u = .ok v u) : YieldsIf P ops S o v a :=
  .inl ⟨hw, fun w _ => by
    subst hx hy
    unfold execOp
    simp only [ho]
    rw [Sem.run_bind, hr]
    rfl⟩
theorem yieldsIf_pickf (hw : Region.wanted o (yielded ops a.tmps) = true) (c x y : Operand) (ho : o.op = .pick c x y) (hc : a.eval c = .bool false) (v : Value) (hy : a.eval y = v) : YieldsIf P ops S o v a :=
  .inl ⟨hw, fun w _ => by
    unfold execOp
    simp only [ho, hc, hy]
    rfl⟩
end
section
variable {P : Program} {ops : Array Oper} {S : World → Prop} {o : Oper} {a : Act}
theorem yieldsIf_idx (hw : Region.wanted o (yielded ops a.tmps) = true) (t : TypeId) (x i : Operand) (ho : o.op = .indexAddr t x i) (vx vi v : Value) (hx : a.eval x = vx) (hi : a.eval i = vi) (hr : ∀ u : World, (Instr.indexAt t vx vi).run P u = .ok v u) : YieldsIf P ops S o v a :=
  .inl ⟨hw, fun w _ => by
    subst hx hi
    unfold execOp
    simp only [ho]
    rw [Sem.run_bind, hr]
    rfl⟩
theorem yieldsIf_ld (hw : Region.wanted o (yielded ops a.tmps) = true) (t : TypeId) (x : Operand) (ho : o.op = .load t x) (vx v : Value) (hx : a.eval x = vx) (hr : ∀ u : World, S u → (Instr.loadAt t vx).run P u = .ok v u) : YieldsIf P ops S o v a :=
  .inl ⟨hw, fun w hS => by
    subst hx
    unfold execOp
    simp only [ho]
    rw [Sem.run_bind, hr w hS]
    rfl⟩
end
theorem idx34 (b i : Nat) (h : i < 2) (u : World) : (Instr.indexAt 34 (.pointer (some ⟨b, 0, none⟩)) (.int .i64 (i : Nat))).run Tryd.prog u = .ok (.pointer (some ⟨b, i, none⟩)) u := by
  have h' : (i : Int) < 2 := by omega
  go_simp
theorem idx35 (b i : Nat) (h : i < 2) (u : World) : (Instr.indexAt 35 (.pointer (some ⟨b, 0, none⟩)) (.int .i64 (i : Nat))).run Tryd.prog u = .ok (.pointer (some ⟨b, i, none⟩)) u := by
  have h' : (i : Int) < 2 := by omega
  go_simp
theorem ld23x (b i n c : Nat) (a : Option Addr) (u : World) (h : u.cell? ⟨b, i, none⟩ = some (.slice a n c)) : (Instr.loadAt 23 (.pointer (some ⟨b, i, none⟩))).run Tryd.prog u = .ok (.slice a n c) u := by
  go_simp
theorem ld32 (b i : Nat) (a : Option Addr) (u : World) (h : u.cell? ⟨b, i, none⟩ = some (.pointer a)) : (Instr.loadAt 32 (.pointer (some ⟨b, i, none⟩))).run Tryd.prog u = .ok (.pointer a) u := by
  go_simp
theorem neq41 (n : Nat) (x y : Operand) (u : World) : (do eqGuard .neq 41 x y (.int .u64 (n : Nat)) (.int .u64 (n : Nat)); binOp .neq 41 (.int .u64 (n : Nat)) (.int .u64 (n : Nat)) : Sem Value).run Tryd.prog u = .ok (.bool false) u := by
  go_simp
theorem cv41 (n : Nat) (h : n ≤ 65536) (u : World) : (convert 3 41 (.int .i64 (n : Nat))).run Tryd.prog u = .ok (.int .u64 (n : Nat)) u := by
  have h' : (n : Int) ≤ 65536 := by omega
  have e : IntKind.u64.wrap (n : Int) = (n : Int) := by
    simp [IntKind.wrap, IntKind.signed, IntKind.bits]
    omega
  go_simp
theorem eqn32 (b : Nat) (x y : Operand) (u : World) : (do eqGuard .eql 32 x y (.pointer (some ⟨b, 0, none⟩)) (.pointer none); binOp .eql 32 (.pointer (some ⟨b, 0, none⟩)) (.pointer none) : Sem Value).run Tryd.prog u = .ok (.bool false) u := by
  go_simp
end Go.Proofs.YtmiojplbcjhggaaDoor
