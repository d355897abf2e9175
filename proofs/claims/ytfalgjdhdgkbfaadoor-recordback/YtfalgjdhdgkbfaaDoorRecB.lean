/- RecordBack: the state of its first loop, step by step. -/
import Derived.Test.YtfalgjdhdgkbfaaDoorRecA
import Derived.Maps.AppendAt
namespace Go.Proofs.YtfalgjdhdgkbfaaDoor
open Go Go.RowKit

/-- The bytes of fields one behind the other. -/
def encs (ks : List Fv) : List UInt8 := ks.flatMap Fv.enc
theorem encs_snoc (ks : List Fv) (q : Fv) : encs (ks ++ [q]) = encs ks ++ q.enc := by simp [encs]
theorem encs_drop {ks : List Fv} {i : Nat} {q : Fv} (h : ks[i]? = some q) : encs (ks.drop i) = q.enc ++ encs (ks.drop (i + 1)) := by
  obtain ⟨hi, rfl⟩ := List.getElem?_eq_some_iff.1 h
  rw [List.drop_eq_getElem_cons hi]
  rfl
theorem enc_len {q : Fv} (hq : q.Ok) (hm : q.may = true) : 1 ≤ q.enc.length ∧ q.enc.length ≤ 16 + q.B.length := by
  unfold Fv.may okOp at hm
  unfold Fv.enc encOp
  by_cases h1 : q.dd = 1
  · rw [if_pos h1] at hm ⊢
    have := of_decide_eq_true hm
    rw [layL_length]
    omega
  · rw [if_neg h1] at hm ⊢
    by_cases h2 : q.dd = 2
    · rw [if_pos h2, layL_length]; omega
    · rw [if_neg h2]
      by_cases h3 : q.dd = 3
      · rw [if_pos h3, layL_length]; omega
      · rw [if_neg h3]
        by_cases h6 : q.dd = 6
        · rw [if_pos h6, hq.D]; omega
        · rw [if_neg h6, List.length_append, layL_length]; omega
/-- Rows of unlike types lie in unlike blocks. -/
theorem own_apart {w : World} {C C' e e' s s' n n' : Nat} {v v' : Value} {xs xs' : List Value} (h : w.ownsRow C e s v n xs) (h' : w.ownsRow C' e' s' v' n' xs') (hne : e ≠ e') : ∀ k, v.ownBlock = some k → v'.ownBlock ≠ some k := by
  intro k hk hk'
  rcases h.2 with ⟨rfl, _⟩ | ⟨g, cap, cur, rfl, _, hg, _⟩
  · simp [Value.ownBlock] at hk
  rcases h'.2 with ⟨rfl, _⟩ | ⟨g', cap', cur', rfl, _, hg', _⟩
  · simp [Value.ownBlock] at hk'
  have e1 : g = k := by simpa [Value.ownBlock] using hk
  have e2 : g' = k := by simpa [Value.ownBlock] using hk'
  subst e1 e2
  rw [hg] at hg'
  injection hg' with e
  injection e with _ e
  exact hne e
theorem own_ge {w : World} {C e s n : Nat} {v : Value} {xs : List Value} (h : w.ownsRow C e s v n xs) {k : Nat} (hk : v.ownBlock = some k) : C ≤ k ∧ k < w.heap.size := by
  refine ⟨?_, (h.lt k hk).2⟩
  rcases h.2 with ⟨rfl, _⟩ | ⟨g, cap, cur, rfl, hb, _⟩
  · simp [Value.ownBlock] at hk
  · have e1 : g = k := by simpa [Value.ownBlock] using hk
    subst e1
    exact hb
/-- The state of the first loop. -/
structure Rs (w0 wr : World) (kv : Value) (ks : List Fv) : Prop where
  kp : wr.ownsRow (w0.heap.size + 1) 33 23 kv ks.length (keptO ks)
  ok : ∀ q ∈ ks, q.Ok ∧ q.may = true ∧ Out (w0.heap.size + 1) wr q.s q.B
  wrt : ∃ (f : Nat → Value) (F : Nat → Prop), Wr wr w0.heap.size 27 3 0 f F (encs ks) 0 ∧ (∀ g, F g → w0.heap.size + 1 ≤ g) ∧ (∀ k, kv.ownBlock = some k → ¬ F k)
  gr : w0.grownBy wr none
theorem Rs.keep {w0 wr wr' : World} {kv : Value} {ks : List Fv} (h : Rs w0 wr kv ks) (hg : wr.grownBy wr' none) : Rs w0 wr' kv ks := by
  obtain ⟨f, F, h1, h2, h3⟩ := h.wrt
  exact ⟨row_on h.kp hg (fun k hk => by cases hk), fun q hq => ⟨(h.ok q hq).1, (h.ok q hq).2.1, (h.ok q hq).2.2.keep hg⟩, ⟨f, F, h1.keep hg, h2, h3⟩, gtrans h.gr hg⟩
/-- Where the writer may lay more. -/
def FW (w0 wr : World) (kv : Value) (F : Nat → Prop) : Prop := (∀ g, wr.heap.size ≤ g → F g) ∧ (∀ g, F g → w0.heap.size + 1 ≤ g) ∧ ∀ k, kv.ownBlock = some k → ¬ F k
theorem Rs.writer {w0 wr : World} {kv : Value} {ks : List Fv} (h : Rs w0 wr kv ks) (hlt : w0.heap.size < wr.heap.size) : ∃ (f : Nat → Value) (F : Nat → Prop), Wr wr w0.heap.size 27 3 0 f F (encs ks) 0 ∧ FW w0 wr kv F := by
  obtain ⟨f, F, h1, h2, h3⟩ := h.wrt
  refine ⟨f, fun g => (F g ∧ g < wr.heap.size) ∨ wr.heap.size ≤ g, h1.mono (fun k hk hf => .inl ⟨hf, hk⟩) ?_, fun g hg => .inr hg, ?_, ?_⟩
  · rintro (⟨hf, _⟩ | hf)
    · have := h2 _ hf; omega
    · omega
  · rintro g (⟨hf, _⟩ | hf)
    · exact h2 g hf
    · omega
  · intro k hk
    have hl := (own_ge h.kp hk).2
    rintro (⟨hf, _⟩ | hf)
    · exact h3 k hk hf
    · omega
theorem Rs.no {w0 wr w' : World} {kv : Value} {ks : List Fv} (h : Rs w0 wr kv ks) {f : Nat → Value} {F : Nat → Prop} (hW : Wr w' w0.heap.size 27 3 0 f F (encs ks) 0) (hF : FW w0 wr kv F) (hg : wr.grownBy w' (some w0.heap.size)) : Rs w0 w' kv ks := by
  refine ⟨row_on h.kp hg (fun k hk hv => ?_), fun q hq => ⟨(h.ok q hq).1, (h.ok q hq).2.1, (h.ok q hq).2.2.on hg (fun k hk hv => ?_)⟩, ⟨f, F, hW, hF.2.1, hF.2.2⟩, h.gr.andThen hg (fun j hj => .inl (by injection hj with hj; omega))⟩
  · injection hk with hk
    have := (own_ge h.kp hv).1
    omega
  · injection hk with hk
    have := (own_ge (h.ok q hq).2.2 hv).1
    omega
theorem Rs.yes {w0 wr w1 w2 w3 : World} {kv kv' : Value} {ks : List Fv} (h : Rs w0 wr kv ks) {f : Nat → Value} {F : Nat → Prop} {q : Fv} (hW : Wr w1 w0.heap.size 27 3 0 f F (encs ks ++ q.enc) 0) (hF : FW w0 wr kv F) (hg : wr.grownBy w1 (some w0.heap.size)) (hg2 : w1.grownBy w2 none)
    (hq : q.Ok) (hm : q.may = true) (hO : Out (w0.heap.size + 1) wr q.s q.B) (hk : w2.ownsRow (w0.heap.size + 1) 33 23 kv ks.length (keptO ks)) (hk' : w3.ownsRow (w0.heap.size + 1) 33 23 kv' (ks ++ [q]).length (keptO (ks ++ [q]))) (hg3 : w2.grownBy w3 kv.ownBlock) (hat : kv'.ownBlock = kv.ownBlock ∨ kv'.ownBlock = some w2.heap.size) : Rs w0 w3 kv' (ks ++ [q]) := by
  have hrow : ∀ (p : Fv), Out (w0.heap.size + 1) wr p.s p.B → Out (w0.heap.size + 1) w3 p.s p.B := fun p hp => by
    have h1 : Out (w0.heap.size + 1) w1 p.s p.B := hp.on hg (fun k hk hv => by injection hk with hk; have := (own_ge hp hv).1; omega)
    have h2 := h1.keep hg2
    exact h2.on hg3 (fun k hkk => own_apart hk h2 (by decide) k hkk)
  have hge : w0.grownBy w2 none := gtrans (h.gr.andThen hg (fun j hj => .inl (by injection hj with hj; omega))) hg2
  refine ⟨hk', fun p hp => ?_, ⟨f, fun g => F g ∧ g < w1.heap.size, ?_, fun g hg => hF.2.1 g hg.1, fun k hkk hf => ?_⟩, hge.andThen hg3 (fun j hj => .inl (by have := (own_ge hk hj).1; omega))⟩
  · rcases List.mem_append.1 hp with hp | hp
    · exact ⟨(h.ok p hp).1, (h.ok p hp).2.1, hrow p (h.ok p hp).2.2⟩
    · rw [List.mem_singleton.1 hp]
      exact ⟨hq, hm, hrow q hO⟩
  · rw [encs_snoc]
    have hb : w0.heap.size < w1.heap.size := by
      obtain ⟨h1, _⟩ := hW
      exact h1.lt
    have hm1 := hW.mono (G := fun g => F g ∧ g < w1.heap.size) (fun k hk hf => ⟨hf, hk⟩) (fun hf => by have := hF.2.1 _ hf.1; omega)
    refine (hm1.keep hg2).on hg3 (fun e => ?_) (fun k hkk hf => hF.2.2 k hkk hf.1)
    have := (own_ge hk e).1
    omega
  · rcases hat with e | e
    · exact hF.2.2 k (e ▸ hkk) hf.1
    · rw [e] at hkk
      injection hkk with hkk
      have := hg2.size
      omega
/-- append of one field onto such a row; where it lies then. -/
theorem wpList_append_opAt {w : World} {ops : Array Oper} {rest : List Oper} {o : Oper} {a : Act} {Q : Exit → Act → World → Prop} (hgd : o.guard = none) (s x : Operand)
    (ho : o.op = .call { callee := .builtin .append, args := #[s, x], argTypes := #[22, 22] })
    (B L : Nat) (l : List Fv) (q : Fv) (hown : w.ownsRow B 33 23 (a.eval s) l.length (keptO l)) (hx : a.eval x = .slice (some ⟨L, 0, none⟩) 1 1) (hL : Blk w L q.cells 33) (hq : q.D.length = 16) (hs : q.s.oneCell' = true) (hn : l.length ≤ 1048576) (hB : B ≤ w.heap.size)
    (h : ∀ v' w', w'.ownsRow B 33 23 v' (l ++ [q]).length (keptO (l ++ [q])) → w.grownBy w' (a.eval s).ownBlock → (v'.ownBlock = (a.eval s).ownBlock ∨ v'.ownBlock = some w.heap.size) → wpList Tryd.prog ops Q rest (a.put o.dst v') w') : wpList Tryd.prog ops Q (o :: rest) a w := by
  obtain ⟨inf, hi, hz0, hz1, hz2⟩ := info_parts Tryd.info33
  have hql : q.cells.length = 23 := by unfold Fv.cells Lib.byteCells; simp [hq]
  refine wpList_append_own_at w hgd s x 22 ho B 33 inf (.agg zop) 23 88 Tryd.underlying22 hi hz0 hz1 hz2 rfl (by decide) _ l.length (keptO l) rfl hown ⟨L, 0, none⟩ 1 1 q.cells hx (by rw [hql]) ?_ ?_ (by unfold maxLen; omega) (by omega) hB ?_
  · intro j u hu
    rw [Addr.add_lit, Nat.zero_add, hL.cell, hu]
  · intro u hu
    unfold Fv.cells Lib.byteCells at hu
    simp only [List.mem_append, List.mem_cons, List.not_mem_nil, or_false, List.mem_map] at hu
    rcases hu with (rfl | rfl | rfl | rfl | rfl | rfl | rfl) | ⟨b, _, rfl⟩ <;> first | rfl | exact hs
  · intro v' w' h1 h2 _ h4
    refine h v' w' ?_ h2 h4
    rw [keptO_snoc, List.length_append]
    exact h1
theorem Fv.one {q : Fv} (hs : q.s.oneCell' = true) : ∀ v ∈ q.cells, v.oneCell' = true := by
  intro u hu
  unfold Fv.cells Lib.byteCells at hu
  simp only [List.mem_append, List.mem_cons, List.not_mem_nil, or_false, List.mem_map] at hu
  rcases hu with (rfl | rfl | rfl | rfl | rfl | rfl | rfl) | ⟨b, _, rfl⟩ <;> first | rfl | exact hs
theorem Fv.len {q : Fv} (hD : q.D.length = 16) : q.cells.length = 23 := by unfold Fv.cells Lib.byteCells; simp [hD]
theorem Fv.set6 (q : Fv) (v : Value) : q.cells.set 6 v = Fv.cells ⟨q.dd, q.on, q.N, q.wd, q.ii, q.fl, v, q.B, q.D⟩ := rfl
theorem Fv.c6 (q : Fv) : q.cells[6]? = some q.s := rfl
def zopL : List Value := zop.toList
theorem Tryd.zero33 : (Tryd.prog.info? 33).map (fun i => i.zero) = some (some (.agg zopL.toArray)) := by kernel_rfl
theorem Tryd.size33 : (Tryd.prog.info? 33).map (·.size) = some 23 := by kernel_rfl
theorem zero_22 : (sizeOf 33).run Tryd.prog = fun w => .ok 23 w := by kernel_rfl
theorem fill_op (q : Fv) (h : q.D.length = 16) : Instr.fill (fun i => some (i * 23, 23)) ((Array.range (1 * 23)).map (zop[· % zop.size]!)) [(0, .agg q.cells.toArray)] = some q.cells.toArray := by
  obtain ⟨dd, on, N, wd, ii, fl, s, B, D⟩ := q
  obtain ⟨y0, y1, y2, y3, y4, y5, y6, y7, y8, y9, y10, y11, y12, y13, y14, y15, hD⟩ := sixteen h
  simp only at hD
  subst hD
  kernel_rfl
theorem run_slice_op (q : Fv) (h : q.D.length = 16) (w : World) : (Instr.buildSlice 22 1 #[(0, .agg q.cells.toArray)]).run Tryd.prog w = .ok (.slice (some ⟨w.heap.size, 0, none⟩) 1 1) (w.alloc (.cells q.cells.toArray 33)) := by
  have h1 : (sizeOf 33).run Tryd.prog w = .ok 23 w := by kernel_rfl
  have h2 : (zeroValue 33).run Tryd.prog w = .ok (.agg zop) w := by kernel_rfl
  unfold Instr.buildSlice
  simp only [Sem.run_bind, run_underlying Tryd.underlying22, Result.andThen_ok, h1]
  rw [if_neg (by decide), if_neg (by decide)]
  simp only [Sem.run_bind, Sem.run_pure, Result.andThen_ok, h2, Value.cells, fill_op q h]
  rfl
theorem wpList_slice_op {ops : Array Oper} {rest : List Oper} {o : Oper} {a : Act} {w : World} {Q : Exit → Act → World → Prop} (hgd : o.guard = none) (x : Operand) (ho : o.op = .buildSlice 22 1 #[(0, x)]) (q : Fv) (hk : q.D.length = 16) (hx : a.eval x = .agg q.cells.toArray)
    (h : ∀ w', Blk w' w.heap.size q.cells 33 → w'.heap.size = w.heap.size + 1 → w.grownBy w' none → wpList Tryd.prog ops Q rest (a.put o.dst (.slice (some ⟨w.heap.size, 0, none⟩) 1 1)) w') : wpList Tryd.prog ops Q (o :: rest) a w :=
  wpList_plain hgd fun _ hK => by
    have e : (#[(0, x)] : Array (Nat × Operand)).map (fun (i, x) => (i, a.eval x)) = #[(0, .agg q.cells.toArray)] := by simp [hx]
    unfold Oper.wp execOp
    simp only [ho]
    rw [e, Sem.run_bind, run_slice_op q hk w]
    exact hK _ _ (h _ (Blk.new w q.cells 33) (by simp) (galloc _ _ _))
end Go.Proofs.YtfalgjdhdgkbfaaDoor
