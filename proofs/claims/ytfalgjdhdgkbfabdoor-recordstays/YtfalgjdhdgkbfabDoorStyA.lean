/- RecordStays: fields as structures, the state of its first loop, readers and writers that refuse. -/
import Derived.Test.YtfalgjdhdgkbfabDoorPutB
import Derived.Test.YtfalgjdhdgkbfabDoorKep
import Derived.Test.YtfalgjdhdgkbfabDoorAgg
import Derived.Test.YtfalgjdhdgkbfabDoorWalkM
import Derived.Maps.AppendAt
namespace Go.Proofs.YtfalgjdhdgkbfabDoor
open Go Go.RowKit

/-- A field that is the call's own, or the argument's: its bytes can be read. -/
structure Fv.Ok (q : Fv) : Prop where
  D : q.D.length = 16
  N : q.N < 18446744073709551616
  lo : -9223372036854775808 ≤ q.ii
  hi : q.ii ≤ 9223372036854775807
  B : q.B.length ≤ 140737488355328
def Fv.may (q : Fv) : Bool := okOp q.dd q.N q.wd q.B.length
def Fv.enc (q : Fv) : List UInt8 := encOp q.dd q.N q.wd q.ii q.fl q.B q.D
theorem Rd.shape {w : World} {F : Nat → Prop} {v : Value} {l : List UInt8} (h : Rd w F v l) : ∃ a c, v = .slice a l.length c := by
  obtain ⟨a, b, o, c, e, _⟩ := h
  exact ⟨a, c, e⟩
theorem puts_q (w : World) (b t m o : Nat) (f : Nat → Value) (F G : Nat → Prop) (l : List UInt8) (bad : Nat) (q : Fv) (hq : q.Ok) (h : Wr w b t m o f F l bad) (hF : ∀ g, w.heap.size ≤ g → F g) (hB : Rd w G q.s q.B) (hG : ¬ G b) (hl : l.length ≤ 17592186040000) :
    Calls Tryd.prog 7 #[.pointer (some ⟨b, o, none⟩), .agg q.cells.toArray] w fun e w' => e = .returned (.bool q.may) ∧ (∃ f', Wr w' b t m o f' F (if q.may = true then wl bad l q.enc else l) bad ∧ Els o f f') ∧ w.grownBy w' (some b) := by
  obtain ⟨a, c, hs⟩ := hB.shape
  obtain ⟨dd, on, N, wd, ii, fl, s, B, D⟩ := q
  obtain ⟨y0, y1, y2, y3, y4, y5, y6, y7, y8, y9, y10, y11, y12, y13, y14, y15, hD⟩ := sixteen hq.D
  simp only at hs hD
  subst hs hD
  exact puts_bad w b t m o f F G l bad dd on N wd ii fl a B.length c B y0 y1 y2 y3 y4 y5 y6 y7 y8 y9 y10 y11 y12 y13 y14 y15 hq.N h hF hB rfl hG hl hq.B
theorem enc_len {q : Fv} (hq : q.Ok) (hm : q.may = true) : 1 ≤ q.enc.length ∧ q.enc.length ≤ 16 + q.B.length := by
  unfold Fv.may okOp at hm
  unfold Fv.enc encOp
  by_cases h1 : q.dd = 1
  · rw [if_pos h1] at hm ⊢
    have := of_decide_eq_true hm
    rw [layL_length]
    omega
  · rw [if_neg h1] at hm ⊢
    by_cases h2 : q.dd = 2
    · rw [if_pos h2, layL_length]; omega
    · rw [if_neg h2]
      by_cases h3 : q.dd = 3
      · rw [if_pos h3, layL_length]; omega
      · rw [if_neg h3]
        by_cases h6 : q.dd = 6
        · rw [if_pos h6, hq.D]; omega
        · rw [if_neg h6, List.length_append, layL_length]; omega
/-- Rows of unlike types lie in unlike blocks. -/
theorem own_apart {w : World} {C C' e e' s s' n n' : Nat} {v v' : Value} {xs xs' : List Value} (h : w.ownsRow C e s v n xs) (h' : w.ownsRow C' e' s' v' n' xs') (hne : e ≠ e') : ∀ k, v.ownBlock = some k → v'.ownBlock ≠ some k := by
  intro k hk hk'
  rcases h.2 with ⟨rfl, _⟩ | ⟨g, cap, cur, rfl, _, hg, _⟩
  · simp [Value.ownBlock] at hk
  rcases h'.2 with ⟨rfl, _⟩ | ⟨g', cap', cur', rfl, _, hg', _⟩
  · simp [Value.ownBlock] at hk'
  have e1 : g = k := by simpa [Value.ownBlock] using hk
  have e2 : g' = k := by simpa [Value.ownBlock] using hk'
  subst e1 e2
  rw [hg] at hg'
  injection hg' with e
  injection e with _ e
  exact hne e
theorem own_ge {w : World} {C e s n : Nat} {v : Value} {xs : List Value} (h : w.ownsRow C e s v n xs) {k : Nat} (hk : v.ownBlock = some k) : C ≤ k ∧ k < w.heap.size := by
  refine ⟨?_, (h.lt k hk).2⟩
  rcases h.2 with ⟨rfl, _⟩ | ⟨g, cap, cur, rfl, hb, _⟩
  · simp [Value.ownBlock] at hk
  · have e1 : g = k := by simpa [Value.ownBlock] using hk
    subst e1
    exact hb
/-- The state of the first loop. -/
structure Rs (w0 wr : World) (kv : Value) (ks : List Fv) (acc : List UInt8) : Prop where
  kp : wr.ownsRow (w0.heap.size + 1) 33 23 kv ks.length (keptO ks)
  ok : ∀ q ∈ ks, q.Ok ∧ Out (w0.heap.size + 1) wr q.s q.B
  wrt : ∃ (f : Nat → Value) (F : Nat → Prop), Wr wr w0.heap.size 27 3 0 f F acc 0 ∧ (∀ g, F g → w0.heap.size + 1 ≤ g) ∧ (∀ k, kv.ownBlock = some k → ¬ F k)
  gr : w0.grownBy wr none
theorem Rs.keep {w0 wr wr' : World} {kv : Value} {ks : List Fv} {acc : List UInt8} (h : Rs w0 wr kv ks acc) (hg : wr.grownBy wr' none) : Rs w0 wr' kv ks acc := by
  obtain ⟨f, F, h1, h2, h3⟩ := h.wrt
  exact ⟨row_on h.kp hg (fun k hk => by cases hk), fun q hq => ⟨(h.ok q hq).1, (h.ok q hq).2.keep hg⟩, ⟨f, F, h1.keep hg, h2, h3⟩, gtrans h.gr hg⟩
/-- Where the writer may lay more. -/
def FW (w0 wr : World) (kv : Value) (F : Nat → Prop) : Prop := (∀ g, wr.heap.size ≤ g → F g) ∧ (∀ g, F g → w0.heap.size + 1 ≤ g) ∧ ∀ k, kv.ownBlock = some k → ¬ F k
theorem Rs.writer {w0 wr : World} {kv : Value} {ks : List Fv} {acc : List UInt8} (h : Rs w0 wr kv ks acc) (hlt : w0.heap.size < wr.heap.size) : ∃ (f : Nat → Value) (F : Nat → Prop), Wr wr w0.heap.size 27 3 0 f F acc 0 ∧ FW w0 wr kv F := by
  obtain ⟨f, F, h1, h2, h3⟩ := h.wrt
  refine ⟨f, fun g => (F g ∧ g < wr.heap.size) ∨ wr.heap.size ≤ g, h1.mono (fun k hk hf => .inl ⟨hf, hk⟩) ?_, fun g hg => .inr hg, ?_, ?_⟩
  · rintro (⟨hf, _⟩ | hf)
    · have := h2 _ hf; omega
    · omega
  · rintro g (⟨hf, _⟩ | hf)
    · exact h2 g hf
    · omega
  · intro k hk
    have hl := (own_ge h.kp hk).2
    rintro (⟨hf, _⟩ | hf)
    · exact h3 k hk hf
    · omega
theorem Rs.put {w0 wr w' : World} {kv : Value} {ks : List Fv} {acc acc' : List UInt8} (h : Rs w0 wr kv ks acc) {f : Nat → Value} {F : Nat → Prop} (hW : Wr w' w0.heap.size 27 3 0 f F acc' 0) (hF : FW w0 wr kv F) (hg : wr.grownBy w' (some w0.heap.size)) : Rs w0 w' kv ks acc' := by
  refine ⟨row_on h.kp hg (fun k hk hv => ?_), fun q hq => ⟨(h.ok q hq).1, (h.ok q hq).2.on hg (fun k hk hv => ?_)⟩, ⟨f, F, hW, hF.2.1, hF.2.2⟩, h.gr.andThen hg (fun j hj => .inl (by injection hj with hj; omega))⟩
  · injection hk with hk
    have := (own_ge h.kp hv).1
    omega
  · injection hk with hk
    have := (own_ge (h.ok q hq).2 hv).1
    omega
theorem Rs.app {w0 w2 w3 : World} {kv kv' : Value} {ks : List Fv} {acc : List UInt8} (h : Rs w0 w2 kv ks acc) {q : Fv} (hq : q.Ok) (hO : Out (w0.heap.size + 1) w2 q.s q.B) (hk' : w3.ownsRow (w0.heap.size + 1) 33 23 kv' (ks ++ [q]).length (keptO (ks ++ [q]))) (hg3 : w2.grownBy w3 kv.ownBlock) (hat : kv'.ownBlock = kv.ownBlock ∨ kv'.ownBlock = some w2.heap.size) : Rs w0 w3 kv' (ks ++ [q]) acc := by
  have hk := h.kp
  have hrow : ∀ (p : Fv), Out (w0.heap.size + 1) w2 p.s p.B → Out (w0.heap.size + 1) w3 p.s p.B := fun p hp => hp.on hg3 (fun k hkk => own_apart hk hp (by decide) k hkk)
  obtain ⟨f, F, hW, h2, h3⟩ := h.wrt
  refine ⟨hk', fun p hp => ?_, ⟨f, fun g => F g ∧ g < w2.heap.size, ?_, fun g hg => h2 g hg.1, fun k hkk hf => ?_⟩, h.gr.andThen hg3 (fun j hj => .inl (by have := (own_ge hk hj).1; omega))⟩
  · rcases List.mem_append.1 hp with hp | hp
    · exact ⟨(h.ok p hp).1, hrow p (h.ok p hp).2⟩
    · rw [List.mem_singleton.1 hp]
      exact ⟨hq, hrow q hO⟩
  · have hm1 := hW.mono (G := fun g => F g ∧ g < w2.heap.size) (fun k hk hf => ⟨hf, hk⟩) (fun hf => by have := h2 _ hf.1; omega)
    refine hm1.on hg3 (fun e => ?_) (fun k hkk hf => h3 k hkk hf.1)
    have := (own_ge hk e).1
    omega
  · rcases hat with e | e
    · exact h3 k (e ▸ hkk) hf.1
    · rw [e] at hkk
      injection hkk with hkk
      omega
/-- append of one field onto such a row; where it lies then. -/
theorem wpList_append_opAt {w : World} {ops : Array Oper} {rest : List Oper} {o : Oper} {a : Act} {Q : Exit → Act → World → Prop} (hgd : o.guard = none) (s x : Operand)
    (ho : o.op = .call { callee := .builtin .append, args := #[s, x], argTypes := #[22, 22] })
    (B L : Nat) (l : List Fv) (q : Fv) (hown : w.ownsRow B 33 23 (a.eval s) l.length (keptO l)) (hx : a.eval x = .slice (some ⟨L, 0, none⟩) 1 1) (hL : Blk w L q.cells 33) (hq : q.D.length = 16) (hs : q.s.oneCell' = true) (hn : l.length ≤ 1048576) (hB : B ≤ w.heap.size)
    (h : ∀ v' w', w'.ownsRow B 33 23 v' (l ++ [q]).length (keptO (l ++ [q])) → w.grownBy w' (a.eval s).ownBlock → (v'.ownBlock = (a.eval s).ownBlock ∨ v'.ownBlock = some w.heap.size) → wpList Tryd.prog ops Q rest (a.put o.dst v') w') : wpList Tryd.prog ops Q (o :: rest) a w := by
  obtain ⟨inf, hi, hz0, hz1, hz2⟩ := info_parts Tryd.info33
  have hql : q.cells.length = 23 := by unfold Fv.cells Lib.byteCells; simp [hq]
  refine wpList_append_own_at w hgd s x 22 ho B 33 inf (.agg zop) 23 88 Tryd.underlying22 hi hz0 hz1 hz2 rfl (by decide) _ l.length (keptO l) rfl hown ⟨L, 0, none⟩ 1 1 q.cells hx (by rw [hql]) ?_ ?_ (by unfold maxLen; omega) (by omega) hB ?_
  · intro j u hu
    rw [Addr.add_lit, Nat.zero_add, hL.cell, hu]
  · intro u hu
    unfold Fv.cells Lib.byteCells at hu
    simp only [List.mem_append, List.mem_cons, List.not_mem_nil, or_false, List.mem_map] at hu
    rcases hu with (rfl | rfl | rfl | rfl | rfl | rfl | rfl) | ⟨b, _, rfl⟩ <;> first | rfl | exact hs
  · intro v' w' h1 h2 _ h4
    refine h v' w' ?_ h2 h4
    rw [keptO_snoc, List.length_append]
    exact h1
theorem Fv.one {q : Fv} (hs : q.s.oneCell' = true) : ∀ v ∈ q.cells, v.oneCell' = true := by
  intro u hu
  unfold Fv.cells Lib.byteCells at hu
  simp only [List.mem_append, List.mem_cons, List.not_mem_nil, or_false, List.mem_map] at hu
  rcases hu with (rfl | rfl | rfl | rfl | rfl | rfl | rfl) | ⟨b, _, rfl⟩ <;> first | rfl | exact hs
theorem Fv.len {q : Fv} (hD : q.D.length = 16) : q.cells.length = 23 := by unfold Fv.cells Lib.byteCells; simp [hD]
theorem Fv.set6 (q : Fv) (v : Value) : q.cells.set 6 v = Fv.cells ⟨q.dd, q.on, q.N, q.wd, q.ii, q.fl, v, q.B, q.D⟩ := rfl
theorem Fv.c6 (q : Fv) : q.cells[6]? = some q.s := rfl
def zopL : List Value := zop.toList
theorem Tryd.zero33 : (Tryd.prog.info? 33).map (fun i => i.zero) = some (some (.agg zopL.toArray)) := by kernel_rfl
theorem Tryd.size33 : (Tryd.prog.info? 33).map (·.size) = some 23 := by kernel_rfl
theorem zero_22 : (sizeOf 33).run Tryd.prog = fun w => .ok 23 w := by kernel_rfl
theorem fill_op (q : Fv) (h : q.D.length = 16) : Instr.fill (fun i => some (i * 23, 23)) ((Array.range (1 * 23)).map (zop[· % zop.size]!)) [(0, .agg q.cells.toArray)] = some q.cells.toArray := by
  obtain ⟨dd, on, N, wd, ii, fl, s, B, D⟩ := q
  obtain ⟨y0, y1, y2, y3, y4, y5, y6, y7, y8, y9, y10, y11, y12, y13, y14, y15, hD⟩ := sixteen h
  simp only at hD
  subst hD
  kernel_rfl
theorem run_slice_op (q : Fv) (h : q.D.length = 16) (w : World) : (Instr.buildSlice 22 1 #[(0, .agg q.cells.toArray)]).run Tryd.prog w = .ok (.slice (some ⟨w.heap.size, 0, none⟩) 1 1) (w.alloc (.cells q.cells.toArray 33)) := by
  have h1 : (sizeOf 33).run Tryd.prog w = .ok 23 w := by kernel_rfl
  have h2 : (zeroValue 33).run Tryd.prog w = .ok (.agg zop) w := by kernel_rfl
  unfold Instr.buildSlice
  simp only [Sem.run_bind, run_underlying Tryd.underlying22, Result.andThen_ok, h1]
  rw [if_neg (by decide), if_neg (by decide)]
  simp only [Sem.run_bind, Sem.run_pure, Result.andThen_ok, h2, Value.cells, fill_op q h]
  rfl
theorem wpList_slice_op {ops : Array Oper} {rest : List Oper} {o : Oper} {a : Act} {w : World} {Q : Exit → Act → World → Prop} (hgd : o.guard = none) (x : Operand) (ho : o.op = .buildSlice 22 1 #[(0, x)]) (q : Fv) (hk : q.D.length = 16) (hx : a.eval x = .agg q.cells.toArray)
    (h : ∀ w', Blk w' w.heap.size q.cells 33 → w'.heap.size = w.heap.size + 1 → w.grownBy w' none → wpList Tryd.prog ops Q rest (a.put o.dst (.slice (some ⟨w.heap.size, 0, none⟩) 1 1)) w') : wpList Tryd.prog ops Q (o :: rest) a w :=
  wpList_plain hgd fun _ hK => by
    have e : (#[(0, x)] : Array (Nat × Operand)).map (fun (i, x) => (i, a.eval x)) = #[(0, .agg q.cells.toArray)] := by simp [hx]
    unfold Oper.wp execOp
    simp only [ho]
    rw [e, Sem.run_bind, run_slice_op q hk w]
    exact hK _ _ (h _ (Blk.new w q.cells 33) (by simp) (galloc _ _ _))
/-- make: a row of zeros. -/
theorem make_any (w : World) (n : Nat) (hn : n ≤ 140737488355328) : ∃ w', (Instr.makeSlice 29 (.int .i64 (n : Int)) (.int .i64 (n : Int))).run Tryd.prog w = .ok (.slice (some ⟨w.heap.size, 0, none⟩) n n) w' ∧ Rd w' (fun g => w.heap.size ≤ g) (.slice (some ⟨w.heap.size, 0, none⟩) n n) (List.replicate n 0) ∧ w.grownBy w' none := by
  refine ⟨_, run_make_row' (P := Tryd.prog) 29 5 (.int .u8 0) 1 Tryd.underlying29 Tryd.info5 rfl .i64 .i64 n (by omega) (by omega) w, ?_, galloc _ _ _⟩
  have hr := World.rowIs_made w (.int .u8 0) n 5
  refine ⟨some ⟨w.heap.size, 0, none⟩, w.heap.size, 0, n, by simp, by simp, (fun h => by cases h), fun _ => ⟨rfl, hr.lt, Nat.le_refl _⟩, fun i hi => ?_⟩
  have hi' : i < n := by simpa using hi
  rw [Nat.zero_add, hr.cell hi']
  simp
theorem Wr.new (w : World) (F : Nat → Prop) (hF : ¬ F w.heap.size) : ∃ f, Wr (w.alloc (.cells #[.pointer none, .int .i64 0, .int .i64 0] 27)) w.heap.size 27 3 0 f F [] 0 := by
  refine ⟨fun i => if i = 0 then .pointer none else .int .i64 0, ?_, Nat.le_refl _, hF, none, [], rfl, rfl, rfl, rfl, rfl⟩
  refine World.rowIs_alloc w #[.pointer none, .int .i64 0, .int .i64 0] 27 _ (fun i hi => ?_)
  match i, hi with
  | 0, _ => rfl
  | 1, _ => rfl
  | 2, _ => rfl

theorem ArgO.on {w u : World} {a : Option Addr} {b o n : Nat} {fs : Nat → Fv} (h : ArgO w a b o n fs) (hu : w.grownBy u none) : ArgO u a b o n fs :=
  ⟨fun hn => ⟨(h.1 hn).1, Nat.lt_of_lt_of_le (h.1 hn).2 hu.size⟩, fun i hi => ⟨fun j v hj => by rw [cell_at hu (h.1 (by omega)).2 (by simp)]; exact (h.2 i hi).1 j v hj, by
    obtain ⟨h1, h2, h3, h4, h5, h6⟩ := (h.2 i hi).2
    exact ⟨h1, h2, h3, h4, h5.keep hu, h6⟩⟩⟩
theorem Rs.nil (w : World) : Rs w (w.alloc (.cells #[.pointer none, .int .i64 0, .int .i64 0] 27)) (.slice none 0 0) [] [] := by
  obtain ⟨f, h⟩ := Wr.new w (fun g => w.heap.size + 1 ≤ g) (by omega)
  exact ⟨⟨rfl, .inl ⟨rfl, rfl⟩⟩, fun q hq => by simp at hq, ⟨f, _, h, fun g hg => hg, fun k hk => by simp [Value.ownBlock] at hk⟩, galloc _ _ _⟩
theorem Rs.lt {w0 wr : World} {kv : Value} {ks : List Fv} {acc : List UInt8} (h : Rs w0 wr kv ks acc) : w0.heap.size < wr.heap.size := by
  obtain ⟨f, F, ⟨h1, _⟩, _⟩ := h.wrt
  exact h1.lt
theorem Rs.shape {w0 wr : World} {kv : Value} {ks : List Fv} {acc : List UInt8} (h : Rs w0 wr kv ks acc) : ∃ ka kc, kv = .slice ka ks.length kc := by
  obtain ⟨ka, kc, g, e, _⟩ := keptO_open (fun q hq => (h.ok q hq).1.D) h.kp
  exact ⟨ka, kc, e⟩
/-- What stands ready for the readers. -/
structure Rk (u : World) (ka : Option Addr) (kg kc : Nat) (ks : List Fv) : Prop where
  at_ : 0 < ks.length → ka = some ⟨kg, 0, none⟩ ∧ kg < u.heap.size
  row : ∀ (i : Nat) (q : Fv), ks[i]? = some q → u.rangeAt kg (i * 23) q.cells ∧ q.Ok ∧ Rd u (fun g => g < u.heap.size) q.s q.B
theorem Rs.ready {w0 u : World} {kv : Value} {ks : List Fv} {acc : List UInt8} (h : Rs w0 u kv ks acc) : ∃ ka kg kc, kv = .slice ka ks.length kc ∧ ks.length ≤ kc ∧ Rk u ka kg kc ks := by
  obtain ⟨ka, kc, g, e, hle, hat, hr⟩ := keptO_open (fun q hq => (h.ok q hq).1.D) h.kp
  refine ⟨ka, g, kc, e, hle, fun h0 => ⟨(hat h0).1, (hat h0).2.2⟩, fun i q hq => ?_⟩
  have hm := List.mem_of_getElem? hq
  exact ⟨hr i q hq, (h.ok q hm).1, (h.ok q hm).2.rd.mono (fun k hk _ => hk)⟩
theorem Rk.to {u u' : World} {ka : Option Addr} {kg kc : Nat} {ks : List Fv} (h : Rk u ka kg kc ks) (hg : u.grownBy u' none) {i : Nat} {q : Fv} (hq : ks[i]? = some q) : u'.rangeAt kg (i * 23) q.cells ∧ q.Ok ∧ Rd u' (fun g => g < u.heap.size) q.s q.B := by
  obtain ⟨h1, h2, h4⟩ := h.row i q hq
  have h0 : 0 < ks.length := by have := (List.getElem?_eq_some_iff.1 hq).1; omega
  exact ⟨fun j v hj => by rw [cell_at hg (h.at_ h0).2 (by simp)]; exact h1 j v hj, h2, h4.keep hg⟩
section
variable {P : Program} {ops : Array Oper} {rest : List Oper} {o : Oper} {a : Act} {w : World} {Q : Exit → Act → World → Prop}
theorem wpList_want (hw : Region.wanted o (yielded ops a.tmps) = true) (h : ∀ K : Act → World → Prop, (∀ a w, wpList P ops Q rest a w → K a w) → o.wp P a w K Q) : wpList P ops Q (o :: rest) a w :=
  wpList_step fun K hK => by rw [if_pos hw]; exact h K hK
theorem wpList_load_partW (hw : Region.wanted o (yielded ops a.tmps) = true) (ty : TypeId) (x : Operand) (ho : o.op = .load ty x) (b off : Nat) (vs : List Value) (d : TypeDesc) (hx : a.eval x = .pointer (some ⟨b, off, none⟩)) (hc : w.rangeAt b off vs)
    (hu : P.underlying ty = some d) (hd : d.isRow = true) (hi : (P.info? ty).map (·.size) = some vs.length)
    (h : wpList P ops Q rest (a.put o.dst (.agg vs.toArray)) w) : wpList P ops Q (o :: rest) a w :=
  wpList_want hw fun _ hK => wp_load_mid ty x ho b off hx vs d hc hu hd hi (hK _ _ h)
end
/- Readers that refuse. -/
theorem rb_c {l : List UInt8} {c k : Nat} (hc : c ≠ 0) : rb l c k = c := by unfold rb ref; rw [if_neg hc]; split <;> rfl
theorem rl_c {l : List UInt8} {c k : Nat} (hc : c ≠ 0) : rl l c k = l := by unfold rl; rw [rb_c hc, if_neg hc]
theorem rt_c {l : List UInt8} {c k : Nat} (hc : c ≠ 0) : rt l c k = [] := by unfold rt; rw [rb_c hc, if_neg hc]
theorem fb_c {l : List UInt8} {c : Nat} (hc : c ≠ 0) : fb l c = c := by unfold fb; rw [rt_c hc, if_neg (by decide)]; exact rb_c hc
theorem rowB_c {l : List UInt8} {c : Nat} (hc : c ≠ 0) : rowB l c = c := by unfold rowB; rw [rt_c hc, if_neg (by decide)]; exact rb_c hc
theorem row_c {l : List UInt8} {c : Nat} (hc : c ≠ 0) : rowT l c = [] ∧ rowL l c = l ∧ rowE l c = c := by
  unfold rowT rowL rowE
  rw [rowB_c hc, rt_c hc, rl_c hc, rb_c hc]
  exact ⟨rfl, rfl, rfl⟩
section
variable (w : World) (b : Nat) (F : Nat → Prop) (l : List UInt8) (h : Rr w b F l 34)
include h
theorem num34 : Calls Tryd.prog 15 #[.pointer (some ⟨b, 0, none⟩), .int .i64 1] w fun r w' => r = .returned (.int .u64 0) ∧ Rr w' b F l 34 ∧ w.grownBy w' (some b) := by
  have h1 := rnum_ok w b F l 34 1 h (by decide) (by decide)
  rw [rt_c (by decide), rl_c (by decide), rb_c (by decide)] at h1
  exact h1
theorem int34 : Calls Tryd.prog 18 #[.pointer (some ⟨b, 0, none⟩)] w fun r w' => (∃ x, r = .returned (.int .i64 x)) ∧ Rr w' b F l 34 ∧ w.grownBy w' (some b) := by
  have h1 := rint_any w b F l 34 h
  rw [rl_c (by decide), rb_c (by decide)] at h1
  exact h1.mono fun r w' ⟨e, h2⟩ => ⟨⟨_, e⟩, h2⟩
theorem flag34 : Calls Tryd.prog 17 #[.pointer (some ⟨b, 0, none⟩)] w fun r w' => (∃ x, r = .returned (.bool x)) ∧ Rr w' b F l 34 ∧ w.grownBy w' (some b) := by
  have h1 := rflag_any w b F l 34 h
  rw [fb_c (by decide), rl_c (by decide), rb_c (by decide)] at h1
  exact h1.mono fun r w' ⟨e, h2⟩ => ⟨⟨_, e⟩, h2⟩
theorem id34 : Calls Tryd.prog 19 #[.pointer (some ⟨b, 0, none⟩)] w fun r w' => r = .returned (.agg zer16.toArray) ∧ Rr w' b F l 34 ∧ w.grownBy w' (some b) := by
  have h1 := rid_any w b F l 34 h
  rw [rt_c (by decide), rl_c (by decide), rb_c (by decide)] at h1
  exact h1
theorem bytes34 : Calls Tryd.prog 20 #[.pointer (some ⟨b, 0, none⟩)] w fun r w' => (∃ a c, r = .returned (.slice a 0 c)) ∧ Rr w' b F l 34 ∧ w.grownBy w' (some b) := by
  have h1 := rbytes_any w b F l 34 h
  rw [(row_c (l := l) (c := 34) (by decide)).1, (row_c (l := l) (c := 34) (by decide)).2.1, (row_c (l := l) (c := 34) (by decide)).2.2] at h1
  refine h1.mono fun r w' ⟨v, e, h2, h3, h4⟩ => ⟨?_, h3, h4⟩
  obtain ⟨a, c, hv⟩ := h2.rd.shape
  exact ⟨a, c, by rw [e, hv]; rfl⟩
theorem text34 : Calls Tryd.prog 21 #[.pointer (some ⟨b, 0, none⟩)] w fun r w' => r = .returned (.string ⟨#[]⟩) ∧ Rr w' b F l 34 ∧ w.grownBy w' (some b) := by
  have h1 := rtext_any w b F l 34 h
  rw [(row_c (l := l) (c := 34) (by decide)).1, (row_c (l := l) (c := 34) (by decide)).2.1, (row_c (l := l) (c := 34) (by decide)).2.2] at h1
  exact h1
end
end Go.Proofs.YtfalgjdhdgkbfabDoor
