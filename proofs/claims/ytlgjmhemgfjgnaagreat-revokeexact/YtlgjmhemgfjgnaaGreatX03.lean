/- The three tests of an entry's number or time: span's two, Prune's one. -/
import Derived.Test.YtlgjmhemgfjgnaaGreatRvP
import Derived.Test.YtlgjmhemgfjgnaaGreatKey
import Derived.Stop.BytesEq
namespace Go.Proofs.YtlgjmhemgfjgnaaGreat
open Go Go.RowKit
open Go.RowKit (wrap32 wrap64)

theorem cell_lt {w : World} {b o : Nat} {v : Value} (h : w.cell? ⟨b, o, none⟩ = some v) : b < w.heap.size := by
  rcases Nat.lt_or_ge b w.heap.size with h1 | h1
  · exact h1
  · simp [World.cell?, Array.getElem?_eq_none h1] at h
set_option maxRecDepth 100000 in
set_option maxHeartbeats 800000 in
/-- span's first test. -/
theorem lt_g (w : World) (k : Ky) (p g : Nat) (hp : w.cell? ⟨p, 0, none⟩ = some (.int .u64 g)) :
    Calls Tryz.prog 76 #[.agg k.cells.toArray, .pointer (some ⟨p, 0, none⟩)] w fun e w' => e = .returned (.bool (decide (k.g < g))) ∧ w.grownBy w' none := by
  have hpl : p < w.heap.size := cell_lt hp
  have HP := hid hp
  have hc0 := fun (u : World) (B : Nat) (h : Blk u B k.cells 85) => (by rw [h.cell]; exact Ky.c1 _ : u.cell? ⟨B, 1, none⟩ = some (.int .u64 k.g))
  obtain ⟨K, HK⟩ : ∃ K, Hid (k.cells = K) := ⟨_, hid rfl⟩
  obtain ⟨x, HX⟩ : ∃ x, Hid (k.g = x) := ⟨_, hid rfl⟩
  rw [HK.out, HX.out] at hc0
  rw [HK.out, HX.out]
  have HC0 := hid hc0
  have e0 : decide ((x : Int) < (g : Int)) = decide (x < g) := by rw [Bool.eq_iff_iff]; simp
  have HE0 := hid e0
  clear hc0 e0 hp
  go_enter Tryz.func76, Tryz.ntmps76
  go_wp2_with (with_reducible refine wpList_box_row (by with_unfolding_all rfl) 85 _ (by with_unfolding_all rfl) K (by with_unfolding_all rfl) ?_; intro w1 B1 s1 g1; have HB1 := hid B1; have HG1 := hid g1; have HS1 := hid s1; clear B1 g1 s1; have y0 := HC0.out _ _ HB1.out; have y1 := (cell_at HG1.out hpl (by simp)).trans HP.out)
  go_ret
  exact ⟨by first | rfl | (rw [← HE0.out]), HG1.out⟩
set_option maxRecDepth 100000 in
set_option maxHeartbeats 800000 in
/-- span's second test. -/
theorem eq_g (w : World) (k : Ky) (p g : Nat) (hp : w.cell? ⟨p, 0, none⟩ = some (.int .u64 g)) :
    Calls Tryz.prog 77 #[.agg k.cells.toArray, .pointer (some ⟨p, 0, none⟩)] w fun e w' => e = .returned (.bool (k.g == g)) ∧ w.grownBy w' none := by
  have hpl : p < w.heap.size := cell_lt hp
  have HP := hid hp
  have hc0 := fun (u : World) (B : Nat) (h : Blk u B k.cells 85) => (by rw [h.cell]; exact Ky.c1 _ : u.cell? ⟨B, 1, none⟩ = some (.int .u64 k.g))
  obtain ⟨K, HK⟩ : ∃ K, Hid (k.cells = K) := ⟨_, hid rfl⟩
  obtain ⟨x, HX⟩ : ∃ x, Hid (k.g = x) := ⟨_, hid rfl⟩
  rw [HK.out, HX.out] at hc0
  rw [HK.out, HX.out]
  have HC0 := hid hc0
  have e0 : ((x : Int) == (g : Int)) = (x == g) := by rw [Bool.eq_iff_iff]; simp only [beq_iff_eq]; omega
  have HE0 := hid e0
  clear hc0 e0 hp
  go_enter Tryz.func77, Tryz.ntmps77
  go_wp2_with (with_reducible refine wpList_box_row (by with_unfolding_all rfl) 85 _ (by with_unfolding_all rfl) K (by with_unfolding_all rfl) ?_; intro w1 B1 s1 g1; have HB1 := hid B1; have HG1 := hid g1; have HS1 := hid s1; clear B1 g1 s1; have y0 := HC0.out _ _ HB1.out; have y1 := (cell_at HG1.out hpl (by simp)).trans HP.out)
  go_ret
  exact ⟨by rw [← HE0.out]; rfl, HG1.out⟩
set_option maxRecDepth 100000 in
set_option maxHeartbeats 800000 in
/-- Prune's test. -/
theorem le_ex (w : World) (k : Ky) (p : Nat) (now : Int) (hk : k.id.length = 16) (hp : w.cell? ⟨p, 0, none⟩ = some (.int .i64 now)) :
    Calls Tryz.prog 41 #[.agg k.cells.toArray, .pointer (some ⟨p, 0, none⟩)] w fun e w' => e = .returned (.bool (decide (k.ex ≤ now))) ∧ w.grownBy w' none := by
  have hpl : p < w.heap.size := cell_lt hp
  have HP := hid hp
  have hc0 := fun (u : World) (B : Nat) (h : Blk u B k.cells 85) => (by rw [h.cell]; exact Ky.c18 hk : u.cell? ⟨B, 18, none⟩ = some (.int .i64 k.ex))
  obtain ⟨K, HK⟩ : ∃ K, Hid (k.cells = K) := ⟨_, hid rfl⟩
  obtain ⟨x, HX⟩ : ∃ x, Hid (k.ex = x) := ⟨_, hid rfl⟩
  rw [HK.out, HX.out] at hc0
  rw [HK.out, HX.out]
  have HC0 := hid hc0
  clear hc0 hp
  go_enter Tryz.func41, Tryz.ntmps41
  go_wp2_with (with_reducible refine wpList_box_row (by with_unfolding_all rfl) 85 _ (by with_unfolding_all rfl) K (by with_unfolding_all rfl) ?_; intro w1 B1 s1 g1; have HB1 := hid B1; have HG1 := hid g1; have HS1 := hid s1; clear B1 g1 s1; have y0 := HC0.out _ _ HB1.out; have y1 := (cell_at HG1.out hpl (by simp)).trans HP.out)
  go_ret
  exact ⟨rfl, HG1.out⟩
end Go.Proofs.YtlgjmhemgfjgnaaGreat

namespace Go.Proofs.YtlgjmhemgfjgnaaGreat
open Go Go.RowKit
open Go.RowKit (wrap32 wrap64)

theorem part_cell (t : TypeId) (cs : List Value) (off : Nat) (v : Value) (u : World) (hn : (isAgg t).run Tryz.prog u = .ok false u) (h : cs[off]? = some v) : (part t cs.toArray off).run Tryz.prog u = .ok v u := by
  unfold part
  rw [Sem.run_bind, hn]
  simp [h]
theorem agg4 (u : World) : (isAgg 4).run Tryz.prog u = .ok false u := by kernel_rfl
theorem agg25 (u : World) : (isAgg 67).run Tryz.prog u = .ok false u := by kernel_rfl
theorem agg2 (u : World) : (isAgg 2).run Tryz.prog u = .ok false u := by kernel_rfl
theorem agg27 (u : World) : (isAgg 69).run Tryz.prog u = .ok true u := by kernel_rfl
theorem sz27 (u : World) : (sizeOf 69).run Tryz.prog u = .ok 16 u := by kernel_rfl
theorem part_id {k : Ky} (hk : k.id.length = 16) (u : World) : (part 69 k.cells.toArray 2).run Tryz.prog u = .ok (.agg (Lib.byteCells k.id).toArray) u := by
  unfold part
  rw [Sem.run_bind, agg27]
  simp only [Result.andThen_ok, if_true, Sem.run_bind, sz27, Sem.run_pure]
  congr 2
  have : (Lib.byteCells k.id).length = 16 := by rw [byteCells_length, hk]
  unfold Ky.cells
  simp [this]
theorem fields48 : (Tryz.prog.fieldsOf 85).toList.map (fun f => (f.name, f.type, f.offset)) = [("Whole", 4, 0), ("Grant", 67, 1), ("ID", 69, 2), ("Exp", 2, 18)] := by kernel_rfl
theorem ky_eq {k q : Ky} : (k == q) = ((k.wh == q.wh) && ((k.g == q.g) && ((k.id == q.id) && (k.ex == q.ex)))) := by
  rw [Bool.eq_iff_iff]
  simp only [beq_iff_eq, Bool.and_eq_true]
  constructor
  · rintro rfl; exact ⟨rfl, rfl, rfl, rfl⟩
  · rintro ⟨h1, h2, h3, h4⟩
    obtain ⟨a, b, c, d⟩ := k
    obtain ⟨a', b', c', d'⟩ := q
    simp only at h1 h2 h3 h4
    rw [h1, h2, h3, h4]
theorem equal_key {k q : Ky} (hk : k.id.length = 16) (hq : q.id.length = 16) (u : World) : (Op.equalIn 10000 85 (.agg k.cells.toArray) (.agg q.cells.toArray)).run Tryz.prog u = .ok (k == q) u := by
  rw [show 10000 = 9999 + 1 from rfl, run_equalIn_struct u 9999 85 _ _ Tryz.under48 (by kernel_rfl)]
  obtain ⟨f0, f1, f2, f3, hf⟩ : ∃ f0 f1 f2 f3, (Tryz.prog.fieldsOf 85).toList = [f0, f1, f2, f3] := by
    have := congrArg List.length fields48
    match h : (Tryz.prog.fieldsOf 85).toList with
    | [a, b, c, d] => exact ⟨a, b, c, d, rfl⟩
    | [] => rw [h] at this; simp at this
    | [_] => rw [h] at this; simp at this
    | [_, _] => rw [h] at this; simp at this
    | [_, _, _] => rw [h] at this; simp at this
    | _ :: _ :: _ :: _ :: _ :: _ => rw [h] at this; simp at this
  have hm := fields48
  rw [hf] at hm
  simp only [List.map_cons, List.map_nil, List.cons.injEq, Prod.mk.injEq, and_true] at hm
  obtain ⟨⟨n0, t0, o0⟩, ⟨n1, t1, o1⟩, ⟨n2, t2, o2⟩, ⟨n3, t3, o3⟩⟩ := hm
  rw [hf, ky_eq]
  unfold Op.eqFields
  rw [n0, t0, o0, if_pos (by decide)]
  simp only [Sem.run_bind, part_cell 4 _ 0 _ u (agg4 u) (Ky.c0 k), part_cell 4 _ 0 _ u (agg4 u) (Ky.c0 q), Result.andThen_ok, show 9999 = 9998 + 1 from rfl, run_equalIn_bool u 9998 4 _ _ Tryz.underlying4]
  cases h0 : (k.wh == q.wh) with
  | false => simp
  | true =>
    simp only [Bool.not_true, Bool.false_eq_true, if_false, Bool.true_and]
    unfold Op.eqFields
    rw [n1, t1, o1, if_pos (by decide)]
    simp only [Sem.run_bind, part_cell 67 _ 1 _ u (agg25 u) (Ky.c1 k), part_cell 67 _ 1 _ u (agg25 u) (Ky.c1 q), Result.andThen_ok, run_equalIn_int u 9998 67 .u64 .u64 _ _ Tryz.underlying67]
    have e0 : ((k.g : Int) == (q.g : Int)) = (k.g == q.g) := by
      rw [Bool.eq_iff_iff]; simp only [beq_iff_eq]; omega
    rw [e0]
    cases h1 : (k.g == q.g) with
    | false => simp
    | true =>
      simp only [Bool.not_true, Bool.false_eq_true, if_false, Bool.true_and]
      unfold Op.eqFields
      rw [n2, t2, o2, if_pos (by decide)]
      simp only [Sem.run_bind, part_id hk, part_id hq, Result.andThen_ok]
      have hb : (Op.equalIn (9998 + 1) 69 (.agg (Lib.byteCells k.id).toArray) (.agg (Lib.byteCells q.id).toArray)).run Tryz.prog u = .ok (k.id == q.id) u := run_equalIn_bytes u 9997 69 5 16 Tryz.underlying69 Tryz.underlying5 (fun u => by kernel_rfl) k.id q.id hk hq
      rw [hb]
      simp only [Result.andThen_ok]
      cases h2 : (k.id == q.id) with
      | false => simp
      | true =>
        simp only [Bool.not_true, Bool.false_eq_true, if_false, Bool.true_and]
        unfold Op.eqFields
        rw [n3, t3, o3, if_pos (by decide)]
        simp only [Sem.run_bind, part_cell 2 _ 18 _ u (agg2 u) (Ky.c18 hk), part_cell 2 _ 18 _ u (agg2 u) (Ky.c18 hq), Result.andThen_ok, run_equalIn_int u 9998 2 .i64 .i64 _ _ Tryz.underlying2]
        cases h3 : (k.ex == q.ex) with
        | false => simp
        | true => simp [Op.eqFields]
theorem eqG (op : BinOp) (xs ys : Array Value) {x y : Operand} (u : World) : (do eqGuard op 85 x y (.agg xs) (.agg ys); binOp op 85 (.agg xs) (.agg ys) : Sem Value).run Tryz.prog u = (binOp op 85 (.agg xs) (.agg ys)).run Tryz.prog u := by
  rw [Sem.run_bind, run_eqGuard_agg u op 85 x y _ _ (by kernel_rfl)]
  rfl
theorem eql_key {k q : Ky} (hk : k.id.length = 16) (hq : q.id.length = 16) {x y : Operand} (u : World) : (do eqGuard .eql 85 x y (.agg k.cells.toArray) (.agg q.cells.toArray); binOp .eql 85 (.agg k.cells.toArray) (.agg q.cells.toArray) : Sem Value).run Tryz.prog u = .ok (.bool (k == q)) u := by
  rw [eqG, run_eql_struct, equal_key hk hq]
  rfl
theorem neq_key {k q : Ky} (hk : k.id.length = 16) (hq : q.id.length = 16) {x y : Operand} (u : World) : (do eqGuard .neq 85 x y (.agg k.cells.toArray) (.agg q.cells.toArray); binOp .neq 85 (.agg k.cells.toArray) (.agg q.cells.toArray) : Sem Value).run Tryz.prog u = .ok (.bool (!(k == q))) u := by
  rw [eqG, run_neq_struct, equal_key hk hq]
  rfl
set_option maxRecDepth 100000 in
theorem eql_id (D E : List UInt8) (hD : D.length = 16) (hE : E.length = 16) {x y : Operand} (u : World) : (do eqGuard .eql 69 x y (.agg (Lib.byteCells D).toArray) (.agg (Lib.byteCells E).toArray); binOp .eql 69 (.agg (Lib.byteCells D).toArray) (.agg (Lib.byteCells E).toArray) : Sem Value).run Tryz.prog u = .ok (.bool (D == E)) u := by
  rw [Sem.run_bind, run_eqGuard_agg u .eql 69 x y _ _ (by kernel_rfl)]
  exact run_eql_bytes (P := Tryz.prog) u 69 5 16 Tryz.underlying69 Tryz.underlying5 (fun u => by kernel_rfl) D E hD hE
set_option maxRecDepth 100000 in
theorem neq_id (D E : List UInt8) (hD : D.length = 16) (hE : E.length = 16) {x y : Operand} (u : World) : (do eqGuard .neq 69 x y (.agg (Lib.byteCells D).toArray) (.agg (Lib.byteCells E).toArray); binOp .neq 69 (.agg (Lib.byteCells D).toArray) (.agg (Lib.byteCells E).toArray) : Sem Value).run Tryz.prog u = .ok (.bool (!(D == E))) u := by
  rw [Sem.run_bind, run_eqGuard_agg u .neq 69 x y _ _ (by kernel_rfl)]
  have hb : (Op.equalIn (9998 + 2) 69 (.agg (Lib.byteCells D).toArray) (.agg (Lib.byteCells E).toArray)).run Tryz.prog u = .ok (D == E) u := run_equalIn_bytes u 9998 69 5 16 Tryz.underlying69 Tryz.underlying5 (fun u => by kernel_rfl) D E hD hE
  show (binOp .neq 69 _ _).run Tryz.prog u = _
  rw [run_neq_struct, hb]
  rfl
theorem wpList_bin {P : Program} {ops : Array Oper} {rest : List Oper} {o : Oper} {a : Act} {w : World} {Q : Exit → Act → World → Prop} (hgd : o.guard = none) (op : BinOp) (t : TypeId) (x y : Operand) (ty : TypeId) (ho : o.op = .binOp op t x y ty) (vx vy v : Value) (hx : a.eval x = vx) (hy : a.eval y = vy) (hr : (do eqGuard op t x y vx vy; binOp op t vx vy : Sem Value).run P w = .ok v w)
    (h : wpList P ops Q rest (a.put o.dst v) w) : wpList P ops Q (o :: rest) a w :=
  wpList_plain hgd fun _ hK => by
    subst hx hy
    unfold Oper.wp execOp
    simp only [ho]
    rw [Sem.run_bind, hr]
    exact hK _ _ h
theorem wpList_fd {P : Program} {ops : Array Oper} {rest : List Oper} {o : Oper} {a : Act} {w : World} {Q : Exit → Act → World → Prop} (hgd : o.guard = none) (t : TypeId) (x : Operand) (i : Nat) (ho : o.op = .field t x i) (vx v : Value) (hx : a.eval x = vx) (hr : (Instr.field t vx i).run P w = .ok v w)
    (h : wpList P ops Q rest (a.put o.dst v) w) : wpList P ops Q (o :: rest) a w :=
  wpList_plain hgd fun _ hK => by
    subst hx
    unfold Oper.wp execOp
    simp only [ho]
    rw [Sem.run_bind, hr]
    exact hK _ _ h
end Go.Proofs.YtlgjmhemgfjgnaaGreat
