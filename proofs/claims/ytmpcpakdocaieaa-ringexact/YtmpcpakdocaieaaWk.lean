/- wakes. -/
import Derived.Test.YtmpcpakdocaieaaCpR
namespace Go.Proofs.Ytmpcpakdocaieaa
open Go Go.RowKit
open Go.RowKit (wrap32 wrap64)

section
variable {P : Program} {ops : Array Oper} {rest : List Oper} {o : Oper} {a : Act} {w : World} {Q : Exit → Act → World → Prop}
theorem wpList_want (hw : Region.wanted o (yielded ops a.tmps) = true) (h : ∀ K : Act → World → Prop, (∀ a w, wpList P ops Q rest a w → K a w) → o.wp P a w K Q) : wpList P ops Q (o :: rest) a w :=
  wpList_step fun K hK => by rw [if_pos hw]; exact h K hK
theorem wpList_load_partW (hw : Region.wanted o (yielded ops a.tmps) = true) (ty : TypeId) (x : Operand) (ho : o.op = .load ty x) (b off : Nat) (vs : List Value) (d : TypeDesc) (hx : a.eval x = .pointer (some ⟨b, off, none⟩)) (hc : w.rangeAt b off vs)
    (hu : P.underlying ty = some d) (hd : d.isRow = true) (hi : (P.info? ty).map (·.size) = some vs.length)
    (h : wpList P ops Q rest (a.put o.dst (.agg vs.toArray)) w) : wpList P ops Q (o :: rest) a w :=
  wpList_want hw fun _ hK => wp_load_mid ty x ho b off hx vs d hc hu hd hi (hK _ _ h)
theorem wpList_binW (hw : Region.wanted o (yielded ops a.tmps) = true) (op : BinOp) (t : TypeId) (x y : Operand) (ty : TypeId) (ho : o.op = .binOp op t x y ty) (vx vy v : Value) (hx : a.eval x = vx) (hy : a.eval y = vy) (hr : (do eqGuard op t x y vx vy; binOp op t vx vy : Sem Value).run P w = .ok v w)
    (h : wpList P ops Q rest (a.put o.dst v) w) : wpList P ops Q (o :: rest) a w :=
  wpList_want hw fun _ hK => by
    subst hx hy
    unfold Oper.wp execOp
    simp only [ho]
    rw [Sem.run_bind, hr]
    exact hK _ _ h
theorem wpList_build_ofW (hw : Region.wanted o (yielded ops a.tmps) = true) (t : TypeId) (xs : Array (Nat × Operand)) (ho : o.op = .build t xs) (vs : List (Nat × Value)) (hx : (xs.map fun (i, x) => (i, a.eval x)).toList = vs) (z : List Value) (hz : P.built t vs = some z.toArray)
    (h : wpList P ops Q rest (a.put o.dst (.agg z.toArray)) w) : wpList P ops Q (o :: rest) a w := by
  have e : P.built t (xs.map fun (i, x) => (i, a.eval x)).toList = some z.toArray := by rw [hx]; exact hz
  refine wpList_want hw fun _ hK => ?_
  refine wp_build t xs ho (by rw [e]; rfl) ?_
  rw [e]
  exact hK _ _ h
end
def S1 : List UInt8 := 1 :: List.replicate 31 0
def S2 : List UInt8 := 2 :: List.replicate 31 0
theorem built_s1 : Try.prog.built 70 [(0, .int .u8 1)] = some (Lib.byteCells S1).toArray := by kernel_rfl
theorem built_s2 : Try.prog.built 70 [(0, .int .u8 2)] = some (Lib.byteCells S2).toArray := by kernel_rfl
set_option maxRecDepth 100000 in
theorem eql_70 (D E : List UInt8) (hD : D.length = 32) (hE : E.length = 32) {x y : Operand} (u : World) : (do eqGuard .eql 70 x y (.agg (Lib.byteCells D).toArray) (.agg (Lib.byteCells E).toArray); binOp .eql 70 (.agg (Lib.byteCells D).toArray) (.agg (Lib.byteCells E).toArray) : Sem Value).run Try.prog u = .ok (.bool (D == E)) u := by
  rw [Sem.run_bind, run_eqGuard_agg u .eql 70 x y _ _ (by kernel_rfl)]
  exact run_eql_bytes (P := Try.prog) u 70 5 32 Try.underlying70 Try.underlying5 (fun u => by kernel_rfl) D E hD hE
def k1 : Ky := ⟨1, S1, 50⟩
def k2 : Ky := ⟨2, S2, 0⟩
theorem wk_rot : rotE [⟨1, S1, 0⟩] 2 50 = 0 ∧ rotR [⟨1, S1, 0⟩] 2 S2 50 = ([k1, k2], 3) := by decide +kernel
theorem wk_cur : isRing [k1, k2] 3 = true ∧ lastK [k1, k2] = k2 := by decide +kernel
theorem wk_find : fnd [k1, k2] 3 1 = some k1 := by decide +kernel
theorem wk_50 : prn [k1, k2] 3 50 = ([k2], 3) := by decide +kernel
theorem wk_49 : prn [k1, k2] 3 49 = ([k1, k2], 3) := by decide +kernel
theorem fdr (a : Option Addr) (n c : Nat) (nx : Int) (u : World) : (Instr.field 69 (.agg #[.slice a n c, .int .u64 nx]) 0).run Try.prog u = .ok (.slice a n c) u := by kernel_rfl
set_option maxRecDepth 100000 in
set_option maxHeartbeats 1600000 in
theorem wakes_any (w : World) : Calls Try.prog 26 #[] w fun e w' => e = .returned (.bool true) ∧ w.grownBy w' none := by
  obtain ⟨s1, HS1e⟩ : ∃ x, Hid (Lib.byteCells S1 = x) := ⟨_, hid rfl⟩
  obtain ⟨s2, HS2e⟩ : ∃ x, Hid (Lib.byteCells S2 = x) := ⟨_, hid rfl⟩
  have HL2 : Hid (s2.length = 32) := hid (by rw [← HS2e.out]; rfl)
  have HBu1 : Hid (Try.prog.built 70 [(0, .int .u8 1)] = some s1.toArray) := hid (by rw [← HS1e.out]; exact built_s1)
  have HBu2 : Hid (Try.prog.built 70 [(0, .int .u8 2)] = some s2.toArray) := hid (by rw [← HS2e.out]; exact built_s2)
  have HFi : Hid (Calls Try.prog 10 #[.agg s1.toArray] w fun e w' => ∃ a c, e = .returned (.agg #[.slice a 1 c, .int .u64 2]) ∧ OutK w.heap.size w' (.slice a 1 c) [⟨1, S1, 0⟩] ∧ w.grownBy w' none) := hid (by rw [← HS1e.out]; exact first_any w S1 rfl)
  have HRo : Hid (∀ (u : World) (B : Nat) (v : Value), OutK B u v [⟨1, S1, 0⟩] → Calls Try.prog 12 #[.agg #[v, .int .u64 2], .agg s2.toArray, .int .i64 50] u fun e w' => ∃ a c, e = .returned (.tuple #[.agg #[.slice a 2 c, .int .u64 3], .int .i64 0]) ∧ OutK u.heap.size w' (.slice a 2 c) [k1, k2] ∧ u.grownBy w' none) := fun u B v h => by
    have := rotate_any u v _ [⟨1, S1, 0⟩] 2 S2 50 h.rd (by decide) rfl (by decide)
    rw [wk_rot.1, wk_rot.2, HS2e.out] at this
    exact this
  have HCu : Hid (∀ (u : World) (B : Nat) (v : Value), OutK B u v [k1, k2] → Calls Try.prog 29 #[.agg #[v, .int .u64 3]] u fun e w' => e = .returned (.tuple #[.agg k2.cells.toArray, .bool true]) ∧ u.grownBy w' none) := fun u B v h => by
    have := current_any u v _ [k1, k2] 3 h.rd (by decide)
    rw [wk_cur.1, if_pos rfl, wk_cur.2] at this
    exact this
  have HFd : Hid (∀ (u : World) (B : Nat) (v : Value), OutK B u v [k1, k2] → Calls Try.prog 30 #[.agg #[v, .int .u64 3], .int .u64 1] u fun e w' => e = .returned (.tuple #[.agg k1.cells.toArray, .bool true]) ∧ u.grownBy w' none) := fun u B v h => by
    have := rfind_any u v _ [k1, k2] 3 1 h.rd (by decide)
    rw [wk_find] at this
    exact this
  have HP50 : Hid (∀ (u : World) (B : Nat) (v : Value), OutK B u v [k1, k2] → Calls Try.prog 14 #[.agg #[v, .int .u64 3], .int .i64 50] u fun e w' => ∃ a c, e = .returned (.agg #[.slice a 1 c, .int .u64 3]) ∧ OutK u.heap.size w' (.slice a 1 c) [k2] ∧ u.grownBy w' none) := fun u B v h => by
    have := prune_any u v _ [k1, k2] 3 50 h.rd (by decide)
    rw [wk_50] at this
    exact this
  have HP49 : Hid (∀ (u : World) (B : Nat) (v : Value), OutK B u v [k1, k2] → Calls Try.prog 14 #[.agg #[v, .int .u64 3], .int .i64 49] u fun e w' => ∃ a c, e = .returned (.agg #[.slice a 2 c, .int .u64 3]) ∧ OutK u.heap.size w' (.slice a 2 c) [k1, k2] ∧ u.grownBy w' none) := fun u B v h => by
    have := prune_any u v _ [k1, k2] 3 49 h.rd (by decide)
    rw [wk_49] at this
    exact this
  have HNu : Hid (∀ u : World, Calls Try.prog 22 #[.int .i64 0] u fun r w' => r = .returned (.int .i64 0) ∧ w' = u) := fun u => num_any 0 u
  have HEq : Hid (∀ (x y : Operand) (u : World), (do eqGuard .eql 70 x y (.agg s2.toArray) (.agg s2.toArray); binOp .eql 70 (.agg s2.toArray) (.agg s2.toArray) : Sem Value).run Try.prog u = .ok (.bool true) u) := fun x y u => by
    rw [← HS2e.out, eql_70 S2 S2 rfl rfl]
    simp
  have HSec : Hid (∀ (u : World) (B : Nat), Blk u B k2.cells 107 → u.rangeAt B 1 s2) := fun u B h => by
    rw [← HS2e.out]
    exact h.range [.int .u64 2] (Lib.byteCells S2) [.int .i64 0] 1 rfl rfl
  have HKL1 : Hid (k1.cells.length = 34) := hid rfl
  have HKL2 : Hid (k2.cells.length = 34) := hid rfl
  obtain ⟨K1, HK1e⟩ : ∃ x, Hid (k1.cells = x) := ⟨_, hid rfl⟩
  obtain ⟨K2, HK2e⟩ : ∃ x, Hid (k2.cells = x) := ⟨_, hid rfl⟩
  have HK11 : Hid (∀ v ∈ K1, v.oneCell' = true) := hid (by rw [← HK1e.out]; exact Ky.one _)
  have HK21 : Hid (∀ v ∈ K2, v.oneCell' = true) := hid (by rw [← HK2e.out]; exact Ky.one _)
  have HC1 : Hid (∀ (u : World) (B : Nat), Blk u B K1 107 → u.cell? ⟨B, 33, none⟩ = some (.int .i64 50)) := fun u B h => by rw [h.cell, ← HK1e.out]; rfl
  have HC2 : Hid (∀ (u : World) (B : Nat), Blk u B K2 107 → u.cell? ⟨B, 0, none⟩ = some (.int .u64 2)) := fun u B h => by rw [h.cell, ← HK2e.out]; rfl
  rw [HK1e.out] at HFd HKL1
  rw [HK2e.out] at HCu HSec HKL2
  have hfd := fdr
  go_enter Try.func26, Try.ntmps26
  go_wp2_with (first
    | (with_reducible refine wpList_build_of (by with_unfolding_all rfl) 70 _ (by with_unfolding_all rfl) [(0, .int .u8 1)] (by with_unfolding_all rfl) s1 HBu1.out ?_)
    | (with_reducible refine wpList_build_of (by with_unfolding_all rfl) 70 _ (by with_unfolding_all rfl) [(0, .int .u8 2)] (by with_unfolding_all rfl) s2 HBu2.out ?_)
    | (with_reducible refine wpList_build_ofW (by with_unfolding_all rfl) 70 _ (by with_unfolding_all rfl) [(0, .int .u8 2)] (by with_unfolding_all rfl) s2 HBu2.out ?_)
    | (go_at_call 10; (with_reducible refine HFi.out.mono ?_); rintro e w1 ⟨a1, c1, rfl, hO1, hg1⟩; have HO1 := hid hO1; have HG1 := hid hg1; clear hO1 hg1)
    | (go_at_call 12; (with_reducible refine (HRo.out _ _ _ HO1.out).mono ?_); rintro e w2 ⟨a2, c2, rfl, hO2, hg2⟩; have HO2 := hid (hO2.below (show 0 ≤ w1.heap.size by omega)); have HG2 := hid (gtrans HG1.out hg2); clear hO2 hg2)
    | (have := HB5; clear this; (with_reducible refine wpList_alloc_row (by with_unfolding_all rfl) 107 (by with_unfolding_all rfl) zky.cells Try.zero107 ?_); intro w7 B7 s7 g7; have HB7 := hid B7; have HG7 := hid g7; have HS7 := hid s7; clear B7 g7 s7)
    | ((with_reducible refine wpList_alloc_row (by with_unfolding_all rfl) 107 (by with_unfolding_all rfl) zky.cells Try.zero107 ?_); intro w5 B5 s5 g5; have HB5 := hid B5; have HG5 := hid g5; have HS5 := hid s5; clear B5 g5 s5)
    | ((with_reducible refine wpList_alloc_row (by with_unfolding_all rfl) 69 (by with_unfolding_all rfl) [.slice none 0 0, .int .u64 0] Try.zero69 ?_); intro w3 B3 s3 g3; have HB3 := hid B3; have HG3 := hid g3; have HS3 := hid s3; clear B3 g3 s3)
    | ((with_reducible refine wpList_store_all (by with_unfolding_all rfl) 69 _ _ (by with_unfolding_all rfl) _ [.slice none 0 0, .int .u64 0] [.slice a2 2 c2, .int .u64 3] 69 (by with_unfolding_all rfl) (by with_unfolding_all rfl) HB3.out (by with_unfolding_all rfl) (by with_unfolding_all exact Try.size69) (ring_one _ _ _ _) ?_); intro w4 B4 g4 s4; have HB4 := hid B4; have HG4 := hid g4; have HS4 := hid s4; clear B4 g4 s4; have HG4x := hid ((gtrans HG2.out HG3.out).andThen HG4.out (fun j hj => .inl (by injection hj with hj; have := HG2.out.size; omega))); have HO4 := hid ((HO2.out.keep HG3.out).on HG4.out (fun j hj e => by injection hj with hj; exact (HO2.out.keep HG3.out).ne_blk HB3.out (by decide) _ e hj.symm)); have y0 := HB4.out.cell 0; have y1 := HB4.out.cell 1)
    | (have := HB7; clear this; (with_reducible refine wpList_store_all (by with_unfolding_all rfl) 107 _ _ (by with_unfolding_all rfl) _ zky.cells K1 107 (by with_unfolding_all rfl) (by with_unfolding_all rfl) HB7.out (by rw [HKL1.out]; with_unfolding_all rfl) (by rw [HKL1.out]; exact Try.size107) HK11.out ?_); intro w8 B8 g8 s8; have HB8 := hid B8; have HG8 := hid g8; have HS8 := hid s8; clear B8 g8 s8; have hb := HR6b.out.lt; have hb6 := HB6b.out.lt; have HR8 := hid ((HR6b.out.keep HG7.out).on HG8.out (by simp; omega)); have HK8 := hid ((HB6b.out.keep HG7.out).on HG8.out (by simp; omega)); have HO8 := hid ((HO6b.out.keep HG7.out).on HG8.out (fun j hj e => by injection hj with hj; subst hj; have := (HO6b.out.2.lt _ e).2; omega)); have HG8x := hid ((gtrans HG6b.out HG7.out).andThen HG8.out (fun j hj => .inl (by injection hj with hj; have := HG6b.out.size; omega))); clear hb hb6; have y0 := HR8.out.cell 0; have y1 := HR8.out.cell 1; have q2 := HC2.out _ _ HK8.out; have q1 := HC1.out _ _ HB8.out)
    | ((with_reducible refine wpList_store_all (by with_unfolding_all rfl) 107 _ _ (by with_unfolding_all rfl) _ zky.cells K2 107 (by with_unfolding_all rfl) (by with_unfolding_all rfl) HB5.out (by rw [HKL2.out]; with_unfolding_all rfl) (by rw [HKL2.out]; exact Try.size107) HK21.out ?_); intro w6 B6 g6 s6; have HB6 := hid B6; have HG6 := hid g6; have HS6 := hid s6; clear B6 g6 s6; have hb := HB4b.out.lt; have HR6 := hid ((HB4b.out.keep HG5.out).on HG6.out (by simp; omega)); have HO6 := hid ((HO4b.out.keep HG5.out).on HG6.out (fun j hj e => by injection hj with hj; subst hj; have := (HO4b.out.2.lt _ e).2; omega)); have HG6x := hid ((gtrans HG4b.out HG5.out).andThen HG6.out (fun j hj => .inl (by injection hj with hj; have := HG4b.out.size; omega))); clear hb; have y0 := HR6.out.cell 0; have y1 := HR6.out.cell 1)
    | (have := HB4; clear this; (with_reducible refine wpList_load_part (by with_unfolding_all rfl) 69 _ (by with_unfolding_all rfl) w2.heap.size 0 [.slice a2 2 c2, .int .u64 3] _ (by with_unfolding_all rfl) (by first | exact HR8.out.whole | exact HR6.out.whole | exact HB4.out.whole) Try.underlying69 (by with_unfolding_all rfl) (by with_unfolding_all exact Try.size69) ?_))
    | (go_at_call 29; (with_reducible refine (HCu.out _ _ _ HO4.out).mono ?_); rintro e w4b ⟨rfl, hg⟩; have HG4b := hid (gtrans HG4x.out hg); have HB4b := hid (HB4.out.keep hg); have HO4b := hid (HO4.out.keep hg); clear hg; have y0 := HB4b.out.cell 0; have y1 := HB4b.out.cell 1)
    | (go_at_call 30; (with_reducible refine (HFd.out _ _ _ HO6.out).mono ?_); rintro e w6b ⟨rfl, hg⟩; have HG6b := hid (gtrans HG6x.out hg); have HR6b := hid (HR6.out.keep hg); have HB6b := hid (HB6.out.keep hg); have HO6b := hid (HO6.out.keep hg); clear hg; have y0 := HR6b.out.cell 0; have y1 := HR6b.out.cell 1)
    | (with_reducible refine wpList_load_partW (by with_unfolding_all rfl) 70 _ (by with_unfolding_all rfl) w4b.heap.size 1 s2 _ (by with_unfolding_all rfl) (HSec.out _ _ HK8.out) Try.underlying70 (by with_unfolding_all rfl) (by rw [HL2.out]; exact Try.size70) ?_)
    | (with_reducible refine wpList_binW (by with_unfolding_all rfl) .eql 70 _ _ _ (by with_unfolding_all rfl) _ _ _ (by with_unfolding_all rfl) (by with_unfolding_all rfl) (HEq.out _ _ _) ?_)
    | (with_reducible refine wpList_load_partW (by with_unfolding_all rfl) 69 _ (by with_unfolding_all rfl) w2.heap.size 0 [.slice a2 2 c2, .int .u64 3] _ (by with_unfolding_all rfl) (by first | exact HR9.out.whole | exact HR8.out.whole) Try.underlying69 (by with_unfolding_all rfl) (by with_unfolding_all exact Try.size69) ?_)
    | (go_at_call 14; (with_reducible refine (HP50.out _ _ _ HO8.out).mono ?_); rintro e w9 ⟨a9, c9, rfl, hO9, hg9⟩; have HO9 := hid (HO8.out.keep hg9); have HR9 := hid (HR8.out.keep hg9); have HG9x := hid (gtrans HG8x.out hg9); clear hO9 hg9)
    | (go_at_call 14; (with_reducible refine (HP49.out _ _ _ HO9.out).mono ?_); rintro e w10 ⟨a10, c10, rfl, hO10, hg10⟩; have HG10x := hid (gtrans HG9x.out hg10); clear hO10 hg10)
    | (go_at_call 22; (with_reducible refine (HNu.out _).mono ?_); rintro e w9 ⟨rfl, hw9⟩; have hw9' := hw9.symm; clear hw9; subst hw9'))
  go_ret
  exact ⟨rfl, HG10x.out⟩
end Go.Proofs.Ytmpcpakdocaieaa
