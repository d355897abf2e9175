/- asks: what may be asked of a list. -/
import Derived.Test.YtlgjmhemgfjgnaaGreatYC
import Derived.Test.YtlgjmhemgfjgnaaGreatYA
import Derived.Test.YtlgjmhemgfjgnaaGreatKbF
namespace Go.Proofs.YtlgjmhemgfjgnaaGreat
open Go Go.RowKit Go.Proofs.YtlgjmhemgfjgnaaGreat.Bk
open Go.RowKit (wrap32 wrap64)

section
variable {P : Program} {ops : Array Oper} {S : World → Prop} {o : Oper} {a : Act}
theorem yieldsIf_mv (hw : Region.wanted o (yielded ops a.tmps) = true) (x : Operand) (ho : o.op = .move x) (v : Value) (hx : a.eval x = v) : YieldsIf P ops S o v a :=
  .inl ⟨hw, fun w _ => by
    unfold execOp
    simp only [ho, hx]
    rfl⟩
theorem yieldsIf_pickt (hw : Region.wanted o (yielded ops a.tmps) = true) (c x y : Operand) (ho : o.op = .pick c x y) (hc : a.eval c = .bool true) (v : Value) (hx : a.eval x = v) : YieldsIf P ops S o v a :=
  .inl ⟨hw, fun w _ => by
    unfold execOp
    simp only [ho, hc, hx]
    rfl⟩
theorem yieldsIf_idx (hw : Region.wanted o (yielded ops a.tmps) = true) (t : TypeId) (x i : Operand) (ho : o.op = .indexAddr t x i) (vx vi v : Value) (hx : a.eval x = vx) (hi : a.eval i = vi) (hr : ∀ u : World, (Instr.indexAt t vx vi).run P u = .ok v u) : YieldsIf P ops S o v a :=
  .inl ⟨hw, fun w _ => by
    subst hx hi
    unfold execOp
    simp only [ho]
    rw [Sem.run_bind, hr]
    rfl⟩
theorem yieldsIf_ld (hw : Region.wanted o (yielded ops a.tmps) = true) (t : TypeId) (x : Operand) (ho : o.op = .load t x) (vx v : Value) (hx : a.eval x = vx) (hr : ∀ u : World, S u → (Instr.loadAt t vx).run P u = .ok v u) : YieldsIf P ops S o v a :=
  .inl ⟨hw, fun w hS => by
    subst hx
    unfold execOp
    simp only [ho]
    rw [Sem.run_bind, hr w hS]
    rfl⟩
end
theorem eqI {x y : Operand} (n : Int) (u : World) : (do eqGuard .eql 3 x y (.int .i64 n) (.int .i64 n); binOp .eql 3 (.int .i64 n) (.int .i64 n) : Sem Value).run Tryz.prog u = .ok (.bool true) u := by go_simp
theorem eqB {x y : Operand} (p : Bool) (u : World) : (do eqGuard .eql 4 x y (.bool p) (.bool p); binOp .eql 4 (.bool p) (.bool p) : Sem Value).run Tryz.prog u = .ok (.bool true) u := by
  cases p <;> kernel_rfl
set_option maxRecDepth 100000 in
set_option maxHeartbeats 6400000 in
theorem asks_any (w : World) (v : Value) (F : Nat → Prop) (l : List Ky) (o : St) (hv : RdK w F v l) (hl : l.length ≤ 1000) (ho' : o.ok) :
    Calls Tryz.prog 5 #[v, .agg o.cells.toArray] w fun e w' => e = .returned (.bool true) ∧ w.grownBy w' none := by
  have HV := hid hv
  obtain ⟨ho, a, b, off, c, rfl, hc, Ha, Hc⟩ := hv.open
  have HOs : Hid (∀ (u : World) (B : Nat), Blk u B o.cells 71 → u.cell? ⟨B, 1, none⟩ = some (.int .u64 o.g) ∧ u.rangeAt B 2 (Lib.byteCells o.id)) := hid (fun u B h => ⟨by rw [h.cell]; exact St.c1 _, by have := St.rid h.whole; rw [Nat.zero_add] at this; exact this⟩)
  have HOi : Hid (o.id.length = 16) := hid ho'.2.1
  have HOJ := hid (size69' ho'.2.1)
  obtain ⟨n, HN⟩ : ∃ n, Hid (l.length = n) := ⟨_, hid rfl⟩
  have HLn : Hid (l.length ≤ 1000) := hid hl
  have HO := hid ho
  have HA : Hid (0 < n → a = some ⟨b, off, none⟩) := hid (fun h => (Ha.out (by rw [HN.out]; exact h)).1)
  obtain ⟨EE, HEE⟩ : ∃ x, Hid ((if chk l = true then 0 else 140 : Int) = x) := ⟨_, hid rfl⟩
  have HL7 : Hid (∀ u, w.grownBy u none → Calls Tryz.prog 7 #[.slice a n c] u fun e w' => ∃ g c', e = .returned (.slice (some ⟨g, 0, none⟩) n c') ∧ LentK u.heap.size w' g c' l ∧ u.grownBy w' none) := hid (fun u hu => by
    have := lendK_any u _ F l (HV.out.keep hu) (by have := HLn.out; omega)
    rw [HN.out] at this
    exact this)
  have HC18a : Hid (∀ u, w.grownBy u none → Calls Tryz.prog 18 #[.slice a n c] u fun e w' => e = .returned (.int .i64 EE) ∧ u.grownBy w' none) := hid (fun u hu => by
    have := rcheck_any u _ F l (HV.out.keep hu) (by have := HLn.out; omega)
    rw [HN.out, HEE.out] at this
    exact this)
  have HP20a : Hid (∀ u, w.grownBy u none → ∀ (g : Nat) (D : List UInt8), D.length = 16 → Calls Tryz.prog 20 #[.slice a n c, .int .u64 g, .agg (Lib.byteCells D).toArray] u fun e w' => e = .returned (.bool (hasL l g D)) ∧ u.grownBy w' none) := hid (fun u hu g D hD => by
    have := rhas_any u _ F l g D hD (HV.out.keep hu) (by have := HLn.out; omega)
    rw [HN.out] at this
    exact this)
  have HBka : Hid (∀ u (g c' C : Nat), w.grownBy u none → LentK C u g c' l → Calls Tryz.prog 10 #[.slice (some ⟨g, 0, none⟩) n c', .slice a n c] u fun e w' => e = .returned (.bool true) ∧ u.grownBy w' none) := hid (fun u g c' C hu h => by
    have := backK_any u _ F C g c' l h (HV.out.keep hu) (by have := HLn.out; omega)
    rw [HN.out] at this
    exact this)
  obtain ⟨OK, HOK⟩ : ∃ x, Hid (o.cells = x) := ⟨_, hid rfl⟩
  obtain ⟨OJ, HOJe⟩ : ∃ x, Hid (Lib.byteCells o.id = x) := ⟨_, hid rfl⟩
  obtain ⟨og, HOg⟩ : ∃ x, Hid (o.g = x) := ⟨_, hid rfl⟩
  rw [HOK.out, HOJe.out, HOg.out] at HOs
  rw [HOJe.out] at HOJ
  rw [HOK.out, HN.out]
  clear hv hc ho ho' Ha hl HOK HV
  go_enter Tryz.func5, Tryz.ntmps5
  go_upto_region 2 with (first
    | ((with_reducible refine wpList_box_row (by with_unfolding_all rfl) 71 _ (by with_unfolding_all rfl) OK (by with_unfolding_all rfl) ?_); intro w1 B1 s1 g1; have HB1 := hid B1; have HG1 := hid g1; clear B1 g1 s1)
    | (go_at_call 7; (with_reducible refine (HL7.out _ HG1.out).mono ?_); rintro e w2 ⟨gx, cx, rfl, hL2, hg2⟩; have HL2 := hid hL2; have HG2 := hid hg2; clear hL2 hg2))
  obtain ⟨b3, hb3⟩ : ∃ z, w.heap.size = z := ⟨_, rfl⟩
  rw [hb3] at HB1 ⊢
  clear hb3
  have HG02 := hid (gtrans HG1.out HG2.out)
  have HBo : Hid (∀ u, w2.grownBy u none → u.cell? ⟨b3, 1, none⟩ = some (.int .u64 og) ∧ u.rangeAt b3 2 OJ) := hid (fun u hu => HOs.out u b3 ((HB1.out.keep HG2.out).keep hu))
  have HXr : Hid (∀ u, w2.grownBy u none → RdK u (fun k => w1.heap.size ≤ k) (.slice (some ⟨gx, 0, none⟩) n cx) l) := hid (fun u hu => by have := (HL2.out.keep hu).rd; rw [HN.out] at this; exact this)
  have HC17 : Hid (∀ u, w2.grownBy u none → Calls Tryz.prog 17 #[.slice (some ⟨gx, 0, none⟩) n cx] u fun e w' => e = .returned (.int .i64 EE) ∧ u.grownBy w' none) := hid (fun u hu => by
    have := check_any u _ _ l (HXr.out u hu) (by have := HLn.out; omega)
    rw [HEE.out] at this
    exact this)
  have HC16 : Hid (∀ u, Calls Tryz.prog 16 #[.int .i64 EE] u fun e w' => e = .returned (.int .i64 EE) ∧ u.grownBy w' none) := hid (fun u => (num_any EE u).mono fun e w' ⟨q1, q2⟩ => ⟨q1, by rw [q2]; exact grefl _ _⟩)
  have HC18 : Hid (∀ u, w2.grownBy u none → Calls Tryz.prog 18 #[.slice a n c] u fun e w' => e = .returned (.int .i64 EE) ∧ u.grownBy w' none) := hid (fun u hu => HC18a.out u (gtrans HG02.out hu))
  have HP19 : Hid (∀ u, w2.grownBy u none → ∀ (g : Nat) (D : List UInt8), D.length = 16 → Calls Tryz.prog 19 #[.slice (some ⟨gx, 0, none⟩) n cx, .int .u64 g, .agg (Lib.byteCells D).toArray] u fun e w' => e = .returned (.bool (hasL l g D)) ∧ u.grownBy w' none) := hid (fun u hu g D hD => has_any u _ _ l g D (HXr.out u hu) (by have := HLn.out; omega) hD)
  have HP20 : Hid (∀ u, w2.grownBy u none → ∀ (g : Nat) (D : List UInt8), D.length = 16 → Calls Tryz.prog 20 #[.slice a n c, .int .u64 g, .agg (Lib.byteCells D).toArray] u fun e w' => e = .returned (.bool (hasL l g D)) ∧ u.grownBy w' none) := hid (fun u hu => HP20a.out u (gtrans HG02.out hu))
  have HC19 : Hid (∀ u, w2.grownBy u none → Calls Tryz.prog 19 #[.slice (some ⟨gx, 0, none⟩) n cx, .int .u64 og, .agg OJ.toArray] u fun e w' => e = .returned (.bool (hasL l og o.id)) ∧ u.grownBy w' none) := hid (fun u hu => by have := HP19.out u hu og o.id HOi.out; rw [HOJe.out] at this; exact this)
  have HC20 : Hid (∀ u, w2.grownBy u none → Calls Tryz.prog 20 #[.slice a n c, .int .u64 og, .agg OJ.toArray] u fun e w' => e = .returned (.bool (hasL l og o.id)) ∧ u.grownBy w' none) := hid (fun u hu => by have := HP20.out u hu og o.id HOi.out; rw [HOJe.out] at this; exact this)
  have HBk : Hid (∀ u, w2.grownBy u none → Calls Tryz.prog 10 #[.slice (some ⟨gx, 0, none⟩) n cx, .slice a n c] u fun e w' => e = .returned (.bool true) ∧ u.grownBy w' none) := hid (fun u hu => HBka.out u gx cx _ (gtrans HG02.out hu) (HL2.out.keep hu))
  obtain ⟨W0, hW0⟩ : ∃ x, hasL l og o.id = x := ⟨_, rfl⟩
  rw [hW0] at HC19 HC20
  clear hW0 HL7 HC18a HP20a HBka HOs HB1 HG1 HG2 HL2 HXr
  refine wp_region_listX (by kernel_rfl) [fun v _ => v = (Value.slice (some ⟨gx, 0, none⟩) n cx), fun v _ => v = (Value.int .i64 EE), fun v _ => v = (Value.int .i64 EE), fun v _ => v = (Value.slice a n c), fun v _ => v = (Value.int .i64 EE), fun v _ => v = (Value.bool true), fun v _ => v = (Value.bool true), fun v _ => v = (Value.slice (some ⟨gx, 0, none⟩) n cx), fun v _ => v = (Value.pointer (some ⟨b3, 1, none⟩)), fun v _ => v = (Value.int .u64 (og : Nat)), fun v _ => v = (Value.pointer (some ⟨b3, 2, none⟩)), fun v _ => v = (Value.agg OJ.toArray), fun v _ => v = (Value.bool W0), fun v _ => v = (Value.slice a n c), fun v _ => v = (Value.pointer (some ⟨b3, 1, none⟩)), fun v _ => v = (Value.int .u64 (og : Nat)), fun v _ => v = (Value.pointer (some ⟨b3, 2, none⟩)), fun v _ => v = (Value.agg OJ.toArray), fun v _ => v = (Value.bool W0), fun v _ => v = (Value.bool true), fun v _ => v = (Value.bool true), fun v _ => v = (Value.bool true)] (none) (fun _ => none) 22 (by kernel_rfl) (by kernel_rfl) (by kernel_rfl) (by kernel_rfl) (by decide) noRow_one (fun _ => .inl rfl) ⟨fun i v u u' hki h hg => h, fun i v u u' hki h hg => h, fun i v u u' hki h hg => h, fun i v u u' hki h hg => h, fun i v u u' hki h hg => h, fun i v u u' hki h hg => h, fun i v u u' hki h hg => h, fun i v u u' hki h hg => h, fun i v u u' hki h hg => h, fun i v u u' hki h hg => h, fun i v u u' hki h hg => h, fun i v u u' hki h hg => h, fun i v u u' hki h hg => h, fun i v u u' hki h hg => h, fun i v u u' hki h hg => h, fun i v u u' hki h hg => h, fun i v u u' hki h hg => h, fun i v u u' hki h hg => h, fun i v u u' hki h hg => h, fun i v u u' hki h hg => h, fun i v u u' hki h hg => h, fun i v u u' hki h hg => h, trivial⟩ ⟨?_, ?_, ?_, ?_, ?_, ?_, ?_, ?_, ?_, ?_, ?_, ?_, ?_, ?_, ?_, ?_, ?_, ?_, ?_, ?_, ?_, ?_, trivial⟩ ?_
  · intro A u hu hpu hsz hout hdeps
    have e5 : A.eval (.tmp 5) = (.slice (some ⟨gx, 0, none⟩) n cx) := (hout 5 (by kernel_rfl)).trans rfl
    refine ifw_none rfl ?_
    with_reducible refine shown_q (Value.slice (some ⟨gx, 0, none⟩) n cx) ?qq_1q_0 (fun _ _ => ?qr_1q_0)
    case qr_1q_0 => exact (rfl : (Value.slice (some ⟨gx, 0, none⟩) n cx) = (Value.slice (some ⟨gx, 0, none⟩) n cx))
    with_reducible refine quietAt_mv (.tmp 5) (Value.slice (some ⟨gx, 0, none⟩) n cx) ?h0_1q_0 ?h1_1q_0
    case h0_1q_0 => rfl
    case h1_1q_0 => exact e5
  · intro A u hu hpu hsz hout hdeps
    have e10 : A.eval (.tmp 10) = (.slice (some ⟨gx, 0, none⟩) n cx) := by have h := depL hdeps 0 (by kernel_rfl) 10 (by kernel_rfl); exact h
    refine ifw_none rfl ?_
    with_reducible refine shown_q (Value.int .i64 EE) ?qq_1q_1 (fun _ _ => ?qr_1q_1)
    case qr_1q_1 => exact (rfl : (Value.int .i64 EE) = (Value.int .i64 EE))
    with_reducible refine quietAt_call 17 Tryz.f17 ?h0_1q_1 ?h1_1q_1 ?h2_1q_1 #[.tmp 10] #[57] ?h3_1q_1 (Value.int .i64 EE) #[(Value.slice (some ⟨gx, 0, none⟩) n cx)] ?h4_1q_1 ?h5_1q_1
    case h0_1q_1 => exact Tryz.func17
    case h1_1q_1 => kernel_rfl
    case h2_1q_1 => kernel_rfl
    case h3_1q_1 => rfl
    case h4_1q_1 => exact map1 _ _ _ e10
    case h5_1q_1 => exact HC17.out u hu
  · intro A u hu hpu hsz hout hdeps
    have e11 : A.eval (.tmp 11) = (.int .i64 EE) := by have h := depL hdeps 1 (by kernel_rfl) 11 (by kernel_rfl); exact h
    refine ifw_none rfl ?_
    with_reducible refine shown_q (Value.int .i64 EE) ?qq_1q_2 (fun _ _ => ?qr_1q_2)
    case qr_1q_2 => exact (rfl : (Value.int .i64 EE) = (Value.int .i64 EE))
    with_reducible refine quietAt_call 16 Tryz.f16 ?h0_1q_2 ?h1_1q_2 ?h2_1q_2 #[.tmp 11] #[80] ?h3_1q_2 (Value.int .i64 EE) #[(Value.int .i64 EE)] ?h4_1q_2 ?h5_1q_2
    case h0_1q_2 => exact Tryz.func16
    case h1_1q_2 => kernel_rfl
    case h2_1q_2 => kernel_rfl
    case h3_1q_2 => rfl
    case h4_1q_2 => exact map1 _ _ _ e11
    case h5_1q_2 => exact HC16.out u
  · intro A u hu hpu hsz hout hdeps
    have e0 : A.eval (.tmp 0) = (.slice a n c) := (hout 0 (by kernel_rfl)).trans rfl
    refine ifw_none rfl ?_
    with_reducible refine shown_q (Value.slice a n c) ?qq_1q_3 (fun _ _ => ?qr_1q_3)
    case qr_1q_3 => exact (rfl : (Value.slice a n c) = (Value.slice a n c))
    with_reducible refine quietAt_mv (.tmp 0) (Value.slice a n c) ?h0_1q_3 ?h1_1q_3
    case h0_1q_3 => rfl
    case h1_1q_3 => exact e0
  · intro A u hu hpu hsz hout hdeps
    have e13 : A.eval (.tmp 13) = (.slice a n c) := by have h := depL hdeps 3 (by kernel_rfl) 13 (by kernel_rfl); exact h
    refine ifw_none rfl ?_
    with_reducible refine shown_q (Value.int .i64 EE) ?qq_1q_4 (fun _ _ => ?qr_1q_4)
    case qr_1q_4 => exact (rfl : (Value.int .i64 EE) = (Value.int .i64 EE))
    with_reducible refine quietAt_call 18 Tryz.f18 ?h0_1q_4 ?h1_1q_4 ?h2_1q_4 #[.tmp 13] #[57] ?h3_1q_4 (Value.int .i64 EE) #[(Value.slice a n c)] ?h4_1q_4 ?h5_1q_4
    case h0_1q_4 => exact Tryz.func18
    case h1_1q_4 => kernel_rfl
    case h2_1q_4 => kernel_rfl
    case h3_1q_4 => rfl
    case h4_1q_4 => exact map1 _ _ _ e13
    case h5_1q_4 => exact HC18.out u hu
  · intro A u hu hpu hsz hout hdeps
    have e12 : A.eval (.tmp 12) = (.int .i64 EE) := by have h := depL hdeps 2 (by kernel_rfl) 12 (by kernel_rfl); exact h
    have e14 : A.eval (.tmp 14) = (.int .i64 EE) := by have h := depL hdeps 4 (by kernel_rfl) 14 (by kernel_rfl); exact h
    refine ifw_none rfl ?_
    with_reducible refine shown_q (Value.bool true) ?qq_1q_5 (fun _ _ => ?qr_1q_5)
    case qr_1q_5 => exact (rfl : (Value.bool true) = (Value.bool true))
    with_reducible refine quietAt_bin .eql 3 (.tmp 12) (.tmp 14) 3 (Value.int .i64 EE) (Value.int .i64 EE) (Value.bool true) ?h0_1q_5 ?h1_1q_5 ?h2_1q_5 ?h3_1q_5
    case h0_1q_5 => rfl
    case h1_1q_5 => exact e12
    case h2_1q_5 => exact e14
    case h3_1q_5 => exact (eqI EE u)
  · intro A u hu hpu hsz hout hdeps
    have e15 : A.eval (.tmp 15) = (.bool true) := by have h := depL hdeps 5 (by kernel_rfl) 15 (by kernel_rfl); exact h
    refine ifw_none rfl ?_
    with_reducible refine shown_q (Value.bool true) ?qq_1q_6 (fun _ _ => ?qr_1q_6)
    case qr_1q_6 => exact (rfl : (Value.bool true) = (Value.bool true))
    with_reducible refine quietAt_mv (.tmp 15) (Value.bool true) ?h0_1q_6 ?h1_1q_6
    case h0_1q_6 => rfl
    case h1_1q_6 => exact e15
  · intro A u hu hpu hsz hout hdeps
    have e16 : A.eval (.tmp 16) = (.bool true) := by have h := depL hdeps 6 (by kernel_rfl) 16 (by kernel_rfl); exact h
    have e5 : A.eval (.tmp 5) = (.slice (some ⟨gx, 0, none⟩) n cx) := (hout 5 (by kernel_rfl)).trans rfl
    refine ifw_want 6 true 16 rfl rfl e16 ?_
    with_reducible refine shown_q (Value.slice (some ⟨gx, 0, none⟩) n cx) ?qq_1q_7 (fun _ _ => ?qr_1q_7)
    case qr_1q_7 => exact (rfl : (Value.slice (some ⟨gx, 0, none⟩) n cx) = (Value.slice (some ⟨gx, 0, none⟩) n cx))
    with_reducible refine quietAt_mv (.tmp 5) (Value.slice (some ⟨gx, 0, none⟩) n cx) ?h0_1q_7 ?h1_1q_7
    case h0_1q_7 => rfl
    case h1_1q_7 => exact e5
  · intro A u hu hpu hsz hout hdeps
    have e16 : A.eval (.tmp 16) = (.bool true) := by have h := depL hdeps 6 (by kernel_rfl) 16 (by kernel_rfl); exact h
    have e3 : A.eval (.tmp 3) = (.pointer (some ⟨b3, 0, none⟩)) := (hout 3 (by kernel_rfl)).trans rfl
    refine ifw_want 6 true 16 rfl rfl e16 ?_
    with_reducible refine shown_q (Value.pointer (some ⟨b3, 1, none⟩)) ?qq_1q_8 (fun _ _ => ?qr_1q_8)
    case qr_1q_8 => exact (rfl : (Value.pointer (some ⟨b3, 1, none⟩)) = (Value.pointer (some ⟨b3, 1, none⟩)))
    with_reducible refine quietAt_field 71 (.tmp 3) 1 ?h0_1q_8 ⟨b3, 0, none⟩ ⟨b3, 1, none⟩ ?h1_1q_8 ?h2_1q_8
    case h0_1q_8 => rfl
    case h1_1q_8 => exact e3
    case h2_1q_8 => kernel_rfl
  · intro A u hu hpu hsz hout hdeps
    have e16 : A.eval (.tmp 16) = (.bool true) := by have h := depL hdeps 6 (by kernel_rfl) 16 (by kernel_rfl); exact h
    have e18 : A.eval (.tmp 18) = (.pointer (some ⟨b3, 1, none⟩)) := by have h := depL hdeps 8 (by kernel_rfl) 18 (by kernel_rfl); exact h
    refine ifw_want 6 true 16 rfl rfl e16 ?_
    with_reducible refine shown_q (Value.int .u64 (og : Nat)) ?qq_1q_9 (fun _ _ => ?qr_1q_9)
    case qr_1q_9 => exact (rfl : (Value.int .u64 (og : Nat)) = (Value.int .u64 (og : Nat)))
    with_reducible refine quietAt_ld 67 (.tmp 18) (Value.pointer (some ⟨b3, 1, none⟩)) (Value.int .u64 (og : Nat)) ?h0_1q_9 ?h1_1q_9 ?h2_1q_9
    case h0_1q_9 => rfl
    case h1_1q_9 => exact e18
    case h2_1q_9 => exact ld67 b3 1 og u (HBo.out u hu).1
  · intro A u hu hpu hsz hout hdeps
    have e16 : A.eval (.tmp 16) = (.bool true) := by have h := depL hdeps 6 (by kernel_rfl) 16 (by kernel_rfl); exact h
    have e3 : A.eval (.tmp 3) = (.pointer (some ⟨b3, 0, none⟩)) := (hout 3 (by kernel_rfl)).trans rfl
    refine ifw_want 6 true 16 rfl rfl e16 ?_
    with_reducible refine shown_q (Value.pointer (some ⟨b3, 2, none⟩)) ?qq_1q_10 (fun _ _ => ?qr_1q_10)
    case qr_1q_10 => exact (rfl : (Value.pointer (some ⟨b3, 2, none⟩)) = (Value.pointer (some ⟨b3, 2, none⟩)))
    with_reducible refine quietAt_field 71 (.tmp 3) 2 ?h0_1q_10 ⟨b3, 0, none⟩ ⟨b3, 2, none⟩ ?h1_1q_10 ?h2_1q_10
    case h0_1q_10 => rfl
    case h1_1q_10 => exact e3
    case h2_1q_10 => kernel_rfl
  · intro A u hu hpu hsz hout hdeps
    have e16 : A.eval (.tmp 16) = (.bool true) := by have h := depL hdeps 6 (by kernel_rfl) 16 (by kernel_rfl); exact h
    have e20 : A.eval (.tmp 20) = (.pointer (some ⟨b3, 2, none⟩)) := by have h := depL hdeps 10 (by kernel_rfl) 20 (by kernel_rfl); exact h
    refine ifw_want 6 true 16 rfl rfl e16 ?_
    with_reducible refine shown_q (Value.agg OJ.toArray) ?qq_1q_11 (fun _ _ => ?qr_1q_11)
    case qr_1q_11 => exact (rfl : (Value.agg OJ.toArray) = (Value.agg OJ.toArray))
    with_reducible refine quietAt_load 69 (.tmp 20) ?h0_1q_11 b3 2 OJ (.array 16 5) ?h1_1q_11 ?h2_1q_11 ?h3_1q_11 ?h4_1q_11 ?h5_1q_11
    case h0_1q_11 => rfl
    case h1_1q_11 => exact e20
    case h2_1q_11 => exact (HBo.out u hu).2
    case h3_1q_11 => exact Tryz.underlying69
    case h4_1q_11 => rfl
    case h5_1q_11 => exact HOJ.out
  · intro A u hu hpu hsz hout hdeps
    have e16 : A.eval (.tmp 16) = (.bool true) := by have h := depL hdeps 6 (by kernel_rfl) 16 (by kernel_rfl); exact h
    have e17 : A.eval (.tmp 17) = (.slice (some ⟨gx, 0, none⟩) n cx) := by have h := depL hdeps 7 (by kernel_rfl) 17 (by kernel_rfl); exact h
    have e19 : A.eval (.tmp 19) = (.int .u64 (og : Nat)) := by have h := depL hdeps 9 (by kernel_rfl) 19 (by kernel_rfl); exact h
    have e21 : A.eval (.tmp 21) = (.agg OJ.toArray) := by have h := depL hdeps 11 (by kernel_rfl) 21 (by kernel_rfl); exact h
    refine ifw_want 6 true 16 rfl rfl e16 ?_
    with_reducible refine shown_q (Value.bool W0) ?qq_1q_12 (fun _ _ => ?qr_1q_12)
    case qr_1q_12 => exact (rfl : (Value.bool W0) = (Value.bool W0))
    with_reducible refine quietAt_call 19 Tryz.f19 ?h0_1q_12 ?h1_1q_12 ?h2_1q_12 #[.tmp 17, .tmp 19, .tmp 21] #[57, 67, 69] ?h3_1q_12 (Value.bool W0) #[(Value.slice (some ⟨gx, 0, none⟩) n cx), (Value.int .u64 (og : Nat)), (Value.agg OJ.toArray)] ?h4_1q_12 ?h5_1q_12
    case h0_1q_12 => exact Tryz.func19
    case h1_1q_12 => kernel_rfl
    case h2_1q_12 => kernel_rfl
    case h3_1q_12 => rfl
    case h4_1q_12 => exact map3 _ _ _ _ _ _ _ e17 e19 e21
    case h5_1q_12 => exact HC19.out u hu
  · intro A u hu hpu hsz hout hdeps
    have e16 : A.eval (.tmp 16) = (.bool true) := by have h := depL hdeps 6 (by kernel_rfl) 16 (by kernel_rfl); exact h
    have e0 : A.eval (.tmp 0) = (.slice a n c) := (hout 0 (by kernel_rfl)).trans rfl
    refine ifw_want 6 true 16 rfl rfl e16 ?_
    with_reducible refine shown_q (Value.slice a n c) ?qq_1q_13 (fun _ _ => ?qr_1q_13)
    case qr_1q_13 => exact (rfl : (Value.slice a n c) = (Value.slice a n c))
    with_reducible refine quietAt_mv (.tmp 0) (Value.slice a n c) ?h0_1q_13 ?h1_1q_13
    case h0_1q_13 => rfl
    case h1_1q_13 => exact e0
  · intro A u hu hpu hsz hout hdeps
    have e16 : A.eval (.tmp 16) = (.bool true) := by have h := depL hdeps 6 (by kernel_rfl) 16 (by kernel_rfl); exact h
    have e3 : A.eval (.tmp 3) = (.pointer (some ⟨b3, 0, none⟩)) := (hout 3 (by kernel_rfl)).trans rfl
    refine ifw_want 6 true 16 rfl rfl e16 ?_
    with_reducible refine shown_q (Value.pointer (some ⟨b3, 1, none⟩)) ?qq_1q_14 (fun _ _ => ?qr_1q_14)
    case qr_1q_14 => exact (rfl : (Value.pointer (some ⟨b3, 1, none⟩)) = (Value.pointer (some ⟨b3, 1, none⟩)))
    with_reducible refine quietAt_field 71 (.tmp 3) 1 ?h0_1q_14 ⟨b3, 0, none⟩ ⟨b3, 1, none⟩ ?h1_1q_14 ?h2_1q_14
    case h0_1q_14 => rfl
    case h1_1q_14 => exact e3
    case h2_1q_14 => kernel_rfl
  · intro A u hu hpu hsz hout hdeps
    have e16 : A.eval (.tmp 16) = (.bool true) := by have h := depL hdeps 6 (by kernel_rfl) 16 (by kernel_rfl); exact h
    have e24 : A.eval (.tmp 24) = (.pointer (some ⟨b3, 1, none⟩)) := by have h := depL hdeps 14 (by kernel_rfl) 24 (by kernel_rfl); exact h
    refine ifw_want 6 true 16 rfl rfl e16 ?_
    with_reducible refine shown_q (Value.int .u64 (og : Nat)) ?qq_1q_15 (fun _ _ => ?qr_1q_15)
    case qr_1q_15 => exact (rfl : (Value.int .u64 (og : Nat)) = (Value.int .u64 (og : Nat)))
    with_reducible refine quietAt_ld 67 (.tmp 24) (Value.pointer (some ⟨b3, 1, none⟩)) (Value.int .u64 (og : Nat)) ?h0_1q_15 ?h1_1q_15 ?h2_1q_15
    case h0_1q_15 => rfl
    case h1_1q_15 => exact e24
    case h2_1q_15 => exact ld67 b3 1 og u (HBo.out u hu).1
  · intro A u hu hpu hsz hout hdeps
    have e16 : A.eval (.tmp 16) = (.bool true) := by have h := depL hdeps 6 (by kernel_rfl) 16 (by kernel_rfl); exact h
    have e3 : A.eval (.tmp 3) = (.pointer (some ⟨b3, 0, none⟩)) := (hout 3 (by kernel_rfl)).trans rfl
    refine ifw_want 6 true 16 rfl rfl e16 ?_
    with_reducible refine shown_q (Value.pointer (some ⟨b3, 2, none⟩)) ?qq_1q_16 (fun _ _ => ?qr_1q_16)
    case qr_1q_16 => exact (rfl : (Value.pointer (some ⟨b3, 2, none⟩)) = (Value.pointer (some ⟨b3, 2, none⟩)))
    with_reducible refine quietAt_field 71 (.tmp 3) 2 ?h0_1q_16 ⟨b3, 0, none⟩ ⟨b3, 2, none⟩ ?h1_1q_16 ?h2_1q_16
    case h0_1q_16 => rfl
    case h1_1q_16 => exact e3
    case h2_1q_16 => kernel_rfl
  · intro A u hu hpu hsz hout hdeps
    have e16 : A.eval (.tmp 16) = (.bool true) := by have h := depL hdeps 6 (by kernel_rfl) 16 (by kernel_rfl); exact h
    have e26 : A.eval (.tmp 26) = (.pointer (some ⟨b3, 2, none⟩)) := by have h := depL hdeps 16 (by kernel_rfl) 26 (by kernel_rfl); exact h
    refine ifw_want 6 true 16 rfl rfl e16 ?_
    with_reducible refine shown_q (Value.agg OJ.toArray) ?qq_1q_17 (fun _ _ => ?qr_1q_17)
    case qr_1q_17 => exact (rfl : (Value.agg OJ.toArray) = (Value.agg OJ.toArray))
    with_reducible refine quietAt_load 69 (.tmp 26) ?h0_1q_17 b3 2 OJ (.array 16 5) ?h1_1q_17 ?h2_1q_17 ?h3_1q_17 ?h4_1q_17 ?h5_1q_17
    case h0_1q_17 => rfl
    case h1_1q_17 => exact e26
    case h2_1q_17 => exact (HBo.out u hu).2
    case h3_1q_17 => exact Tryz.underlying69
    case h4_1q_17 => rfl
    case h5_1q_17 => exact HOJ.out
  · intro A u hu hpu hsz hout hdeps
    have e16 : A.eval (.tmp 16) = (.bool true) := by have h := depL hdeps 6 (by kernel_rfl) 16 (by kernel_rfl); exact h
    have e23 : A.eval (.tmp 23) = (.slice a n c) := by have h := depL hdeps 13 (by kernel_rfl) 23 (by kernel_rfl); exact h
    have e25 : A.eval (.tmp 25) = (.int .u64 (og : Nat)) := by have h := depL hdeps 15 (by kernel_rfl) 25 (by kernel_rfl); exact h
    have e27 : A.eval (.tmp 27) = (.agg OJ.toArray) := by have h := depL hdeps 17 (by kernel_rfl) 27 (by kernel_rfl); exact h
    refine ifw_want 6 true 16 rfl rfl e16 ?_
    with_reducible refine shown_q (Value.bool W0) ?qq_1q_18 (fun _ _ => ?qr_1q_18)
    case qr_1q_18 => exact (rfl : (Value.bool W0) = (Value.bool W0))
    with_reducible refine quietAt_call 20 Tryz.f20 ?h0_1q_18 ?h1_1q_18 ?h2_1q_18 #[.tmp 23, .tmp 25, .tmp 27] #[57, 67, 69] ?h3_1q_18 (Value.bool W0) #[(Value.slice a n c), (Value.int .u64 (og : Nat)), (Value.agg OJ.toArray)] ?h4_1q_18 ?h5_1q_18
    case h0_1q_18 => exact Tryz.func20
    case h1_1q_18 => kernel_rfl
    case h2_1q_18 => kernel_rfl
    case h3_1q_18 => rfl
    case h4_1q_18 => exact map3 _ _ _ _ _ _ _ e23 e25 e27
    case h5_1q_18 => exact HC20.out u hu
  · intro A u hu hpu hsz hout hdeps
    have e16 : A.eval (.tmp 16) = (.bool true) := by have h := depL hdeps 6 (by kernel_rfl) 16 (by kernel_rfl); exact h
    have e22 : A.eval (.tmp 22) = (.bool W0) := by have h := depL hdeps 12 (by kernel_rfl) 22 (by kernel_rfl); exact h
    have e28 : A.eval (.tmp 28) = (.bool W0) := by have h := depL hdeps 18 (by kernel_rfl) 28 (by kernel_rfl); exact h
    refine ifw_want 6 true 16 rfl rfl e16 ?_
    with_reducible refine shown_q (Value.bool true) ?qq_1q_19 (fun _ _ => ?qr_1q_19)
    case qr_1q_19 => exact (rfl : (Value.bool true) = (Value.bool true))
    with_reducible refine quietAt_bin .eql 4 (.tmp 22) (.tmp 28) 4 (Value.bool W0) (Value.bool W0) (Value.bool true) ?h0_1q_19 ?h1_1q_19 ?h2_1q_19 ?h3_1q_19
    case h0_1q_19 => rfl
    case h1_1q_19 => exact e22
    case h2_1q_19 => exact e28
    case h3_1q_19 => exact (eqB W0 u)
  · intro A u hu hpu hsz hout hdeps
    have e16 : A.eval (.tmp 16) = (.bool true) := by have h := depL hdeps 6 (by kernel_rfl) 16 (by kernel_rfl); exact h
    have e29 : A.eval (.tmp 29) = (.bool true) := by have h := depL hdeps 19 (by kernel_rfl) 29 (by kernel_rfl); exact h
    refine ifw_none rfl ?_
    with_reducible refine shown_q (Value.bool true) ?qq_1q_20 (fun _ _ => ?qr_1q_20)
    case qr_1q_20 => exact (rfl : (Value.bool true) = (Value.bool true))
    with_reducible refine quietAt_pick (.tmp 16) (.tmp 29) (.const (.bool false)) true (Value.bool true) ?h0_1q_20 ?h1_1q_20 ?h2_1q_20
    case h0_1q_20 => rfl
    case h1_1q_20 => exact e16
    case h2_1q_20 => rw [if_pos rfl]; exact e29
  · intro A u hu hpu hsz hout hdeps
    have e30 : A.eval (.tmp 30) = (.bool true) := by have h := depL hdeps 20 (by kernel_rfl) 30 (by kernel_rfl); exact h
    refine ifw_none rfl ?_
    with_reducible refine shown_q (Value.bool true) ?qq_1q_21 (fun _ _ => ?qr_1q_21)
    case qr_1q_21 => exact (rfl : (Value.bool true) = (Value.bool true))
    with_reducible refine quietAt_as (.tmp 30) (Value.bool true) ?h0_1q_21 ?h1_1q_21
    case h0_1q_21 => rfl
    case h1_1q_21 => exact e30
  · intro A u8 listed hh hall
    have hA := hh.frame
    have HU := hid hh.grown
    obtain ⟨x10, hx10⟩ : ∃ x, A.eval (.tmp 10) = x := ⟨_, rfl⟩
    have f10 : (fun v _ => v = (Value.slice (some ⟨gx, 0, none⟩) n cx)) x10 u8 := by rw [← hx10]; exact hh.got 0 _ 10 rfl rfl (hall 0 (by decide))
    obtain ⟨x11, hx11⟩ : ∃ x, A.eval (.tmp 11) = x := ⟨_, rfl⟩
    have f11 : (fun v _ => v = (Value.int .i64 EE)) x11 u8 := by rw [← hx11]; exact hh.got 1 _ 11 rfl rfl (hall 1 (by decide))
    obtain ⟨x12, hx12⟩ : ∃ x, A.eval (.tmp 12) = x := ⟨_, rfl⟩
    have f12 : (fun v _ => v = (Value.int .i64 EE)) x12 u8 := by rw [← hx12]; exact hh.got 2 _ 12 rfl rfl (hall 2 (by decide))
    obtain ⟨x13, hx13⟩ : ∃ x, A.eval (.tmp 13) = x := ⟨_, rfl⟩
    have f13 : (fun v _ => v = (Value.slice a n c)) x13 u8 := by rw [← hx13]; exact hh.got 3 _ 13 rfl rfl (hall 3 (by decide))
    obtain ⟨x14, hx14⟩ : ∃ x, A.eval (.tmp 14) = x := ⟨_, rfl⟩
    have f14 : (fun v _ => v = (Value.int .i64 EE)) x14 u8 := by rw [← hx14]; exact hh.got 4 _ 14 rfl rfl (hall 4 (by decide))
    obtain ⟨x15, hx15⟩ : ∃ x, A.eval (.tmp 15) = x := ⟨_, rfl⟩
    have f15 : (fun v _ => v = (Value.bool true)) x15 u8 := by rw [← hx15]; exact hh.got 5 _ 15 rfl rfl (hall 5 (by decide))
    obtain ⟨x16, hx16⟩ : ∃ x, A.eval (.tmp 16) = x := ⟨_, rfl⟩
    have f16 : (fun v _ => v = (Value.bool true)) x16 u8 := by rw [← hx16]; exact hh.got 6 _ 16 rfl rfl (hall 6 (by decide))
    obtain ⟨x17, hx17⟩ : ∃ x, A.eval (.tmp 17) = x := ⟨_, rfl⟩
    have f17 : (fun v _ => v = (Value.slice (some ⟨gx, 0, none⟩) n cx)) x17 u8 := by rw [← hx17]; exact hh.got 7 _ 17 rfl rfl (hall 7 (by decide))
    obtain ⟨x18, hx18⟩ : ∃ x, A.eval (.tmp 18) = x := ⟨_, rfl⟩
    have f18 : (fun v _ => v = (Value.pointer (some ⟨b3, 1, none⟩))) x18 u8 := by rw [← hx18]; exact hh.got 8 _ 18 rfl rfl (hall 8 (by decide))
    obtain ⟨x19, hx19⟩ : ∃ x, A.eval (.tmp 19) = x := ⟨_, rfl⟩
    have f19 : (fun v _ => v = (Value.int .u64 (og : Nat))) x19 u8 := by rw [← hx19]; exact hh.got 9 _ 19 rfl rfl (hall 9 (by decide))
    obtain ⟨x20, hx20⟩ : ∃ x, A.eval (.tmp 20) = x := ⟨_, rfl⟩
    have f20 : (fun v _ => v = (Value.pointer (some ⟨b3, 2, none⟩))) x20 u8 := by rw [← hx20]; exact hh.got 10 _ 20 rfl rfl (hall 10 (by decide))
    obtain ⟨x21, hx21⟩ : ∃ x, A.eval (.tmp 21) = x := ⟨_, rfl⟩
    have f21 : (fun v _ => v = (Value.agg OJ.toArray)) x21 u8 := by rw [← hx21]; exact hh.got 11 _ 21 rfl rfl (hall 11 (by decide))
    obtain ⟨x22, hx22⟩ : ∃ x, A.eval (.tmp 22) = x := ⟨_, rfl⟩
    have f22 : (fun v _ => v = (Value.bool W0)) x22 u8 := by rw [← hx22]; exact hh.got 12 _ 22 rfl rfl (hall 12 (by decide))
    obtain ⟨x23, hx23⟩ : ∃ x, A.eval (.tmp 23) = x := ⟨_, rfl⟩
    have f23 : (fun v _ => v = (Value.slice a n c)) x23 u8 := by rw [← hx23]; exact hh.got 13 _ 23 rfl rfl (hall 13 (by decide))
    obtain ⟨x24, hx24⟩ : ∃ x, A.eval (.tmp 24) = x := ⟨_, rfl⟩
    have f24 : (fun v _ => v = (Value.pointer (some ⟨b3, 1, none⟩))) x24 u8 := by rw [← hx24]; exact hh.got 14 _ 24 rfl rfl (hall 14 (by decide))
    obtain ⟨x25, hx25⟩ : ∃ x, A.eval (.tmp 25) = x := ⟨_, rfl⟩
    have f25 : (fun v _ => v = (Value.int .u64 (og : Nat))) x25 u8 := by rw [← hx25]; exact hh.got 15 _ 25 rfl rfl (hall 15 (by decide))
    obtain ⟨x26, hx26⟩ : ∃ x, A.eval (.tmp 26) = x := ⟨_, rfl⟩
    have f26 : (fun v _ => v = (Value.pointer (some ⟨b3, 2, none⟩))) x26 u8 := by rw [← hx26]; exact hh.got 16 _ 26 rfl rfl (hall 16 (by decide))
    obtain ⟨x27, hx27⟩ : ∃ x, A.eval (.tmp 27) = x := ⟨_, rfl⟩
    have f27 : (fun v _ => v = (Value.agg OJ.toArray)) x27 u8 := by rw [← hx27]; exact hh.got 17 _ 27 rfl rfl (hall 17 (by decide))
    obtain ⟨x28, hx28⟩ : ∃ x, A.eval (.tmp 28) = x := ⟨_, rfl⟩
    have f28 : (fun v _ => v = (Value.bool W0)) x28 u8 := by rw [← hx28]; exact hh.got 18 _ 28 rfl rfl (hall 18 (by decide))
    obtain ⟨x29, hx29⟩ : ∃ x, A.eval (.tmp 29) = x := ⟨_, rfl⟩
    have f29 : (fun v _ => v = (Value.bool true)) x29 u8 := by rw [← hx29]; exact hh.got 19 _ 29 rfl rfl (hall 19 (by decide))
    obtain ⟨x30, hx30⟩ : ∃ x, A.eval (.tmp 30) = x := ⟨_, rfl⟩
    have f30 : (fun v _ => v = (Value.bool true)) x30 u8 := by rw [← hx30]; exact hh.got 20 _ 30 rfl rfl (hall 20 (by decide))
    obtain ⟨x6, hx6⟩ : ∃ x, A.eval (.tmp 6) = x := ⟨_, rfl⟩
    have f6 : (fun v _ => v = (Value.bool true)) x6 u8 := by rw [← hx6]; exact hh.got 21 _ 6 rfl rfl (hall 21 (by decide))
    dsimp only [wrote, List.foldl] at hA
    rw [hx10, hx11, hx12, hx13, hx14, hx15, hx16, hx17, hx18, hx19, hx20, hx21, hx22, hx23, hx24, hx25, hx26, hx27, hx28, hx29, hx30, hx6] at hA
    clear hh hall hx10 hx11 hx12 hx13 hx14 hx15 hx16 hx17 hx18 hx19 hx20 hx21 hx22 hx23 hx24 hx25 hx26 hx27 hx28 hx29 hx30 hx6
    replace f10 := (f10 : x10 = (.slice (some ⟨gx, 0, none⟩) n cx))
    subst f10
    replace f11 := (f11 : x11 = (.int .i64 EE))
    subst f11
    replace f12 := (f12 : x12 = (.int .i64 EE))
    subst f12
    replace f13 := (f13 : x13 = (.slice a n c))
    subst f13
    replace f14 := (f14 : x14 = (.int .i64 EE))
    subst f14
    replace f15 := (f15 : x15 = (.bool true))
    subst f15
    replace f16 := (f16 : x16 = (.bool true))
    subst f16
    replace f17 := (f17 : x17 = (.slice (some ⟨gx, 0, none⟩) n cx))
    subst f17
    replace f18 := (f18 : x18 = (.pointer (some ⟨b3, 1, none⟩)))
    subst f18
    replace f19 := (f19 : x19 = (.int .u64 (og : Nat)))
    subst f19
    replace f20 := (f20 : x20 = (.pointer (some ⟨b3, 2, none⟩)))
    subst f20
    replace f21 := (f21 : x21 = (.agg OJ.toArray))
    subst f21
    replace f22 := (f22 : x22 = (.bool W0))
    subst f22
    replace f23 := (f23 : x23 = (.slice a n c))
    subst f23
    replace f24 := (f24 : x24 = (.pointer (some ⟨b3, 1, none⟩)))
    subst f24
    replace f25 := (f25 : x25 = (.int .u64 (og : Nat)))
    subst f25
    replace f26 := (f26 : x26 = (.pointer (some ⟨b3, 2, none⟩)))
    subst f26
    replace f27 := (f27 : x27 = (.agg OJ.toArray))
    subst f27
    replace f28 := (f28 : x28 = (.bool W0))
    subst f28
    replace f29 := (f29 : x29 = (.bool true))
    subst f29
    replace f30 := (f30 : x30 = (.bool true))
    subst f30
    replace f6 := (f6 : x6 = (.bool true))
    subst f6
    subst hA
    show wpList _ _ _ [] _ _
    unfold wpList
    simp only [Act.put, List.setIfInBounds_toArray, List.set_cons_succ, List.set_cons_zero]
    have HUz := hid HU.out
    clear HU
    go_wp2_with fail
    go_loopw [6, 7] (fun bv iv wr => ∃ i : Nat, bv = .bool true ∧ iv = .int .i64 i ∧ i ≤ n ∧ Hid (w2.grownBy wr none)) (fun _ iv _ => n - (intOf iv).toNat)
    case atStart => exact ⟨0, rfl, rfl, Nat.zero_le _, HUz⟩
    case round =>
      clear HUz
      obtain ⟨i, rfl, rfl, hi, HG⟩ := hrel
      by_cases hlt : i < n ∧ i < 20
      · have hil : i < l.length := by rw [HN.out]; exact hlt.1
        have hlt' : (i : Int) < (n : Int) := by omega
        have hlt20 : (i : Int) < 20 := by omega
        obtain rfl : a = some ⟨b, off, none⟩ := HA.out (by omega)
        have hko := HO.out _ (List.getElem_mem hil)
        have HQc : Hid (∀ u, w2.grownBy u none → u.cell? ⟨b, off + i * 19 + 1, none⟩ = some (.int .u64 l[i].g) ∧ u.rangeAt b (off + i * 19 + 2) (Lib.byteCells l[i].id)) := hid (fun u hu => by
          have h := (Hc.out u (gtrans HG02.out hu) i hil).1
          exact ⟨h 1 _ (Ky.c1 _), range_sub (A := [.bool l[i].wh, .int .u64 l[i].g]) (C := [.int .i64 l[i].ex]) h⟩)
        have HJL := hid (size69' hko.2.1)
        have HD19 : Hid (∀ u, w2.grownBy u none → Calls Tryz.prog 19 #[.slice (some ⟨gx, 0, none⟩) n cx, .int .u64 l[i].g, .agg (Lib.byteCells l[i].id).toArray] u fun e w' => e = .returned (.bool (hasL l l[i].g l[i].id)) ∧ u.grownBy w' none) := hid (fun u hu => HP19.out u hu l[i].g l[i].id hko.2.1)
        have HD20 : Hid (∀ u, w2.grownBy u none → Calls Tryz.prog 20 #[.slice (some ⟨b, off, none⟩) n c, .int .u64 l[i].g, .agg (Lib.byteCells l[i].id).toArray] u fun e w' => e = .returned (.bool (hasL l l[i].g l[i].id)) ∧ u.grownBy w' none) := hid (fun u hu => HP20.out u hu l[i].g l[i].id hko.2.1)
        have HF19 : Hid (∀ u, w2.grownBy u none → Calls Tryz.prog 19 #[.slice (some ⟨gx, 0, none⟩) n cx, .int .u64 l[i].g, .agg OJ.toArray] u fun e w' => e = .returned (.bool (hasL l l[i].g o.id)) ∧ u.grownBy w' none) := hid (fun u hu => by have := HP19.out u hu l[i].g o.id HOi.out; rw [HOJe.out] at this; exact this)
        have HF20 : Hid (∀ u, w2.grownBy u none → Calls Tryz.prog 20 #[.slice (some ⟨b, off, none⟩) n c, .int .u64 l[i].g, .agg OJ.toArray] u fun e w' => e = .returned (.bool (hasL l l[i].g o.id)) ∧ u.grownBy w' none) := hid (fun u hu => by have := HP20.out u hu l[i].g o.id HOi.out; rw [HOJe.out] at this; exact this)
        obtain ⟨W1, hW1⟩ : ∃ x, hasL l l[i].g l[i].id = x := ⟨_, rfl⟩
        obtain ⟨W2, hW2⟩ : ∃ x, hasL l l[i].g o.id = x := ⟨_, rfl⟩
        rw [hW1] at HD19 HD20
        rw [hW2] at HF19 HF20
        obtain ⟨q, hq⟩ : ∃ q, l[i] = q := ⟨_, rfl⟩
        rw [hq] at HQc HJL HD19 HD20 HF19 HF20
        obtain ⟨qg, hqg⟩ : ∃ x, q.g = x := ⟨_, rfl⟩
        rw [hqg] at HQc HD19 HD20 HF19 HF20
        obtain ⟨J, HJ⟩ : ∃ x, Hid (Lib.byteCells q.id = x) := ⟨_, hid rfl⟩
        rw [HJ.out] at HQc HJL HD19 HD20
        have HIn := hid hlt.1
        clear hko hq hW1 hW2 hqg HJ hil hlt hi HP19 HP20 HC17 HC18 HC19 HC20 HA Hc HO
        go_upto_region 6 with fail
        refine wp_region_held_drew (S := fun v => w2.grownBy v none) (by kernel_rfl) (gtrans HG.out (gdrew _ _ _)) (fun hHeld => ?_)
        refine wpAnyH_take (i := 0) (oi := { dst := some 41, op := Op.move (Operand.tmp 6), type := 4, pos := "law.go:48", after := #[], guard := none }) (v := (.bool true)) rfl (by kernel_rfl) (by kernel_rfl) (by kernel_rfl) (fun _ _ _ h => h) (yieldsIf_mv rfl (.tmp 6) rfl _ rfl) (by assumption) ?_
        (try simp only [Act.put, List.setIfInBounds_toArray, List.set_cons_zero, List.set_cons_succ])
        refine wpAnyH_take (i := 1) (oi := { dst := some 42, op := Op.move (Operand.tmp 41), type := 4, pos := "law.go:48", after := #[{ on := 0, ground := Ground.data }], guard := none }) (v := (.bool true)) rfl (by kernel_rfl) (by kernel_rfl) (by kernel_rfl) (fun _ _ _ h => h) (yieldsIf_mv rfl (.tmp 41) rfl _ rfl) (by assumption) ?_
        (try simp only [Act.put, List.setIfInBounds_toArray, List.set_cons_zero, List.set_cons_succ])
        refine wpAnyH_take (i := 2) (oi := { dst := some 43, op := Op.move (Operand.tmp 5), type := 57, pos := "law.go:48", after := #[{ on := 1, ground := Ground.guard }], guard := some (1, true) }) (v := (.slice (some ⟨gx, 0, none⟩) n cx)) rfl (by kernel_rfl) (by kernel_rfl) (by kernel_rfl) (fun _ _ _ h => h) (yieldsIf_mv rfl (.tmp 5) rfl _ rfl) (by assumption) ?_
        (try simp only [Act.put, List.setIfInBounds_toArray, List.set_cons_zero, List.set_cons_succ])
        refine wpAnyH_take (i := 3) (oi := { dst := some 44, op := Op.move (Operand.tmp 0), type := 57, pos := "law.go:48", after := #[{ on := 1, ground := Ground.guard }], guard := some (1, true) }) (v := (.slice (some ⟨b, off, none⟩) n c)) rfl (by kernel_rfl) (by kernel_rfl) (by kernel_rfl) (fun _ _ _ h => h) (yieldsIf_mv rfl (.tmp 0) rfl _ rfl) (by assumption) ?_
        (try simp only [Act.put, List.setIfInBounds_toArray, List.set_cons_zero, List.set_cons_succ])
        refine wpAnyH_take (i := 4) (oi := { dst := some 45, op := Op.move (Operand.tmp 7), type := 3, pos := "law.go:48", after := #[{ on := 1, ground := Ground.guard }], guard := some (1, true) }) (v := (.int .i64 (i : Nat))) rfl (by kernel_rfl) (by kernel_rfl) (by kernel_rfl) (fun _ _ _ h => h) (yieldsIf_mv rfl (.tmp 7) rfl _ rfl) (by assumption) ?_
        (try simp only [Act.put, List.setIfInBounds_toArray, List.set_cons_zero, List.set_cons_succ])
        refine wpAnyH_take (i := 5) (oi := { dst := some 46, op := Op.indexAddr 57 (Operand.tmp 44) (Operand.tmp 45), type := 0, pos := "law.go:48", after := #[{ on := 3, ground := Ground.data }, { on := 4, ground := Ground.data }, { on := 1, ground := Ground.guard }], guard := some (1, true) }) (v := (.pointer (some ⟨b, off + i * 19, none⟩))) rfl (by kernel_rfl) (by kernel_rfl) (by kernel_rfl) (fun _ _ _ h => h) (yieldsIf_idx rfl 57 (.tmp 44) (.tmp 45) rfl _ _ _ rfl rfl (idx23 b off n c i HIn.out)) (by assumption) ?_
        (try simp only [Act.put, List.setIfInBounds_toArray, List.set_cons_zero, List.set_cons_succ])
        refine wpAnyH_take (i := 6) (oi := { dst := some 47, op := Op.fieldAddr 85 (Operand.tmp 46) 1, type := 0, pos := "law.go:48", after := #[{ on := 5, ground := Ground.data }, { on := 1, ground := Ground.guard }], guard := some (1, true) }) (v := (.pointer (some ⟨b, off + i * 19 + 1, none⟩))) rfl (by kernel_rfl) (by kernel_rfl) (by kernel_rfl) (fun _ _ _ h => h) (Or.inl ⟨by rfl, by intro u hSu; go_simp⟩) (by assumption) ?_
        (try simp only [Act.put, List.setIfInBounds_toArray, List.set_cons_zero, List.set_cons_succ])
        refine wpAnyH_take (i := 7) (oi := { dst := some 48, op := Op.load 67 (Operand.tmp 47), type := 67, pos := "law.go:48", after := #[{ on := 6, ground := Ground.data }, { on := 1, ground := Ground.guard }], guard := some (1, true) }) (v := (.int .u64 (qg : Nat))) rfl (by kernel_rfl) (by kernel_rfl) (by kernel_rfl) (fun _ _ _ h => h) (yieldsIf_ld rfl 67 (.tmp 47) rfl _ _ rfl (fun u hu => ld67 b (off + i * 19 + 1) qg u (HQc.out u hu).1)) (by assumption) ?_
        (try simp only [Act.put, List.setIfInBounds_toArray, List.set_cons_zero, List.set_cons_succ])
        refine wpAnyH_take (i := 8) (oi := { dst := some 49, op := Op.move (Operand.tmp 0), type := 57, pos := "law.go:48", after := #[{ on := 1, ground := Ground.guard }], guard := some (1, true) }) (v := (.slice (some ⟨b, off, none⟩) n c)) rfl (by kernel_rfl) (by kernel_rfl) (by kernel_rfl) (fun _ _ _ h => h) (yieldsIf_mv rfl (.tmp 0) rfl _ rfl) (by assumption) ?_
        (try simp only [Act.put, List.setIfInBounds_toArray, List.set_cons_zero, List.set_cons_succ])
        refine wpAnyH_take (i := 9) (oi := { dst := some 50, op := Op.move (Operand.tmp 7), type := 3, pos := "law.go:48", after := #[{ on := 1, ground := Ground.guard }], guard := some (1, true) }) (v := (.int .i64 (i : Nat))) rfl (by kernel_rfl) (by kernel_rfl) (by kernel_rfl) (fun _ _ _ h => h) (yieldsIf_mv rfl (.tmp 7) rfl _ rfl) (by assumption) ?_
        (try simp only [Act.put, List.setIfInBounds_toArray, List.set_cons_zero, List.set_cons_succ])
        refine wpAnyH_take (i := 10) (oi := { dst := some 51, op := Op.indexAddr 57 (Operand.tmp 49) (Operand.tmp 50), type := 0, pos := "law.go:48", after := #[{ on := 8, ground := Ground.data }, { on := 9, ground := Ground.data }, { on := 1, ground := Ground.guard }], guard := some (1, true) }) (v := (.pointer (some ⟨b, off + i * 19, none⟩))) rfl (by kernel_rfl) (by kernel_rfl) (by kernel_rfl) (fun _ _ _ h => h) (yieldsIf_idx rfl 57 (.tmp 49) (.tmp 50) rfl _ _ _ rfl rfl (idx23 b off n c i HIn.out)) (by assumption) ?_
        (try simp only [Act.put, List.setIfInBounds_toArray, List.set_cons_zero, List.set_cons_succ])
        refine wpAnyH_take (i := 11) (oi := { dst := some 52, op := Op.fieldAddr 85 (Operand.tmp 51) 2, type := 0, pos := "law.go:48", after := #[{ on := 10, ground := Ground.data }, { on := 1, ground := Ground.guard }], guard := some (1, true) }) (v := (.pointer (some ⟨b, off + i * 19 + 2, none⟩))) rfl (by kernel_rfl) (by kernel_rfl) (by kernel_rfl) (fun _ _ _ h => h) (Or.inl ⟨by rfl, by intro u hSu; go_simp⟩) (by assumption) ?_
        (try simp only [Act.put, List.setIfInBounds_toArray, List.set_cons_zero, List.set_cons_succ])
        refine wpAnyH_take (i := 12) (oi := { dst := some 53, op := Op.load 69 (Operand.tmp 52), type := 69, pos := "law.go:48", after := #[{ on := 11, ground := Ground.data }, { on := 1, ground := Ground.guard }], guard := some (1, true) }) (v := (.agg J.toArray)) rfl (by kernel_rfl) (by kernel_rfl) (by kernel_rfl) (fun _ _ _ h => h) (yieldsIf_load_mid rfl 69 (.tmp 52) rfl b (off + i * 19 + 2) rfl J (.array 16 5) (fun u hu => (HQc.out u hu).2) Tryz.underlying69 rfl HJL.out) (by assumption) ?_
        (try simp only [Act.put, List.setIfInBounds_toArray, List.set_cons_zero, List.set_cons_succ])
        refine wpAnyH_take (i := 14) (oi := { dst := some 55, op := Op.move (Operand.tmp 0), type := 57, pos := "law.go:48", after := #[{ on := 1, ground := Ground.guard }], guard := some (1, true) }) (v := (.slice (some ⟨b, off, none⟩) n c)) rfl (by kernel_rfl) (by kernel_rfl) (by kernel_rfl) (fun _ _ _ h => h) (yieldsIf_mv rfl (.tmp 0) rfl _ rfl) (by assumption) ?_
        (try simp only [Act.put, List.setIfInBounds_toArray, List.set_cons_zero, List.set_cons_succ])
        refine wpAnyH_take (i := 15) (oi := { dst := some 56, op := Op.move (Operand.tmp 0), type := 57, pos := "law.go:48", after := #[{ on := 1, ground := Ground.guard }], guard := some (1, true) }) (v := (.slice (some ⟨b, off, none⟩) n c)) rfl (by kernel_rfl) (by kernel_rfl) (by kernel_rfl) (fun _ _ _ h => h) (yieldsIf_mv rfl (.tmp 0) rfl _ rfl) (by assumption) ?_
        (try simp only [Act.put, List.setIfInBounds_toArray, List.set_cons_zero, List.set_cons_succ])
        refine wpAnyH_take (i := 16) (oi := { dst := some 57, op := Op.move (Operand.tmp 7), type := 3, pos := "law.go:48", after := #[{ on := 1, ground := Ground.guard }], guard := some (1, true) }) (v := (.int .i64 (i : Nat))) rfl (by kernel_rfl) (by kernel_rfl) (by kernel_rfl) (fun _ _ _ h => h) (yieldsIf_mv rfl (.tmp 7) rfl _ rfl) (by assumption) ?_
        (try simp only [Act.put, List.setIfInBounds_toArray, List.set_cons_zero, List.set_cons_succ])
        refine wpAnyH_take (i := 17) (oi := { dst := some 58, op := Op.indexAddr 57 (Operand.tmp 56) (Operand.tmp 57), type := 0, pos := "law.go:48", after := #[{ on := 15, ground := Ground.data }, { on := 16, ground := Ground.data }, { on := 1, ground := Ground.guard }], guard := some (1, true) }) (v := (.pointer (some ⟨b, off + i * 19, none⟩))) rfl (by kernel_rfl) (by kernel_rfl) (by kernel_rfl) (fun _ _ _ h => h) (yieldsIf_idx rfl 57 (.tmp 56) (.tmp 57) rfl _ _ _ rfl rfl (idx23 b off n c i HIn.out)) (by assumption) ?_
        (try simp only [Act.put, List.setIfInBounds_toArray, List.set_cons_zero, List.set_cons_succ])
        refine wpAnyH_take (i := 18) (oi := { dst := some 59, op := Op.fieldAddr 85 (Operand.tmp 58) 1, type := 0, pos := "law.go:48", after := #[{ on := 17, ground := Ground.data }, { on := 1, ground := Ground.guard }], guard := some (1, true) }) (v := (.pointer (some ⟨b, off + i * 19 + 1, none⟩))) rfl (by kernel_rfl) (by kernel_rfl) (by kernel_rfl) (fun _ _ _ h => h) (Or.inl ⟨by rfl, by intro u hSu; go_simp⟩) (by assumption) ?_
        (try simp only [Act.put, List.setIfInBounds_toArray, List.set_cons_zero, List.set_cons_succ])
        refine wpAnyH_take (i := 19) (oi := { dst := some 60, op := Op.load 67 (Operand.tmp 59), type := 67, pos := "law.go:48", after := #[{ on := 18, ground := Ground.data }, { on := 1, ground := Ground.guard }], guard := some (1, true) }) (v := (.int .u64 (qg : Nat))) rfl (by kernel_rfl) (by kernel_rfl) (by kernel_rfl) (fun _ _ _ h => h) (yieldsIf_ld rfl 67 (.tmp 59) rfl _ _ rfl (fun u hu => ld67 b (off + i * 19 + 1) qg u (HQc.out u hu).1)) (by assumption) ?_
        (try simp only [Act.put, List.setIfInBounds_toArray, List.set_cons_zero, List.set_cons_succ])
        refine wpAnyH_take (i := 20) (oi := { dst := some 61, op := Op.move (Operand.tmp 0), type := 57, pos := "law.go:48", after := #[{ on := 1, ground := Ground.guard }], guard := some (1, true) }) (v := (.slice (some ⟨b, off, none⟩) n c)) rfl (by kernel_rfl) (by kernel_rfl) (by kernel_rfl) (fun _ _ _ h => h) (yieldsIf_mv rfl (.tmp 0) rfl _ rfl) (by assumption) ?_
        (try simp only [Act.put, List.setIfInBounds_toArray, List.set_cons_zero, List.set_cons_succ])
        refine wpAnyH_take (i := 21) (oi := { dst := some 62, op := Op.move (Operand.tmp 7), type := 3, pos := "law.go:48", after := #[{ on := 1, ground := Ground.guard }], guard := some (1, true) }) (v := (.int .i64 (i : Nat))) rfl (by kernel_rfl) (by kernel_rfl) (by kernel_rfl) (fun _ _ _ h => h) (yieldsIf_mv rfl (.tmp 7) rfl _ rfl) (by assumption) ?_
        (try simp only [Act.put, List.setIfInBounds_toArray, List.set_cons_zero, List.set_cons_succ])
        refine wpAnyH_take (i := 22) (oi := { dst := some 63, op := Op.indexAddr 57 (Operand.tmp 61) (Operand.tmp 62), type := 0, pos := "law.go:48", after := #[{ on := 20, ground := Ground.data }, { on := 21, ground := Ground.data }, { on := 1, ground := Ground.guard }], guard := some (1, true) }) (v := (.pointer (some ⟨b, off + i * 19, none⟩))) rfl (by kernel_rfl) (by kernel_rfl) (by kernel_rfl) (fun _ _ _ h => h) (yieldsIf_idx rfl 57 (.tmp 61) (.tmp 62) rfl _ _ _ rfl rfl (idx23 b off n c i HIn.out)) (by assumption) ?_
        (try simp only [Act.put, List.setIfInBounds_toArray, List.set_cons_zero, List.set_cons_succ])
        refine wpAnyH_take (i := 23) (oi := { dst := some 64, op := Op.fieldAddr 85 (Operand.tmp 63) 2, type := 0, pos := "law.go:48", after := #[{ on := 22, ground := Ground.data }, { on := 1, ground := Ground.guard }], guard := some (1, true) }) (v := (.pointer (some ⟨b, off + i * 19 + 2, none⟩))) rfl (by kernel_rfl) (by kernel_rfl) (by kernel_rfl) (fun _ _ _ h => h) (Or.inl ⟨by rfl, by intro u hSu; go_simp⟩) (by assumption) ?_
        (try simp only [Act.put, List.setIfInBounds_toArray, List.set_cons_zero, List.set_cons_succ])
        refine wpAnyH_take (i := 24) (oi := { dst := some 65, op := Op.load 69 (Operand.tmp 64), type := 69, pos := "law.go:48", after := #[{ on := 23, ground := Ground.data }, { on := 1, ground := Ground.guard }], guard := some (1, true) }) (v := (.agg J.toArray)) rfl (by kernel_rfl) (by kernel_rfl) (by kernel_rfl) (fun _ _ _ h => h) (yieldsIf_load_mid rfl 69 (.tmp 64) rfl b (off + i * 19 + 2) rfl J (.array 16 5) (fun u hu => (HQc.out u hu).2) Tryz.underlying69 rfl HJL.out) (by assumption) ?_
        (try simp only [Act.put, List.setIfInBounds_toArray, List.set_cons_zero, List.set_cons_succ])
        refine wpAnyH_ready (rs := [13]) (by kernel_rfl) (by simp) ?_
        refine AllReadyH.cons rfl (fun K hK => ?_) AllReadyH.nil
        go_simp
        refine (HD19.out _ hHeld).mono ?_
        rintro e y6 ⟨rfl, hgz⟩
        have HUy6 := hid (gtrans (hHeld) hgz)
        clear hgz
        refine hK.out _ _ ?_ (fun hHeld => ?_)
        · exact HUy6.out
        clear hK K
        (try simp only [Act.put, List.setIfInBounds_toArray, List.set_cons_zero, List.set_cons_succ])
        refine wpAnyH_ready (rs := [25]) (by kernel_rfl) (by simp) ?_
        refine AllReadyH.cons rfl (fun K hK => ?_) AllReadyH.nil
        go_simp
        refine (HD20.out _ HUy6.out).mono ?_
        rintro e z6 ⟨rfl, hgz⟩
        have HUz6 := hid (gtrans (HUy6.out) hgz)
        clear hgz
        refine hK.out _ _ ?_ (fun hHeld => ?_)
        · exact HUz6.out
        clear hK K
        (try simp only [Act.put, List.setIfInBounds_toArray, List.set_cons_zero, List.set_cons_succ])
        refine wpAnyH_take (i := 26) (oi := { dst := some 67, op := Op.binOp BinOp.eql 4 (Operand.tmp 54) (Operand.tmp 66) 4, type := 4, pos := "law.go:48", after := #[{ on := 13, ground := Ground.data }, { on := 25, ground := Ground.data }, { on := 1, ground := Ground.guard }], guard := some (1, true) }) (v := (.bool true)) rfl (by kernel_rfl) (by kernel_rfl) (by kernel_rfl) (fun _ _ _ h => h) (yieldsIf_bin rfl .eql 4 (.tmp 54) (.tmp 66) 4 rfl _ _ _ rfl rfl (fun u => eqB W1 u)) (by assumption) ?_
        (try simp only [Act.put, List.setIfInBounds_toArray, List.set_cons_zero, List.set_cons_succ])
        refine wpAnyH_take (i := 27) (oi := { dst := some 68, op := Op.pick (Operand.tmp 42) (Operand.tmp 67) (Operand.const (Value.bool false)), type := 4, pos := "law.go:48", after := #[{ on := 1, ground := Ground.data }, { on := 26, ground := Ground.data }], guard := none }) (v := (.bool true)) rfl (by kernel_rfl) (by kernel_rfl) (by kernel_rfl) (fun _ _ _ h => h) (yieldsIf_pickt rfl (.tmp 42) (.tmp 67) (.const (.bool false)) rfl rfl _ rfl) (by assumption) ?_
        (try simp only [Act.put, List.setIfInBounds_toArray, List.set_cons_zero, List.set_cons_succ])
        refine wpAnyH_ready (rs := [28]) (by kernel_rfl) (by simp) ?_
        refine AllReadyH.cons rfl (fun K hK => ?_) AllReadyH.nil
        go_simp
        refine hK.out _ _ ?_ (fun hHeld => ?_)
        · exact HUz6.out
        clear hK K
        (try simp only [Act.put, List.setIfInBounds_toArray, List.set_cons_zero, List.set_cons_succ])
        refine wpAnyH_done (by kernel_rfl) ?_ _
        have HG6 := hid HUz6.out
        clear HUy6 HUz6 hHeld
        go_upto_region 7 with fail
        refine wp_region_held_drew (S := fun v => w2.grownBy v none) (by kernel_rfl) (gtrans HG6.out (gdrew _ _ _)) (fun hHeld => ?_)
        refine wpAnyH_take (i := 0) (oi := { dst := some 69, op := Op.move (Operand.tmp 6), type := 4, pos := "law.go:49", after := #[], guard := none }) (v := (.bool true)) rfl (by kernel_rfl) (by kernel_rfl) (by kernel_rfl) (fun _ _ _ h => h) (yieldsIf_mv rfl (.tmp 6) rfl _ rfl) (by assumption) ?_
        (try simp only [Act.put, List.setIfInBounds_toArray, List.set_cons_zero, List.set_cons_succ])
        refine wpAnyH_take (i := 1) (oi := { dst := some 70, op := Op.move (Operand.tmp 69), type := 4, pos := "law.go:49", after := #[{ on := 0, ground := Ground.data }], guard := none }) (v := (.bool true)) rfl (by kernel_rfl) (by kernel_rfl) (by kernel_rfl) (fun _ _ _ h => h) (yieldsIf_mv rfl (.tmp 69) rfl _ rfl) (by assumption) ?_
        (try simp only [Act.put, List.setIfInBounds_toArray, List.set_cons_zero, List.set_cons_succ])
        refine wpAnyH_take (i := 2) (oi := { dst := some 71, op := Op.move (Operand.tmp 5), type := 57, pos := "law.go:49", after := #[{ on := 1, ground := Ground.guard }], guard := some (1, true) }) (v := (.slice (some ⟨gx, 0, none⟩) n cx)) rfl (by kernel_rfl) (by kernel_rfl) (by kernel_rfl) (fun _ _ _ h => h) (yieldsIf_mv rfl (.tmp 5) rfl _ rfl) (by assumption) ?_
        (try simp only [Act.put, List.setIfInBounds_toArray, List.set_cons_zero, List.set_cons_succ])
        refine wpAnyH_take (i := 3) (oi := { dst := some 72, op := Op.move (Operand.tmp 0), type := 57, pos := "law.go:49", after := #[{ on := 1, ground := Ground.guard }], guard := some (1, true) }) (v := (.slice (some ⟨b, off, none⟩) n c)) rfl (by kernel_rfl) (by kernel_rfl) (by kernel_rfl) (fun _ _ _ h => h) (yieldsIf_mv rfl (.tmp 0) rfl _ rfl) (by assumption) ?_
        (try simp only [Act.put, List.setIfInBounds_toArray, List.set_cons_zero, List.set_cons_succ])
        refine wpAnyH_take (i := 4) (oi := { dst := some 73, op := Op.move (Operand.tmp 7), type := 3, pos := "law.go:49", after := #[{ on := 1, ground := Ground.guard }], guard := some (1, true) }) (v := (.int .i64 (i : Nat))) rfl (by kernel_rfl) (by kernel_rfl) (by kernel_rfl) (fun _ _ _ h => h) (yieldsIf_mv rfl (.tmp 7) rfl _ rfl) (by assumption) ?_
        (try simp only [Act.put, List.setIfInBounds_toArray, List.set_cons_zero, List.set_cons_succ])
        refine wpAnyH_take (i := 5) (oi := { dst := some 74, op := Op.indexAddr 57 (Operand.tmp 72) (Operand.tmp 73), type := 0, pos := "law.go:49", after := #[{ on := 3, ground := Ground.data }, { on := 4, ground := Ground.data }, { on := 1, ground := Ground.guard }], guard := some (1, true) }) (v := (.pointer (some ⟨b, off + i * 19, none⟩))) rfl (by kernel_rfl) (by kernel_rfl) (by kernel_rfl) (fun _ _ _ h => h) (yieldsIf_idx rfl 57 (.tmp 72) (.tmp 73) rfl _ _ _ rfl rfl (idx23 b off n c i HIn.out)) (by assumption) ?_
        (try simp only [Act.put, List.setIfInBounds_toArray, List.set_cons_zero, List.set_cons_succ])
        refine wpAnyH_take (i := 6) (oi := { dst := some 75, op := Op.fieldAddr 85 (Operand.tmp 74) 1, type := 0, pos := "law.go:49", after := #[{ on := 5, ground := Ground.data }, { on := 1, ground := Ground.guard }], guard := some (1, true) }) (v := (.pointer (some ⟨b, off + i * 19 + 1, none⟩))) rfl (by kernel_rfl) (by kernel_rfl) (by kernel_rfl) (fun _ _ _ h => h) (Or.inl ⟨by rfl, by intro u hSu; go_simp⟩) (by assumption) ?_
        (try simp only [Act.put, List.setIfInBounds_toArray, List.set_cons_zero, List.set_cons_succ])
        refine wpAnyH_take (i := 7) (oi := { dst := some 76, op := Op.load 67 (Operand.tmp 75), type := 67, pos := "law.go:49", after := #[{ on := 6, ground := Ground.data }, { on := 1, ground := Ground.guard }], guard := some (1, true) }) (v := (.int .u64 (qg : Nat))) rfl (by kernel_rfl) (by kernel_rfl) (by kernel_rfl) (fun _ _ _ h => h) (yieldsIf_ld rfl 67 (.tmp 75) rfl _ _ rfl (fun u hu => ld67 b (off + i * 19 + 1) qg u (HQc.out u hu).1)) (by assumption) ?_
        (try simp only [Act.put, List.setIfInBounds_toArray, List.set_cons_zero, List.set_cons_succ])
        refine wpAnyH_take (i := 8) (oi := { dst := some 77, op := Op.fieldAddr 71 (Operand.tmp 3) 2, type := 0, pos := "law.go:49", after := #[{ on := 1, ground := Ground.guard }], guard := some (1, true) }) (v := (.pointer (some ⟨b3, 2, none⟩))) rfl (by kernel_rfl) (by kernel_rfl) (by kernel_rfl) (fun _ _ _ h => h) (Or.inl ⟨by rfl, by intro u hSu; go_simp⟩) (by assumption) ?_
        (try simp only [Act.put, List.setIfInBounds_toArray, List.set_cons_zero, List.set_cons_succ])
        refine wpAnyH_take (i := 9) (oi := { dst := some 78, op := Op.load 69 (Operand.tmp 77), type := 69, pos := "law.go:49", after := #[{ on := 8, ground := Ground.data }, { on := 1, ground := Ground.guard }], guard := some (1, true) }) (v := (.agg OJ.toArray)) rfl (by kernel_rfl) (by kernel_rfl) (by kernel_rfl) (fun _ _ _ h => h) (yieldsIf_load_mid rfl 69 (.tmp 77) rfl b3 2 rfl OJ (.array 16 5) (fun u hu => (HBo.out u hu).2) Tryz.underlying69 rfl HOJ.out) (by assumption) ?_
        (try simp only [Act.put, List.setIfInBounds_toArray, List.set_cons_zero, List.set_cons_succ])
        refine wpAnyH_take (i := 11) (oi := { dst := some 80, op := Op.move (Operand.tmp 0), type := 57, pos := "law.go:49", after := #[{ on := 1, ground := Ground.guard }], guard := some (1, true) }) (v := (.slice (some ⟨b, off, none⟩) n c)) rfl (by kernel_rfl) (by kernel_rfl) (by kernel_rfl) (fun _ _ _ h => h) (yieldsIf_mv rfl (.tmp 0) rfl _ rfl) (by assumption) ?_
        (try simp only [Act.put, List.setIfInBounds_toArray, List.set_cons_zero, List.set_cons_succ])
        refine wpAnyH_take (i := 12) (oi := { dst := some 81, op := Op.move (Operand.tmp 0), type := 57, pos := "law.go:49", after := #[{ on := 1, ground := Ground.guard }], guard := some (1, true) }) (v := (.slice (some ⟨b, off, none⟩) n c)) rfl (by kernel_rfl) (by kernel_rfl) (by kernel_rfl) (fun _ _ _ h => h) (yieldsIf_mv rfl (.tmp 0) rfl _ rfl) (by assumption) ?_
        (try simp only [Act.put, List.setIfInBounds_toArray, List.set_cons_zero, List.set_cons_succ])
        refine wpAnyH_take (i := 13) (oi := { dst := some 82, op := Op.move (Operand.tmp 7), type := 3, pos := "law.go:49", after := #[{ on := 1, ground := Ground.guard }], guard := some (1, true) }) (v := (.int .i64 (i : Nat))) rfl (by kernel_rfl) (by kernel_rfl) (by kernel_rfl) (fun _ _ _ h => h) (yieldsIf_mv rfl (.tmp 7) rfl _ rfl) (by assumption) ?_
        (try simp only [Act.put, List.setIfInBounds_toArray, List.set_cons_zero, List.set_cons_succ])
        refine wpAnyH_take (i := 14) (oi := { dst := some 83, op := Op.indexAddr 57 (Operand.tmp 81) (Operand.tmp 82), type := 0, pos := "law.go:49", after := #[{ on := 12, ground := Ground.data }, { on := 13, ground := Ground.data }, { on := 1, ground := Ground.guard }], guard := some (1, true) }) (v := (.pointer (some ⟨b, off + i * 19, none⟩))) rfl (by kernel_rfl) (by kernel_rfl) (by kernel_rfl) (fun _ _ _ h => h) (yieldsIf_idx rfl 57 (.tmp 81) (.tmp 82) rfl _ _ _ rfl rfl (idx23 b off n c i HIn.out)) (by assumption) ?_
        (try simp only [Act.put, List.setIfInBounds_toArray, List.set_cons_zero, List.set_cons_succ])
        refine wpAnyH_take (i := 15) (oi := { dst := some 84, op := Op.fieldAddr 85 (Operand.tmp 83) 1, type := 0, pos := "law.go:49", after := #[{ on := 14, ground := Ground.data }, { on := 1, ground := Ground.guard }], guard := some (1, true) }) (v := (.pointer (some ⟨b, off + i * 19 + 1, none⟩))) rfl (by kernel_rfl) (by kernel_rfl) (by kernel_rfl) (fun _ _ _ h => h) (Or.inl ⟨by rfl, by intro u hSu; go_simp⟩) (by assumption) ?_
        (try simp only [Act.put, List.setIfInBounds_toArray, List.set_cons_zero, List.set_cons_succ])
        refine wpAnyH_take (i := 16) (oi := { dst := some 85, op := Op.load 67 (Operand.tmp 84), type := 67, pos := "law.go:49", after := #[{ on := 15, ground := Ground.data }, { on := 1, ground := Ground.guard }], guard := some (1, true) }) (v := (.int .u64 (qg : Nat))) rfl (by kernel_rfl) (by kernel_rfl) (by kernel_rfl) (fun _ _ _ h => h) (yieldsIf_ld rfl 67 (.tmp 84) rfl _ _ rfl (fun u hu => ld67 b (off + i * 19 + 1) qg u (HQc.out u hu).1)) (by assumption) ?_
        (try simp only [Act.put, List.setIfInBounds_toArray, List.set_cons_zero, List.set_cons_succ])
        refine wpAnyH_take (i := 17) (oi := { dst := some 86, op := Op.fieldAddr 71 (Operand.tmp 3) 2, type := 0, pos := "law.go:49", after := #[{ on := 1, ground := Ground.guard }], guard := some (1, true) }) (v := (.pointer (some ⟨b3, 2, none⟩))) rfl (by kernel_rfl) (by kernel_rfl) (by kernel_rfl) (fun _ _ _ h => h) (Or.inl ⟨by rfl, by intro u hSu; go_simp⟩) (by assumption) ?_
        (try simp only [Act.put, List.setIfInBounds_toArray, List.set_cons_zero, List.set_cons_succ])
        refine wpAnyH_take (i := 18) (oi := { dst := some 87, op := Op.load 69 (Operand.tmp 86), type := 69, pos := "law.go:49", after := #[{ on := 17, ground := Ground.data }, { on := 1, ground := Ground.guard }], guard := some (1, true) }) (v := (.agg OJ.toArray)) rfl (by kernel_rfl) (by kernel_rfl) (by kernel_rfl) (fun _ _ _ h => h) (yieldsIf_load_mid rfl 69 (.tmp 86) rfl b3 2 rfl OJ (.array 16 5) (fun u hu => (HBo.out u hu).2) Tryz.underlying69 rfl HOJ.out) (by assumption) ?_
        (try simp only [Act.put, List.setIfInBounds_toArray, List.set_cons_zero, List.set_cons_succ])
        refine wpAnyH_ready (rs := [10]) (by kernel_rfl) (by simp) ?_
        refine AllReadyH.cons rfl (fun K hK => ?_) AllReadyH.nil
        go_simp
        refine (HF19.out _ hHeld).mono ?_
        rintro e y7 ⟨rfl, hgz⟩
        have HUy7 := hid (gtrans (hHeld) hgz)
        clear hgz
        refine hK.out _ _ ?_ (fun hHeld => ?_)
        · exact HUy7.out
        clear hK K
        (try simp only [Act.put, List.setIfInBounds_toArray, List.set_cons_zero, List.set_cons_succ])
        refine wpAnyH_ready (rs := [19]) (by kernel_rfl) (by simp) ?_
        refine AllReadyH.cons rfl (fun K hK => ?_) AllReadyH.nil
        go_simp
        refine (HF20.out _ HUy7.out).mono ?_
        rintro e z7 ⟨rfl, hgz⟩
        have HUz7 := hid (gtrans (HUy7.out) hgz)
        clear hgz
        refine hK.out _ _ ?_ (fun hHeld => ?_)
        · exact HUz7.out
        clear hK K
        (try simp only [Act.put, List.setIfInBounds_toArray, List.set_cons_zero, List.set_cons_succ])
        refine wpAnyH_take (i := 20) (oi := { dst := some 89, op := Op.binOp BinOp.eql 4 (Operand.tmp 79) (Operand.tmp 88) 4, type := 4, pos := "law.go:49", after := #[{ on := 10, ground := Ground.data }, { on := 19, ground := Ground.data }, { on := 1, ground := Ground.guard }], guard := some (1, true) }) (v := (.bool true)) rfl (by kernel_rfl) (by kernel_rfl) (by kernel_rfl) (fun _ _ _ h => h) (yieldsIf_bin rfl .eql 4 (.tmp 79) (.tmp 88) 4 rfl _ _ _ rfl rfl (fun u => eqB W2 u)) (by assumption) ?_
        (try simp only [Act.put, List.setIfInBounds_toArray, List.set_cons_zero, List.set_cons_succ])
        refine wpAnyH_take (i := 21) (oi := { dst := some 90, op := Op.pick (Operand.tmp 70) (Operand.tmp 89) (Operand.const (Value.bool false)), type := 4, pos := "law.go:49", after := #[{ on := 1, ground := Ground.data }, { on := 20, ground := Ground.data }], guard := none }) (v := (.bool true)) rfl (by kernel_rfl) (by kernel_rfl) (by kernel_rfl) (fun _ _ _ h => h) (yieldsIf_pickt rfl (.tmp 70) (.tmp 89) (.const (.bool false)) rfl rfl _ rfl) (by assumption) ?_
        (try simp only [Act.put, List.setIfInBounds_toArray, List.set_cons_zero, List.set_cons_succ])
        refine wpAnyH_ready (rs := [22]) (by kernel_rfl) (by simp) ?_
        refine AllReadyH.cons rfl (fun K hK => ?_) AllReadyH.nil
        go_simp
        refine hK.out _ _ ?_ (fun hHeld => ?_)
        · exact HUz7.out
        clear hK K
        (try simp only [Act.put, List.setIfInBounds_toArray, List.set_cons_zero, List.set_cons_succ])
        refine wpAnyH_done (by kernel_rfl) ?_ _
        go_wp2_with fail
        go_roundw
        case rel => exact ⟨i + 1, rfl, by go_num, by have := HIn.out; omega, HUz7⟩
        case measure => have := HIn.out; simp [intOf]; omega
      · have HBq := hid (HBk.out wr HG.out)
        by_cases h1 : i < n
        · as_aux_lemma =>
          have hlt' : (i : Int) < (n : Int) := by omega
          have hlt20 : ¬ (i : Int) < 20 := by omega
          go_wp2_with (go_at_call 10; (with_reducible refine HBq.out.mono ?_); rintro e w9 ⟨rfl, gg⟩; have HG9 := hid (gtrans HG.out gg); clear gg)
          go_ret
          exact ⟨rfl, gtrans HG02.out HG9.out⟩
        · as_aux_lemma =>
          have hlt' : ¬ (i : Int) < (n : Int) := by omega
          go_wp2_with (go_at_call 10; (with_reducible refine HBq.out.mono ?_); rintro e w9 ⟨rfl, gg⟩; have HG9 := hid (gtrans HG.out gg); clear gg)
          go_ret
          exact ⟨rfl, gtrans HG02.out HG9.out⟩
end Go.Proofs.YtlgjmhemgfjgnaaGreat
