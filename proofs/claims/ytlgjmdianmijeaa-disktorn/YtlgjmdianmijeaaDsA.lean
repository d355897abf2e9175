/- moved. -/
import Derived.Test.YtlgjmdianmijeaaDr
namespace Go.Proofs.Ytlgjmdianmijeaa
open Go Go.RowKit Go.MapKept Go.MuLone
open Go.RowKit (wrap32 wrap64)

set_option maxRecDepth 100000 in
set_option maxHeartbeats 8000000 in
theorem moved_cut (w : World) (Fa Fb : Nat → Prop) (a a' : Option Addr) (fa fo fc fb go gc : Nat) (L M : Cn) (hA : ArF w Fa a fa fo L) (hB : ArF w Fb a' fb go M) (hL : L.length ≤ 1000000) (hM : M.length ≤ 1000000)
    (onn : Int) (nm to : ByteArray) (bba : Option Addr) (bbn bbc : Nat) (kv : Int) (ffa : Option Addr) (ffn ffc : Nat) (z : Nat) (old : List UInt8) (g1 : getC L nm = some old) (g2 : getC M nm = some (old.take z)) (hz : z ≤ old.length)
    (h1 : ∀ p ∈ L, p.1 ≠ nm → getC M p.1 = some p.2) (h2 : ∀ p ∈ M, p.1 ≠ nm → (getC L p.1).isSome = true) :
    Calls Try.prog 28 #[.slice a L.length fc, .slice a' M.length gc, .agg [Value.int .i64 2, .int .i64 onn, .string nm, .string to, .slice bba bbn bbc, .int .i64 (z : Nat), .int .i64 kv, .slice ffa ffn ffc].toArray] w fun e w' => e = .returned (.bool true) ∧ w.grownBy w' none := by
  have HFa : Hid (∀ u, w.grownBy u none → ∀ s, Calls Try.prog 20 #[.slice a L.length fc, .string s] u fun e w' => w' = u ∧ ∃ v, e = .returned (.tuple #[v, .bool (getC L s).isSome]) ∧ Rd u Fa v ((getC L s).getD [])) := hid (fun u hu s => file_any u Fa a fa fo fc L s (hA.keep hu) hL)
  have HFb : Hid (∀ u, w.grownBy u none → ∀ s, Calls Try.prog 20 #[.slice a' M.length gc, .string s] u fun e w' => w' = u ∧ ∃ v, e = .returned (.tuple #[v, .bool (getC M s).isSome]) ∧ Rd u Fb v ((getC M s).getD [])) := hid (fun u hu s => file_any u Fb a' fb go gc M s (hB.keep hu) hM)
  obtain ⟨n, HN⟩ : ∃ n, Hid (L.length = n) := ⟨_, hid rfl⟩
  obtain ⟨mm, HNm⟩ : ∃ n, Hid (M.length = n) := ⟨_, hid rfl⟩
  have HOt : Hid (∀ u, w.grownBy u none → Calls Try.prog 21 #[.slice a L.length fc, .slice a' M.length gc, .string nm] u fun e w' => ∃ v, e = .returned v ∧ u.grownBy w' none ∧ v = Value.bool true) := hid (fun u hu => (others_true u Fa Fb a a' fa fo fc fb go gc L M nm (hA.keep hu) (hB.keep hu) hL hM h1 h2).mono fun e w' ⟨q1, q2⟩ => ⟨_, q1, q2, rfl⟩)
  have HFan : Hid (∀ u, w.grownBy u none → Calls Try.prog 20 #[.slice a L.length fc, .string nm] u fun e w' => w' = u ∧ ∃ v, e = .returned (.tuple #[v, .bool true]) ∧ Rd u Fa v old) := hid (fun u hu => by have := HFa.out u hu nm; rw [g1] at this; exact this)
  obtain ⟨od, HOd⟩ : ∃ x, Hid (old.take z = x) := ⟨_, hid rfl⟩
  have HFbn : Hid (∀ u, w.grownBy u none → Calls Try.prog 20 #[.slice a' M.length gc, .string nm] u fun e w' => w' = u ∧ ∃ v, e = .returned (.tuple #[v, .bool true]) ∧ Rd u Fb v od) := hid (fun u hu => by have := HFb.out u hu nm; rw [g2, HOd.out] at this; exact this)
  rw [HN.out] at hL HFan HOt ⊢
  rw [HNm.out] at hM HFbn HOt ⊢
  clear hA hB hL hM HFa HFb h1 h2 g1 g2
  go_enter Try.func28, Try.ntmps28
  go_upto_region 2 with (first
    | ((with_reducible refine wpList_box_row (by with_unfolding_all rfl) 36 _ (by with_unfolding_all rfl) [Value.int .i64 2, .int .i64 onn, .string nm, .string to, .slice bba bbn bbc, .int .i64 (z : Nat), .int .i64 kv, .slice ffa ffn ffc] (by with_unfolding_all rfl) ?_); intro w5 B5 s5 g5; have HB5' := hid B5; have HG5 := hid g5; have c0 := B5.cell 0; have c2 := B5.cell 2; have c3 := B5.cell 3; clear B5 s5 g5)
    | (go_at_call 20; refine (HFan.out _ HG5.out).mono ?_; rintro e w6 ⟨rfl, v6, rfl, hv6⟩; have HV6 := hid hv6; obtain ⟨oa, -, -, oc, rfl, -⟩ := hv6))
  go_upto_region 5 with (go_at_call 20; refine (HFbn.out _ HG5.out).mono ?_; rintro e w7 ⟨rfl, v7, rfl, hv7⟩; have HV7 := hid hv7; obtain ⟨na, -, -, nc, rfl, -⟩ := hv7)
  obtain ⟨p5, hp5⟩ : ∃ x, w.heap.size = x := ⟨_, rfl⟩
  have HB5 : Hid (Blk w7 p5 [Value.int .i64 2, .int .i64 onn, .string nm, .string to, .slice bba bbn bbc, .int .i64 (z : Nat), .int .i64 kv, .slice ffa ffn ffc] 36) := hid (by rw [← hp5]; exact HB5'.out)
  rw [hp5]
  clear hp5 HB5' c0 c2 c3
  obtain ⟨on, HOn⟩ : ∃ x, Hid (old.length = x) := ⟨_, hid rfl⟩
  obtain ⟨nn, HNn⟩ : ∃ x, Hid (od.length = x) := ⟨_, hid rfl⟩
  rw [HOn.out] at HV6 hz ⊢
  rw [HNn.out] at HV7 ⊢
  have HOc : Hid (on ≤ oc) := hid (by obtain ⟨_, _, _, _, e, q, _⟩ := HV6.out; injection e with _ e1 e2; omega)
  have HGe : Hid (∀ (x y : Operand) (u : World), (do eqGuard .geq 3 x y (.int .i64 (z : Nat)) (.int .i64 0); binOp .geq 3 (.int .i64 (z : Nat)) (.int .i64 0) : Sem Value).run Try.prog u = .ok (.bool true) u) := hid (fun x y u => by
    have hb : (0 : Int) ≤ (z : Int) := by omega
    go_simp)
  have HLe : Hid (∀ (x y : Operand) (u : World), (do eqGuard .leq 3 x y (.int .i64 (z : Nat)) (.int .i64 (on : Nat)); binOp .leq 3 (.int .i64 (z : Nat)) (.int .i64 (on : Nat)) : Sem Value).run Try.prog u = .ok (.bool true) u) := hid (fun x y u => by
    have hb : (z : Int) ≤ (on : Int) := by omega
    go_simp)
  have HEq : Hid (∀ (x y : Operand) (u : World), (do eqGuard .eql 9 x y (.string ⟨od.toArray⟩) (.string ⟨od.toArray⟩); binOp .eql 9 (.string ⟨od.toArray⟩) (.string ⟨od.toArray⟩) : Sem Value).run Try.prog u = .ok (.bool true) u) := hid (fun x y u => by
    obtain ⟨S, hS⟩ : ∃ S : ByteArray, (⟨od.toArray⟩ : ByteArray) = S := ⟨_, rfl⟩
    rw [hS]
    have hb : (S.toList == S.toList) = true := by simp
    go_simp)
  have HSl : Hid (∀ u : World, (Instr.sliceAt 33 (.slice oa on oc) none (some (.int .i64 (z : Nat))) none).run Try.prog u = .ok (.slice oa z oc) u) := hid (fun u => sliceh_run oa on oc z (by have := HOc.out; omega) u)
  have HC1 : Hid (∀ u, w7.grownBy u none → (convert 33 9 (.slice na nn nc)).run Try.prog u = .ok (.string ⟨od.toArray⟩) u) := hid (fun u hu => (HV7.out.keep hu).convert)
  have HC2 : Hid (∀ u, w7.grownBy u none → (convert 33 9 (.slice oa z oc)).run Try.prog u = .ok (.string ⟨od.toArray⟩) u) := hid (fun u hu => by rw [← HOd.out]; exact ((HV6.out.keep hu).take hz).convert)
  have HOt : Hid (∀ u, w7.grownBy u none → Calls Try.prog 21 #[.slice a n fc, .slice a' mm gc, .string nm] u fun e w' => ∃ v, e = .returned v ∧ u.grownBy w' none ∧ v = Value.bool true) := hid (fun u hu => HOt.out u (gtrans HG5.out hu))
  refine wp_region_listX (by kernel_rfl) [fun v _ => v = (Value.bool true), fun v _ => v = (Value.bool true), fun v _ => v = (Value.bool true), fun v _ => v = (Value.bool true), fun v _ => v = (Value.bool true), fun v _ => v = (Value.pointer (some ⟨p5, 5, none⟩)), fun v _ => v = (Value.int .i64 (z : Nat)), fun v _ => v = (Value.bool true), fun v _ => v = (Value.bool true), fun v _ => v = (Value.bool true), fun v _ => v = (Value.pointer (some ⟨p5, 5, none⟩)), fun v _ => v = (Value.int .i64 (z : Nat)), fun v _ => v = (Value.slice oa on oc), fun v _ => v = (Value.int .i64 (on : Nat)), fun v _ => v = (Value.bool true), fun v _ => v = (Value.bool true), fun v _ => v = (Value.bool true), fun v _ => v = (Value.slice na nn nc), fun v _ => v = (Value.string ⟨od.toArray⟩), fun v _ => v = (Value.slice oa on oc), fun v _ => v = (Value.pointer (some ⟨p5, 5, none⟩)), fun v _ => v = (Value.int .i64 (z : Nat)), fun v _ => v = (Value.slice oa z oc), fun v _ => v = (Value.string ⟨od.toArray⟩), fun v _ => v = (Value.bool true), fun v _ => v = (Value.bool true), fun v _ => v = (Value.bool true), fun v _ => v = (Value.slice a n fc), fun v _ => v = (Value.slice a' mm gc), fun v _ => v = (Value.pointer (some ⟨p5, 2, none⟩)), fun v _ => v = (Value.string nm), fun v _ => v = Value.bool true, fun v _ => v = (Value.bool true), fun v _ => v = (Value.bool true)] (none) (fun _ => none) 34 (by kernel_rfl) (by kernel_rfl) (by kernel_rfl) (by kernel_rfl) (by decide) noRow_one (fun _ => .inl rfl) ⟨fun i v u u' hki h hg => h, fun i v u u' hki h hg => h, fun i v u u' hki h hg => h, fun i v u u' hki h hg => h, fun i v u u' hki h hg => h, fun i v u u' hki h hg => h, fun i v u u' hki h hg => h, fun i v u u' hki h hg => h, fun i v u u' hki h hg => h, fun i v u u' hki h hg => h, fun i v u u' hki h hg => h, fun i v u u' hki h hg => h, fun i v u u' hki h hg => h, fun i v u u' hki h hg => h, fun i v u u' hki h hg => h, fun i v u u' hki h hg => h, fun i v u u' hki h hg => h, fun i v u u' hki h hg => h, fun i v u u' hki h hg => h, fun i v u u' hki h hg => h, fun i v u u' hki h hg => h, fun i v u u' hki h hg => h, fun i v u u' hki h hg => h, fun i v u u' hki h hg => h, fun i v u u' hki h hg => h, fun i v u u' hki h hg => h, fun i v u u' hki h hg => h, fun i v u u' hki h hg => h, fun i v u u' hki h hg => h, fun i v u u' hki h hg => h, fun i v u u' hki h hg => h, fun i v u u' hki h hg => h, fun i v u u' hki h hg => h, fun i v u u' hki h hg => h, trivial⟩ ⟨?_, ?_, ?_, ?_, ?_, ?_, ?_, ?_, ?_, ?_, ?_, ?_, ?_, ?_, ?_, ?_, ?_, ?_, ?_, ?_, ?_, ?_, ?_, ?_, ?_, ?_, ?_, ?_, ?_, ?_, ?_, ?_, ?_, ?_, trivial⟩ ?_
  · intro A u hu hpu hsz hout hdeps
    have e8 : A.eval (.tmp 8) = (.bool true) := (hout 8 (by kernel_rfl)).trans rfl
    refine ifw_none rfl ?_
    with_reducible refine shown_q (Value.bool true) ?qq_1_0 (fun _ _ => ?qr_1_0)
    case qr_1_0 => exact (rfl : (Value.bool true) = (Value.bool true))
    with_reducible refine quietAt_mv (.tmp 8) (Value.bool true) ?h0_1_0 ?h1_1_0
    case h0_1_0 => rfl
    case h1_1_0 => exact e8
  · intro A u hu hpu hsz hout hdeps
    have e36 : A.eval (.tmp 36) = (.bool true) := by have h := depL hdeps 0 (by kernel_rfl) 36 (by kernel_rfl); exact h
    refine ifw_none rfl ?_
    with_reducible refine shown_q (Value.bool true) ?qq_1_1 (fun _ _ => ?qr_1_1)
    case qr_1_1 => exact (rfl : (Value.bool true) = (Value.bool true))
    with_reducible refine quietAt_mv (.tmp 36) (Value.bool true) ?h0_1_1 ?h1_1_1
    case h0_1_1 => rfl
    case h1_1_1 => exact e36
  · intro A u hu hpu hsz hout hdeps
    have e37 : A.eval (.tmp 37) = (.bool true) := by have h := depL hdeps 1 (by kernel_rfl) 37 (by kernel_rfl); exact h
    have e10 : A.eval (.tmp 10) = (.bool true) := (hout 10 (by kernel_rfl)).trans rfl
    refine ifw_want 1 true 37 rfl rfl e37 ?_
    with_reducible refine shown_q (Value.bool true) ?qq_1_2 (fun _ _ => ?qr_1_2)
    case qr_1_2 => exact (rfl : (Value.bool true) = (Value.bool true))
    with_reducible refine quietAt_mv (.tmp 10) (Value.bool true) ?h0_1_2 ?h1_1_2
    case h0_1_2 => rfl
    case h1_1_2 => exact e10
  · intro A u hu hpu hsz hout hdeps
    have e37 : A.eval (.tmp 37) = (.bool true) := by have h := depL hdeps 1 (by kernel_rfl) 37 (by kernel_rfl); exact h
    have e38 : A.eval (.tmp 38) = (.bool true) := by have h := depL hdeps 2 (by kernel_rfl) 38 (by kernel_rfl); exact h
    refine ifw_none rfl ?_
    with_reducible refine shown_q (Value.bool true) ?qq_1_3 (fun _ _ => ?qr_1_3)
    case qr_1_3 => exact (rfl : (Value.bool true) = (Value.bool true))
    with_reducible refine quietAt_pick (.tmp 37) (.tmp 38) (.const (.bool false)) true (Value.bool true) ?h0_1_3 ?h1_1_3 ?h2_1_3
    case h0_1_3 => rfl
    case h1_1_3 => exact e37
    case h2_1_3 => rw [if_pos rfl]; exact e38
  · intro A u hu hpu hsz hout hdeps
    have e39 : A.eval (.tmp 39) = (.bool true) := by have h := depL hdeps 3 (by kernel_rfl) 39 (by kernel_rfl); exact h
    refine ifw_none rfl ?_
    with_reducible refine shown_q (Value.bool true) ?qq_1_4 (fun _ _ => ?qr_1_4)
    case qr_1_4 => exact (rfl : (Value.bool true) = (Value.bool true))
    with_reducible refine quietAt_mv (.tmp 39) (Value.bool true) ?h0_1_4 ?h1_1_4
    case h0_1_4 => rfl
    case h1_1_4 => exact e39
  · intro A u hu hpu hsz hout hdeps
    have e40 : A.eval (.tmp 40) = (.bool true) := by have h := depL hdeps 4 (by kernel_rfl) 40 (by kernel_rfl); exact h
    have e5 : A.eval (.tmp 5) = (.pointer (some ⟨p5, 0, none⟩)) := (hout 5 (by kernel_rfl)).trans rfl
    refine ifw_want 4 true 40 rfl rfl e40 ?_
    with_reducible refine shown_q (Value.pointer (some ⟨p5, 5, none⟩)) ?qq_1_5 (fun _ _ => ?qr_1_5)
    case qr_1_5 => exact (rfl : (Value.pointer (some ⟨p5, 5, none⟩)) = (Value.pointer (some ⟨p5, 5, none⟩)))
    with_reducible refine quietAt_field 36 (.tmp 5) 5 ?h0_1_5 ⟨p5, 0, none⟩ ⟨p5, 5, none⟩ ?h1_1_5 ?h2_1_5
    case h0_1_5 => rfl
    case h1_1_5 => exact e5
    case h2_1_5 => kernel_rfl
  · intro A u hu hpu hsz hout hdeps
    have e40 : A.eval (.tmp 40) = (.bool true) := by have h := depL hdeps 4 (by kernel_rfl) 40 (by kernel_rfl); exact h
    have e41 : A.eval (.tmp 41) = (.pointer (some ⟨p5, 5, none⟩)) := by have h := depL hdeps 5 (by kernel_rfl) 41 (by kernel_rfl); exact h
    refine ifw_want 4 true 40 rfl rfl e40 ?_
    with_reducible refine shown_q (Value.int .i64 (z : Nat)) ?qq_1_6 (fun _ _ => ?qr_1_6)
    case qr_1_6 => exact (rfl : (Value.int .i64 (z : Nat)) = (Value.int .i64 (z : Nat)))
    with_reducible refine quietAt_ld 3 (.tmp 41) (Value.pointer (some ⟨p5, 5, none⟩)) (Value.int .i64 (z : Nat)) ?h0_1_6 ?h1_1_6 ?h2_1_6
    case h0_1_6 => rfl
    case h1_1_6 => exact e41
    case h2_1_6 => exact ld3 p5 5 (z : Nat) u ((HB5.out.keep hu).cell 5)
  · intro A u hu hpu hsz hout hdeps
    have e40 : A.eval (.tmp 40) = (.bool true) := by have h := depL hdeps 4 (by kernel_rfl) 40 (by kernel_rfl); exact h
    have e42 : A.eval (.tmp 42) = (.int .i64 (z : Nat)) := by have h := depL hdeps 6 (by kernel_rfl) 42 (by kernel_rfl); exact h
    refine ifw_want 4 true 40 rfl rfl e40 ?_
    with_reducible refine shown_q (Value.bool true) ?qq_1_7 (fun _ _ => ?qr_1_7)
    case qr_1_7 => exact (rfl : (Value.bool true) = (Value.bool true))
    with_reducible refine quietAt_bin .geq 3 (.tmp 42) (.const (.int .i64 0)) 3 (Value.int .i64 (z : Nat)) (Value.int .i64 0) (Value.bool true) ?h0_1_7 ?h1_1_7 ?h2_1_7 ?h3_1_7
    case h0_1_7 => rfl
    case h1_1_7 => exact e42
    case h2_1_7 => exact rfl
    case h3_1_7 => exact HGe.out _ _ u
  · intro A u hu hpu hsz hout hdeps
    have e40 : A.eval (.tmp 40) = (.bool true) := by have h := depL hdeps 4 (by kernel_rfl) 40 (by kernel_rfl); exact h
    have e43 : A.eval (.tmp 43) = (.bool true) := by have h := depL hdeps 7 (by kernel_rfl) 43 (by kernel_rfl); exact h
    refine ifw_none rfl ?_
    with_reducible refine shown_q (Value.bool true) ?qq_1_8 (fun _ _ => ?qr_1_8)
    case qr_1_8 => exact (rfl : (Value.bool true) = (Value.bool true))
    with_reducible refine quietAt_pick (.tmp 40) (.tmp 43) (.const (.bool false)) true (Value.bool true) ?h0_1_8 ?h1_1_8 ?h2_1_8
    case h0_1_8 => rfl
    case h1_1_8 => exact e40
    case h2_1_8 => rw [if_pos rfl]; exact e43
  · intro A u hu hpu hsz hout hdeps
    have e44 : A.eval (.tmp 44) = (.bool true) := by have h := depL hdeps 8 (by kernel_rfl) 44 (by kernel_rfl); exact h
    refine ifw_none rfl ?_
    with_reducible refine shown_q (Value.bool true) ?qq_1_9 (fun _ _ => ?qr_1_9)
    case qr_1_9 => exact (rfl : (Value.bool true) = (Value.bool true))
    with_reducible refine quietAt_mv (.tmp 44) (Value.bool true) ?h0_1_9 ?h1_1_9
    case h0_1_9 => rfl
    case h1_1_9 => exact e44
  · intro A u hu hpu hsz hout hdeps
    have e45 : A.eval (.tmp 45) = (.bool true) := by have h := depL hdeps 9 (by kernel_rfl) 45 (by kernel_rfl); exact h
    have e5 : A.eval (.tmp 5) = (.pointer (some ⟨p5, 0, none⟩)) := (hout 5 (by kernel_rfl)).trans rfl
    refine ifw_want 9 true 45 rfl rfl e45 ?_
    with_reducible refine shown_q (Value.pointer (some ⟨p5, 5, none⟩)) ?qq_1_10 (fun _ _ => ?qr_1_10)
    case qr_1_10 => exact (rfl : (Value.pointer (some ⟨p5, 5, none⟩)) = (Value.pointer (some ⟨p5, 5, none⟩)))
    with_reducible refine quietAt_field 36 (.tmp 5) 5 ?h0_1_10 ⟨p5, 0, none⟩ ⟨p5, 5, none⟩ ?h1_1_10 ?h2_1_10
    case h0_1_10 => rfl
    case h1_1_10 => exact e5
    case h2_1_10 => kernel_rfl
  · intro A u hu hpu hsz hout hdeps
    have e45 : A.eval (.tmp 45) = (.bool true) := by have h := depL hdeps 9 (by kernel_rfl) 45 (by kernel_rfl); exact h
    have e46 : A.eval (.tmp 46) = (.pointer (some ⟨p5, 5, none⟩)) := by have h := depL hdeps 10 (by kernel_rfl) 46 (by kernel_rfl); exact h
    refine ifw_want 9 true 45 rfl rfl e45 ?_
    with_reducible refine shown_q (Value.int .i64 (z : Nat)) ?qq_1_11 (fun _ _ => ?qr_1_11)
    case qr_1_11 => exact (rfl : (Value.int .i64 (z : Nat)) = (Value.int .i64 (z : Nat)))
    with_reducible refine quietAt_ld 3 (.tmp 46) (Value.pointer (some ⟨p5, 5, none⟩)) (Value.int .i64 (z : Nat)) ?h0_1_11 ?h1_1_11 ?h2_1_11
    case h0_1_11 => rfl
    case h1_1_11 => exact e46
    case h2_1_11 => exact ld3 p5 5 (z : Nat) u ((HB5.out.keep hu).cell 5)
  · intro A u hu hpu hsz hout hdeps
    have e45 : A.eval (.tmp 45) = (.bool true) := by have h := depL hdeps 9 (by kernel_rfl) 45 (by kernel_rfl); exact h
    have e7 : A.eval (.tmp 7) = (.slice oa on oc) := (hout 7 (by kernel_rfl)).trans rfl
    refine ifw_want 9 true 45 rfl rfl e45 ?_
    with_reducible refine shown_q (Value.slice oa on oc) ?qq_1_12 (fun _ _ => ?qr_1_12)
    case qr_1_12 => exact (rfl : (Value.slice oa on oc) = (Value.slice oa on oc))
    with_reducible refine quietAt_mv (.tmp 7) (Value.slice oa on oc) ?h0_1_12 ?h1_1_12
    case h0_1_12 => rfl
    case h1_1_12 => exact e7
  · intro A u hu hpu hsz hout hdeps
    have e45 : A.eval (.tmp 45) = (.bool true) := by have h := depL hdeps 9 (by kernel_rfl) 45 (by kernel_rfl); exact h
    have e48 : A.eval (.tmp 48) = (.slice oa on oc) := by have h := depL hdeps 12 (by kernel_rfl) 48 (by kernel_rfl); exact h
    refine ifw_want 9 true 45 rfl rfl e45 ?_
    with_reducible refine shown_q (Value.int .i64 (on : Nat)) ?qq_1_13 (fun _ _ => ?qr_1_13)
    case qr_1_13 => exact (rfl : (Value.int .i64 (on : Nat)) = (Value.int .i64 (on : Nat)))
    with_reducible refine quietAt_len (.tmp 48) 33 ?h0_1_13 oa on oc ?h1_1_13 ?h2_1_13
    case h0_1_13 => rfl
    case h1_1_13 => exact e48
    case h2_1_13 => kernel_rfl
  · intro A u hu hpu hsz hout hdeps
    have e45 : A.eval (.tmp 45) = (.bool true) := by have h := depL hdeps 9 (by kernel_rfl) 45 (by kernel_rfl); exact h
    have e47 : A.eval (.tmp 47) = (.int .i64 (z : Nat)) := by have h := depL hdeps 11 (by kernel_rfl) 47 (by kernel_rfl); exact h
    have e49 : A.eval (.tmp 49) = (.int .i64 (on : Nat)) := by have h := depL hdeps 13 (by kernel_rfl) 49 (by kernel_rfl); exact h
    refine ifw_want 9 true 45 rfl rfl e45 ?_
    with_reducible refine shown_q (Value.bool true) ?qq_1_14 (fun _ _ => ?qr_1_14)
    case qr_1_14 => exact (rfl : (Value.bool true) = (Value.bool true))
    with_reducible refine quietAt_bin .leq 3 (.tmp 47) (.tmp 49) 3 (Value.int .i64 (z : Nat)) (Value.int .i64 (on : Nat)) (Value.bool true) ?h0_1_14 ?h1_1_14 ?h2_1_14 ?h3_1_14
    case h0_1_14 => rfl
    case h1_1_14 => exact e47
    case h2_1_14 => exact e49
    case h3_1_14 => exact HLe.out _ _ u
  · intro A u hu hpu hsz hout hdeps
    have e45 : A.eval (.tmp 45) = (.bool true) := by have h := depL hdeps 9 (by kernel_rfl) 45 (by kernel_rfl); exact h
    have e50 : A.eval (.tmp 50) = (.bool true) := by have h := depL hdeps 14 (by kernel_rfl) 50 (by kernel_rfl); exact h
    refine ifw_none rfl ?_
    with_reducible refine shown_q (Value.bool true) ?qq_1_15 (fun _ _ => ?qr_1_15)
    case qr_1_15 => exact (rfl : (Value.bool true) = (Value.bool true))
    with_reducible refine quietAt_pick (.tmp 45) (.tmp 50) (.const (.bool false)) true (Value.bool true) ?h0_1_15 ?h1_1_15 ?h2_1_15
    case h0_1_15 => rfl
    case h1_1_15 => exact e45
    case h2_1_15 => rw [if_pos rfl]; exact e50
  · intro A u hu hpu hsz hout hdeps
    have e51 : A.eval (.tmp 51) = (.bool true) := by have h := depL hdeps 15 (by kernel_rfl) 51 (by kernel_rfl); exact h
    refine ifw_none rfl ?_
    with_reducible refine shown_q (Value.bool true) ?qq_1_16 (fun _ _ => ?qr_1_16)
    case qr_1_16 => exact (rfl : (Value.bool true) = (Value.bool true))
    with_reducible refine quietAt_mv (.tmp 51) (Value.bool true) ?h0_1_16 ?h1_1_16
    case h0_1_16 => rfl
    case h1_1_16 => exact e51
  · intro A u hu hpu hsz hout hdeps
    have e52 : A.eval (.tmp 52) = (.bool true) := by have h := depL hdeps 16 (by kernel_rfl) 52 (by kernel_rfl); exact h
    have e9 : A.eval (.tmp 9) = (.slice na nn nc) := (hout 9 (by kernel_rfl)).trans rfl
    refine ifw_want 16 true 52 rfl rfl e52 ?_
    with_reducible refine shown_q (Value.slice na nn nc) ?qq_1_17 (fun _ _ => ?qr_1_17)
    case qr_1_17 => exact (rfl : (Value.slice na nn nc) = (Value.slice na nn nc))
    with_reducible refine quietAt_mv (.tmp 9) (Value.slice na nn nc) ?h0_1_17 ?h1_1_17
    case h0_1_17 => rfl
    case h1_1_17 => exact e9
  · intro A u hu hpu hsz hout hdeps
    have e52 : A.eval (.tmp 52) = (.bool true) := by have h := depL hdeps 16 (by kernel_rfl) 52 (by kernel_rfl); exact h
    have e53 : A.eval (.tmp 53) = (.slice na nn nc) := by have h := depL hdeps 17 (by kernel_rfl) 53 (by kernel_rfl); exact h
    refine ifw_want 16 true 52 rfl rfl e52 ?_
    with_reducible refine shown_q (Value.string ⟨od.toArray⟩) ?qq_1_18 (fun _ _ => ?qr_1_18)
    case qr_1_18 => exact (rfl : (Value.string ⟨od.toArray⟩) = (Value.string ⟨od.toArray⟩))
    with_reducible refine quietAt_cv 33 9 (.tmp 53) (Value.slice na nn nc) (Value.string ⟨od.toArray⟩) ?h0_1_18 ?h1_1_18 ?h2_1_18
    case h0_1_18 => rfl
    case h1_1_18 => exact e53
    case h2_1_18 => exact (HC1.out u hu)
  · intro A u hu hpu hsz hout hdeps
    have e52 : A.eval (.tmp 52) = (.bool true) := by have h := depL hdeps 16 (by kernel_rfl) 52 (by kernel_rfl); exact h
    have e7 : A.eval (.tmp 7) = (.slice oa on oc) := (hout 7 (by kernel_rfl)).trans rfl
    refine ifw_want 16 true 52 rfl rfl e52 ?_
    with_reducible refine shown_q (Value.slice oa on oc) ?qq_1_19 (fun _ _ => ?qr_1_19)
    case qr_1_19 => exact (rfl : (Value.slice oa on oc) = (Value.slice oa on oc))
    with_reducible refine quietAt_mv (.tmp 7) (Value.slice oa on oc) ?h0_1_19 ?h1_1_19
    case h0_1_19 => rfl
    case h1_1_19 => exact e7
  · intro A u hu hpu hsz hout hdeps
    have e52 : A.eval (.tmp 52) = (.bool true) := by have h := depL hdeps 16 (by kernel_rfl) 52 (by kernel_rfl); exact h
    have e5 : A.eval (.tmp 5) = (.pointer (some ⟨p5, 0, none⟩)) := (hout 5 (by kernel_rfl)).trans rfl
    refine ifw_want 16 true 52 rfl rfl e52 ?_
    with_reducible refine shown_q (Value.pointer (some ⟨p5, 5, none⟩)) ?qq_1_20 (fun _ _ => ?qr_1_20)
    case qr_1_20 => exact (rfl : (Value.pointer (some ⟨p5, 5, none⟩)) = (Value.pointer (some ⟨p5, 5, none⟩)))
    with_reducible refine quietAt_field 36 (.tmp 5) 5 ?h0_1_20 ⟨p5, 0, none⟩ ⟨p5, 5, none⟩ ?h1_1_20 ?h2_1_20
    case h0_1_20 => rfl
    case h1_1_20 => exact e5
    case h2_1_20 => kernel_rfl
  · intro A u hu hpu hsz hout hdeps
    have e52 : A.eval (.tmp 52) = (.bool true) := by have h := depL hdeps 16 (by kernel_rfl) 52 (by kernel_rfl); exact h
    have e56 : A.eval (.tmp 56) = (.pointer (some ⟨p5, 5, none⟩)) := by have h := depL hdeps 20 (by kernel_rfl) 56 (by kernel_rfl); exact h
    refine ifw_want 16 true 52 rfl rfl e52 ?_
    with_reducible refine shown_q (Value.int .i64 (z : Nat)) ?qq_1_21 (fun _ _ => ?qr_1_21)
    case qr_1_21 => exact (rfl : (Value.int .i64 (z : Nat)) = (Value.int .i64 (z : Nat)))
    with_reducible refine quietAt_ld 3 (.tmp 56) (Value.pointer (some ⟨p5, 5, none⟩)) (Value.int .i64 (z : Nat)) ?h0_1_21 ?h1_1_21 ?h2_1_21
    case h0_1_21 => rfl
    case h1_1_21 => exact e56
    case h2_1_21 => exact ld3 p5 5 (z : Nat) u ((HB5.out.keep hu).cell 5)
  · intro A u hu hpu hsz hout hdeps
    have e52 : A.eval (.tmp 52) = (.bool true) := by have h := depL hdeps 16 (by kernel_rfl) 52 (by kernel_rfl); exact h
    have e55 : A.eval (.tmp 55) = (.slice oa on oc) := by have h := depL hdeps 19 (by kernel_rfl) 55 (by kernel_rfl); exact h
    have e57 : A.eval (.tmp 57) = (.int .i64 (z : Nat)) := by have h := depL hdeps 21 (by kernel_rfl) 57 (by kernel_rfl); exact h
    refine ifw_want 16 true 52 rfl rfl e52 ?_
    with_reducible refine shown_q (Value.slice oa z oc) ?qq_1_22 (fun _ _ => ?qr_1_22)
    case qr_1_22 => exact (rfl : (Value.slice oa z oc) = (Value.slice oa z oc))
    with_reducible refine quietAt_sliceh 33 (.tmp 55) (.tmp 57) (Value.slice oa on oc) (Value.int .i64 (z : Nat)) (Value.slice oa z oc) ?h0_1_22 ?h1_1_22 ?h2_1_22 ?h3_1_22
    case h0_1_22 => rfl
    case h1_1_22 => exact e55
    case h2_1_22 => exact e57
    case h3_1_22 => exact HSl.out u
  · intro A u hu hpu hsz hout hdeps
    have e52 : A.eval (.tmp 52) = (.bool true) := by have h := depL hdeps 16 (by kernel_rfl) 52 (by kernel_rfl); exact h
    have e58 : A.eval (.tmp 58) = (.slice oa z oc) := by have h := depL hdeps 22 (by kernel_rfl) 58 (by kernel_rfl); exact h
    refine ifw_want 16 true 52 rfl rfl e52 ?_
    with_reducible refine shown_q (Value.string ⟨od.toArray⟩) ?qq_1_23 (fun _ _ => ?qr_1_23)
    case qr_1_23 => exact (rfl : (Value.string ⟨od.toArray⟩) = (Value.string ⟨od.toArray⟩))
    with_reducible refine quietAt_cv 33 9 (.tmp 58) (Value.slice oa z oc) (Value.string ⟨od.toArray⟩) ?h0_1_23 ?h1_1_23 ?h2_1_23
    case h0_1_23 => rfl
    case h1_1_23 => exact e58
    case h2_1_23 => exact (HC2.out u hu)
  · intro A u hu hpu hsz hout hdeps
    have e52 : A.eval (.tmp 52) = (.bool true) := by have h := depL hdeps 16 (by kernel_rfl) 52 (by kernel_rfl); exact h
    have e54 : A.eval (.tmp 54) = (.string ⟨od.toArray⟩) := by have h := depL hdeps 18 (by kernel_rfl) 54 (by kernel_rfl); exact h
    have e59 : A.eval (.tmp 59) = (.string ⟨od.toArray⟩) := by have h := depL hdeps 23 (by kernel_rfl) 59 (by kernel_rfl); exact h
    refine ifw_want 16 true 52 rfl rfl e52 ?_
    with_reducible refine shown_q (Value.bool true) ?qq_1_24 (fun _ _ => ?qr_1_24)
    case qr_1_24 => exact (rfl : (Value.bool true) = (Value.bool true))
    with_reducible refine quietAt_bin .eql 9 (.tmp 54) (.tmp 59) 9 (Value.string ⟨od.toArray⟩) (Value.string ⟨od.toArray⟩) (Value.bool true) ?h0_1_24 ?h1_1_24 ?h2_1_24 ?h3_1_24
    case h0_1_24 => rfl
    case h1_1_24 => exact e54
    case h2_1_24 => exact e59
    case h3_1_24 => exact HEq.out _ _ u
  · intro A u hu hpu hsz hout hdeps
    have e52 : A.eval (.tmp 52) = (.bool true) := by have h := depL hdeps 16 (by kernel_rfl) 52 (by kernel_rfl); exact h
    have e60 : A.eval (.tmp 60) = (.bool true) := by have h := depL hdeps 24 (by kernel_rfl) 60 (by kernel_rfl); exact h
    refine ifw_none rfl ?_
    with_reducible refine shown_q (Value.bool true) ?qq_1_25 (fun _ _ => ?qr_1_25)
    case qr_1_25 => exact (rfl : (Value.bool true) = (Value.bool true))
    with_reducible refine quietAt_pick (.tmp 52) (.tmp 60) (.const (.bool false)) true (Value.bool true) ?h0_1_25 ?h1_1_25 ?h2_1_25
    case h0_1_25 => rfl
    case h1_1_25 => exact e52
    case h2_1_25 => rw [if_pos rfl]; exact e60
  · intro A u hu hpu hsz hout hdeps
    have e61 : A.eval (.tmp 61) = (.bool true) := by have h := depL hdeps 25 (by kernel_rfl) 61 (by kernel_rfl); exact h
    refine ifw_none rfl ?_
    with_reducible refine shown_q (Value.bool true) ?qq_1_26 (fun _ _ => ?qr_1_26)
    case qr_1_26 => exact (rfl : (Value.bool true) = (Value.bool true))
    with_reducible refine quietAt_mv (.tmp 61) (Value.bool true) ?h0_1_26 ?h1_1_26
    case h0_1_26 => rfl
    case h1_1_26 => exact e61
  · intro A u hu hpu hsz hout hdeps
    have e62 : A.eval (.tmp 62) = (.bool true) := by have h := depL hdeps 26 (by kernel_rfl) 62 (by kernel_rfl); exact h
    have e0 : A.eval (.tmp 0) = (.slice a n fc) := (hout 0 (by kernel_rfl)).trans rfl
    refine ifw_want 26 true 62 rfl rfl e62 ?_
    with_reducible refine shown_q (Value.slice a n fc) ?qq_1_27 (fun _ _ => ?qr_1_27)
    case qr_1_27 => exact (rfl : (Value.slice a n fc) = (Value.slice a n fc))
    with_reducible refine quietAt_mv (.tmp 0) (Value.slice a n fc) ?h0_1_27 ?h1_1_27
    case h0_1_27 => rfl
    case h1_1_27 => exact e0
  · intro A u hu hpu hsz hout hdeps
    have e62 : A.eval (.tmp 62) = (.bool true) := by have h := depL hdeps 26 (by kernel_rfl) 62 (by kernel_rfl); exact h
    have e1 : A.eval (.tmp 1) = (.slice a' mm gc) := (hout 1 (by kernel_rfl)).trans rfl
    refine ifw_want 26 true 62 rfl rfl e62 ?_
    with_reducible refine shown_q (Value.slice a' mm gc) ?qq_1_28 (fun _ _ => ?qr_1_28)
    case qr_1_28 => exact (rfl : (Value.slice a' mm gc) = (Value.slice a' mm gc))
    with_reducible refine quietAt_mv (.tmp 1) (Value.slice a' mm gc) ?h0_1_28 ?h1_1_28
    case h0_1_28 => rfl
    case h1_1_28 => exact e1
  · intro A u hu hpu hsz hout hdeps
    have e62 : A.eval (.tmp 62) = (.bool true) := by have h := depL hdeps 26 (by kernel_rfl) 62 (by kernel_rfl); exact h
    have e5 : A.eval (.tmp 5) = (.pointer (some ⟨p5, 0, none⟩)) := (hout 5 (by kernel_rfl)).trans rfl
    refine ifw_want 26 true 62 rfl rfl e62 ?_
    with_reducible refine shown_q (Value.pointer (some ⟨p5, 2, none⟩)) ?qq_1_29 (fun _ _ => ?qr_1_29)
    case qr_1_29 => exact (rfl : (Value.pointer (some ⟨p5, 2, none⟩)) = (Value.pointer (some ⟨p5, 2, none⟩)))
    with_reducible refine quietAt_field 36 (.tmp 5) 2 ?h0_1_29 ⟨p5, 0, none⟩ ⟨p5, 2, none⟩ ?h1_1_29 ?h2_1_29
    case h0_1_29 => rfl
    case h1_1_29 => exact e5
    case h2_1_29 => kernel_rfl
  · intro A u hu hpu hsz hout hdeps
    have e62 : A.eval (.tmp 62) = (.bool true) := by have h := depL hdeps 26 (by kernel_rfl) 62 (by kernel_rfl); exact h
    have e65 : A.eval (.tmp 65) = (.pointer (some ⟨p5, 2, none⟩)) := by have h := depL hdeps 29 (by kernel_rfl) 65 (by kernel_rfl); exact h
    refine ifw_want 26 true 62 rfl rfl e62 ?_
    with_reducible refine shown_q (Value.string nm) ?qq_1_30 (fun _ _ => ?qr_1_30)
    case qr_1_30 => exact (rfl : (Value.string nm) = (Value.string nm))
    with_reducible refine quietAt_ld 9 (.tmp 65) (Value.pointer (some ⟨p5, 2, none⟩)) (Value.string nm) ?h0_1_30 ?h1_1_30 ?h2_1_30
    case h0_1_30 => rfl
    case h1_1_30 => exact e65
    case h2_1_30 => exact ld9 p5 2 nm u ((HB5.out.keep hu).cell 2)
  · intro A u hu hpu hsz hout hdeps
    have e62 : A.eval (.tmp 62) = (.bool true) := by have h := depL hdeps 26 (by kernel_rfl) 62 (by kernel_rfl); exact h
    have e63 : A.eval (.tmp 63) = (.slice a n fc) := by have h := depL hdeps 27 (by kernel_rfl) 63 (by kernel_rfl); exact h
    have e64 : A.eval (.tmp 64) = (.slice a' mm gc) := by have h := depL hdeps 28 (by kernel_rfl) 64 (by kernel_rfl); exact h
    have e66 : A.eval (.tmp 66) = (.string nm) := by have h := depL hdeps 30 (by kernel_rfl) 66 (by kernel_rfl); exact h
    refine ifw_want 26 true 62 rfl rfl e62 ?_
    with_reducible refine shown_call 21 Try.f21 ?h0_1_31 ?h1_1_31 ?h2_1_31 #[.tmp 63, .tmp 64, .tmp 66] #[34, 34, 9] ?h3_1_31 #[(Value.slice a n fc), (Value.slice a' mm gc), (Value.string nm)] ?h4_1_31 ?h5_1_31
    case h0_1_31 => exact Try.func21
    case h1_1_31 => kernel_rfl
    case h2_1_31 => kernel_rfl
    case h3_1_31 => rfl
    case h4_1_31 => exact map3 _ _ _ _ _ _ _ e63 e64 e66
    case h5_1_31 => exact HOt.out u hu
  · intro A u hu hpu hsz hout hdeps
    have e62 : A.eval (.tmp 62) = (.bool true) := by have h := depL hdeps 26 (by kernel_rfl) 62 (by kernel_rfl); exact h
    have f67 : (fun v _ => v = Value.bool true) (A.eval (.tmp 67)) u := by have h := depL hdeps 31 (by kernel_rfl) 67 (by kernel_rfl); exact h
    have e67 := (f67 : _ = Value.bool true)
    refine ifw_none rfl ?_
    with_reducible refine shown_q (Value.bool true) ?qq_1_32 (fun _ _ => ?qr_1_32)
    case qr_1_32 => exact (rfl : (Value.bool true) = (Value.bool true))
    with_reducible refine quietAt_pick (.tmp 62) (.tmp 67) (.const (.bool false)) true (Value.bool true) ?h0_1_32 ?h1_1_32 ?h2_1_32
    case h0_1_32 => rfl
    case h1_1_32 => exact e62
    case h2_1_32 => rw [if_pos rfl]; exact e67
  · intro A u hu hpu hsz hout hdeps
    have e68 : A.eval (.tmp 68) = (.bool true) := by have h := depL hdeps 32 (by kernel_rfl) 68 (by kernel_rfl); exact h
    refine ifw_none rfl ?_
    with_reducible refine shown_q (Value.bool true) ?qq_1_33 (fun _ _ => ?qr_1_33)
    case qr_1_33 => exact (rfl : (Value.bool true) = (Value.bool true))
    with_reducible refine quietAt_as (.tmp 68) (Value.bool true) ?h0_1_33 ?h1_1_33
    case h0_1_33 => rfl
    case h1_1_33 => exact e68
  · intro A u8 listed hh hall
    have hA := hh.frame
    have HU := hid hh.grown
    obtain ⟨x36, hx36⟩ : ∃ x, A.eval (.tmp 36) = x := ⟨_, rfl⟩
    have f36 : (fun v _ => v = (Value.bool true)) x36 u8 := by rw [← hx36]; exact hh.got 0 _ 36 rfl rfl (hall 0 (by decide))
    obtain ⟨x37, hx37⟩ : ∃ x, A.eval (.tmp 37) = x := ⟨_, rfl⟩
    have f37 : (fun v _ => v = (Value.bool true)) x37 u8 := by rw [← hx37]; exact hh.got 1 _ 37 rfl rfl (hall 1 (by decide))
    obtain ⟨x38, hx38⟩ : ∃ x, A.eval (.tmp 38) = x := ⟨_, rfl⟩
    have f38 : (fun v _ => v = (Value.bool true)) x38 u8 := by rw [← hx38]; exact hh.got 2 _ 38 rfl rfl (hall 2 (by decide))
    obtain ⟨x39, hx39⟩ : ∃ x, A.eval (.tmp 39) = x := ⟨_, rfl⟩
    have f39 : (fun v _ => v = (Value.bool true)) x39 u8 := by rw [← hx39]; exact hh.got 3 _ 39 rfl rfl (hall 3 (by decide))
    obtain ⟨x40, hx40⟩ : ∃ x, A.eval (.tmp 40) = x := ⟨_, rfl⟩
    have f40 : (fun v _ => v = (Value.bool true)) x40 u8 := by rw [← hx40]; exact hh.got 4 _ 40 rfl rfl (hall 4 (by decide))
    obtain ⟨x41, hx41⟩ : ∃ x, A.eval (.tmp 41) = x := ⟨_, rfl⟩
    have f41 : (fun v _ => v = (Value.pointer (some ⟨p5, 5, none⟩))) x41 u8 := by rw [← hx41]; exact hh.got 5 _ 41 rfl rfl (hall 5 (by decide))
    obtain ⟨x42, hx42⟩ : ∃ x, A.eval (.tmp 42) = x := ⟨_, rfl⟩
    have f42 : (fun v _ => v = (Value.int .i64 (z : Nat))) x42 u8 := by rw [← hx42]; exact hh.got 6 _ 42 rfl rfl (hall 6 (by decide))
    obtain ⟨x43, hx43⟩ : ∃ x, A.eval (.tmp 43) = x := ⟨_, rfl⟩
    have f43 : (fun v _ => v = (Value.bool true)) x43 u8 := by rw [← hx43]; exact hh.got 7 _ 43 rfl rfl (hall 7 (by decide))
    obtain ⟨x44, hx44⟩ : ∃ x, A.eval (.tmp 44) = x := ⟨_, rfl⟩
    have f44 : (fun v _ => v = (Value.bool true)) x44 u8 := by rw [← hx44]; exact hh.got 8 _ 44 rfl rfl (hall 8 (by decide))
    obtain ⟨x45, hx45⟩ : ∃ x, A.eval (.tmp 45) = x := ⟨_, rfl⟩
    have f45 : (fun v _ => v = (Value.bool true)) x45 u8 := by rw [← hx45]; exact hh.got 9 _ 45 rfl rfl (hall 9 (by decide))
    obtain ⟨x46, hx46⟩ : ∃ x, A.eval (.tmp 46) = x := ⟨_, rfl⟩
    have f46 : (fun v _ => v = (Value.pointer (some ⟨p5, 5, none⟩))) x46 u8 := by rw [← hx46]; exact hh.got 10 _ 46 rfl rfl (hall 10 (by decide))
    obtain ⟨x47, hx47⟩ : ∃ x, A.eval (.tmp 47) = x := ⟨_, rfl⟩
    have f47 : (fun v _ => v = (Value.int .i64 (z : Nat))) x47 u8 := by rw [← hx47]; exact hh.got 11 _ 47 rfl rfl (hall 11 (by decide))
    obtain ⟨x48, hx48⟩ : ∃ x, A.eval (.tmp 48) = x := ⟨_, rfl⟩
    have f48 : (fun v _ => v = (Value.slice oa on oc)) x48 u8 := by rw [← hx48]; exact hh.got 12 _ 48 rfl rfl (hall 12 (by decide))
    obtain ⟨x49, hx49⟩ : ∃ x, A.eval (.tmp 49) = x := ⟨_, rfl⟩
    have f49 : (fun v _ => v = (Value.int .i64 (on : Nat))) x49 u8 := by rw [← hx49]; exact hh.got 13 _ 49 rfl rfl (hall 13 (by decide))
    obtain ⟨x50, hx50⟩ : ∃ x, A.eval (.tmp 50) = x := ⟨_, rfl⟩
    have f50 : (fun v _ => v = (Value.bool true)) x50 u8 := by rw [← hx50]; exact hh.got 14 _ 50 rfl rfl (hall 14 (by decide))
    obtain ⟨x51, hx51⟩ : ∃ x, A.eval (.tmp 51) = x := ⟨_, rfl⟩
    have f51 : (fun v _ => v = (Value.bool true)) x51 u8 := by rw [← hx51]; exact hh.got 15 _ 51 rfl rfl (hall 15 (by decide))
    obtain ⟨x52, hx52⟩ : ∃ x, A.eval (.tmp 52) = x := ⟨_, rfl⟩
    have f52 : (fun v _ => v = (Value.bool true)) x52 u8 := by rw [← hx52]; exact hh.got 16 _ 52 rfl rfl (hall 16 (by decide))
    obtain ⟨x53, hx53⟩ : ∃ x, A.eval (.tmp 53) = x := ⟨_, rfl⟩
    have f53 : (fun v _ => v = (Value.slice na nn nc)) x53 u8 := by rw [← hx53]; exact hh.got 17 _ 53 rfl rfl (hall 17 (by decide))
    obtain ⟨x54, hx54⟩ : ∃ x, A.eval (.tmp 54) = x := ⟨_, rfl⟩
    have f54 : (fun v _ => v = (Value.string ⟨od.toArray⟩)) x54 u8 := by rw [← hx54]; exact hh.got 18 _ 54 rfl rfl (hall 18 (by decide))
    obtain ⟨x55, hx55⟩ : ∃ x, A.eval (.tmp 55) = x := ⟨_, rfl⟩
    have f55 : (fun v _ => v = (Value.slice oa on oc)) x55 u8 := by rw [← hx55]; exact hh.got 19 _ 55 rfl rfl (hall 19 (by decide))
    obtain ⟨x56, hx56⟩ : ∃ x, A.eval (.tmp 56) = x := ⟨_, rfl⟩
    have f56 : (fun v _ => v = (Value.pointer (some ⟨p5, 5, none⟩))) x56 u8 := by rw [← hx56]; exact hh.got 20 _ 56 rfl rfl (hall 20 (by decide))
    obtain ⟨x57, hx57⟩ : ∃ x, A.eval (.tmp 57) = x := ⟨_, rfl⟩
    have f57 : (fun v _ => v = (Value.int .i64 (z : Nat))) x57 u8 := by rw [← hx57]; exact hh.got 21 _ 57 rfl rfl (hall 21 (by decide))
    obtain ⟨x58, hx58⟩ : ∃ x, A.eval (.tmp 58) = x := ⟨_, rfl⟩
    have f58 : (fun v _ => v = (Value.slice oa z oc)) x58 u8 := by rw [← hx58]; exact hh.got 22 _ 58 rfl rfl (hall 22 (by decide))
    obtain ⟨x59, hx59⟩ : ∃ x, A.eval (.tmp 59) = x := ⟨_, rfl⟩
    have f59 : (fun v _ => v = (Value.string ⟨od.toArray⟩)) x59 u8 := by rw [← hx59]; exact hh.got 23 _ 59 rfl rfl (hall 23 (by decide))
    obtain ⟨x60, hx60⟩ : ∃ x, A.eval (.tmp 60) = x := ⟨_, rfl⟩
    have f60 : (fun v _ => v = (Value.bool true)) x60 u8 := by rw [← hx60]; exact hh.got 24 _ 60 rfl rfl (hall 24 (by decide))
    obtain ⟨x61, hx61⟩ : ∃ x, A.eval (.tmp 61) = x := ⟨_, rfl⟩
    have f61 : (fun v _ => v = (Value.bool true)) x61 u8 := by rw [← hx61]; exact hh.got 25 _ 61 rfl rfl (hall 25 (by decide))
    obtain ⟨x62, hx62⟩ : ∃ x, A.eval (.tmp 62) = x := ⟨_, rfl⟩
    have f62 : (fun v _ => v = (Value.bool true)) x62 u8 := by rw [← hx62]; exact hh.got 26 _ 62 rfl rfl (hall 26 (by decide))
    obtain ⟨x63, hx63⟩ : ∃ x, A.eval (.tmp 63) = x := ⟨_, rfl⟩
    have f63 : (fun v _ => v = (Value.slice a n fc)) x63 u8 := by rw [← hx63]; exact hh.got 27 _ 63 rfl rfl (hall 27 (by decide))
    obtain ⟨x64, hx64⟩ : ∃ x, A.eval (.tmp 64) = x := ⟨_, rfl⟩
    have f64 : (fun v _ => v = (Value.slice a' mm gc)) x64 u8 := by rw [← hx64]; exact hh.got 28 _ 64 rfl rfl (hall 28 (by decide))
    obtain ⟨x65, hx65⟩ : ∃ x, A.eval (.tmp 65) = x := ⟨_, rfl⟩
    have f65 : (fun v _ => v = (Value.pointer (some ⟨p5, 2, none⟩))) x65 u8 := by rw [← hx65]; exact hh.got 29 _ 65 rfl rfl (hall 29 (by decide))
    obtain ⟨x66, hx66⟩ : ∃ x, A.eval (.tmp 66) = x := ⟨_, rfl⟩
    have f66 : (fun v _ => v = (Value.string nm)) x66 u8 := by rw [← hx66]; exact hh.got 30 _ 66 rfl rfl (hall 30 (by decide))
    obtain ⟨x67, hx67⟩ : ∃ x, A.eval (.tmp 67) = x := ⟨_, rfl⟩
    have f67 : (fun v _ => v = Value.bool true) x67 u8 := by rw [← hx67]; exact hh.got 31 _ 67 rfl rfl (hall 31 (by decide))
    obtain ⟨x68, hx68⟩ : ∃ x, A.eval (.tmp 68) = x := ⟨_, rfl⟩
    have f68 : (fun v _ => v = (Value.bool true)) x68 u8 := by rw [← hx68]; exact hh.got 32 _ 68 rfl rfl (hall 32 (by decide))
    obtain ⟨x6, hx6⟩ : ∃ x, A.eval (.tmp 6) = x := ⟨_, rfl⟩
    have f6 : (fun v _ => v = (Value.bool true)) x6 u8 := by rw [← hx6]; exact hh.got 33 _ 6 rfl rfl (hall 33 (by decide))
    dsimp only [wrote, List.foldl] at hA
    rw [hx36, hx37, hx38, hx39, hx40, hx41, hx42, hx43, hx44, hx45, hx46, hx47, hx48, hx49, hx50, hx51, hx52, hx53, hx54, hx55, hx56, hx57, hx58, hx59, hx60, hx61, hx62, hx63, hx64, hx65, hx66, hx67, hx68, hx6] at hA
    clear hh hall hx36 hx37 hx38 hx39 hx40 hx41 hx42 hx43 hx44 hx45 hx46 hx47 hx48 hx49 hx50 hx51 hx52 hx53 hx54 hx55 hx56 hx57 hx58 hx59 hx60 hx61 hx62 hx63 hx64 hx65 hx66 hx67 hx68 hx6
    replace f36 := (f36 : x36 = (.bool true))
    subst f36
    replace f37 := (f37 : x37 = (.bool true))
    subst f37
    replace f38 := (f38 : x38 = (.bool true))
    subst f38
    replace f39 := (f39 : x39 = (.bool true))
    subst f39
    replace f40 := (f40 : x40 = (.bool true))
    subst f40
    replace f41 := (f41 : x41 = (.pointer (some ⟨p5, 5, none⟩)))
    subst f41
    replace f42 := (f42 : x42 = (.int .i64 (z : Nat)))
    subst f42
    replace f43 := (f43 : x43 = (.bool true))
    subst f43
    replace f44 := (f44 : x44 = (.bool true))
    subst f44
    replace f45 := (f45 : x45 = (.bool true))
    subst f45
    replace f46 := (f46 : x46 = (.pointer (some ⟨p5, 5, none⟩)))
    subst f46
    replace f47 := (f47 : x47 = (.int .i64 (z : Nat)))
    subst f47
    replace f48 := (f48 : x48 = (.slice oa on oc))
    subst f48
    replace f49 := (f49 : x49 = (.int .i64 (on : Nat)))
    subst f49
    replace f50 := (f50 : x50 = (.bool true))
    subst f50
    replace f51 := (f51 : x51 = (.bool true))
    subst f51
    replace f52 := (f52 : x52 = (.bool true))
    subst f52
    replace f53 := (f53 : x53 = (.slice na nn nc))
    subst f53
    replace f54 := (f54 : x54 = (.string ⟨od.toArray⟩))
    subst f54
    replace f55 := (f55 : x55 = (.slice oa on oc))
    subst f55
    replace f56 := (f56 : x56 = (.pointer (some ⟨p5, 5, none⟩)))
    subst f56
    replace f57 := (f57 : x57 = (.int .i64 (z : Nat)))
    subst f57
    replace f58 := (f58 : x58 = (.slice oa z oc))
    subst f58
    replace f59 := (f59 : x59 = (.string ⟨od.toArray⟩))
    subst f59
    replace f60 := (f60 : x60 = (.bool true))
    subst f60
    replace f61 := (f61 : x61 = (.bool true))
    subst f61
    replace f62 := (f62 : x62 = (.bool true))
    subst f62
    replace f63 := (f63 : x63 = (.slice a n fc))
    subst f63
    replace f64 := (f64 : x64 = (.slice a' mm gc))
    subst f64
    replace f65 := (f65 : x65 = (.pointer (some ⟨p5, 2, none⟩)))
    subst f65
    replace f66 := (f66 : x66 = (.string nm))
    subst f66
    have e67 := (f67 : _ = Value.bool true)
    subst e67
    replace f68 := (f68 : x68 = (.bool true))
    subst f68
    replace f6 := (f6 : x6 = (.bool true))
    subst f6
    subst hA
    show wpList _ _ _ [] _ _
    unfold wpList
    simp only [Act.put, List.setIfInBounds_toArray, List.set_cons_succ, List.set_cons_zero]
    go_wp2_with fail
    go_ret
    exact ⟨rfl, gtrans HG5.out HU.out⟩
set_option maxRecDepth 100000 in
set_option maxHeartbeats 8000000 in
theorem moved_rem (w : World) (Fa Fb : Nat → Prop) (a a' : Option Addr) (fa fo fc fb go gc : Nat) (L M : Cn) (hA : ArF w Fa a fa fo L) (hB : ArF w Fb a' fb go M) (hL : L.length ≤ 1000000) (hM : M.length ≤ 1000000)
    (onn : Int) (nm to : ByteArray) (bba : Option Addr) (bbn bbc : Nat) (kv : Int) (ffa : Option Addr) (ffn ffc : Nat) (nv : Int) (old : List UInt8) (g1 : getC L nm = some old) (g2 : getC M nm = none)
    (h1 : ∀ p ∈ L, p.1 ≠ nm → getC M p.1 = some p.2) (h2 : ∀ p ∈ M, p.1 ≠ nm → (getC L p.1).isSome = true) :
    Calls Try.prog 28 #[.slice a L.length fc, .slice a' M.length gc, .agg [Value.int .i64 4, .int .i64 onn, .string nm, .string to, .slice bba bbn bbc, .int .i64 nv, .int .i64 kv, .slice ffa ffn ffc].toArray] w fun e w' => e = .returned (.bool true) ∧ w.grownBy w' none := by
  have HFa : Hid (∀ u, w.grownBy u none → ∀ s, Calls Try.prog 20 #[.slice a L.length fc, .string s] u fun e w' => w' = u ∧ ∃ v, e = .returned (.tuple #[v, .bool (getC L s).isSome]) ∧ Rd u Fa v ((getC L s).getD [])) := hid (fun u hu s => file_any u Fa a fa fo fc L s (hA.keep hu) hL)
  have HFb : Hid (∀ u, w.grownBy u none → ∀ s, Calls Try.prog 20 #[.slice a' M.length gc, .string s] u fun e w' => w' = u ∧ ∃ v, e = .returned (.tuple #[v, .bool (getC M s).isSome]) ∧ Rd u Fb v ((getC M s).getD [])) := hid (fun u hu s => file_any u Fb a' fb go gc M s (hB.keep hu) hM)
  obtain ⟨n, HN⟩ : ∃ n, Hid (L.length = n) := ⟨_, hid rfl⟩
  obtain ⟨mm, HNm⟩ : ∃ n, Hid (M.length = n) := ⟨_, hid rfl⟩
  have HOt : Hid (∀ u, w.grownBy u none → Calls Try.prog 21 #[.slice a L.length fc, .slice a' M.length gc, .string nm] u fun e w' => ∃ v, e = .returned v ∧ u.grownBy w' none ∧ v = Value.bool true) := hid (fun u hu => (others_true u Fa Fb a a' fa fo fc fb go gc L M nm (hA.keep hu) (hB.keep hu) hL hM h1 h2).mono fun e w' ⟨q1, q2⟩ => ⟨_, q1, q2, rfl⟩)
  have HFan : Hid (∀ u, w.grownBy u none → Calls Try.prog 20 #[.slice a L.length fc, .string nm] u fun e w' => w' = u ∧ ∃ v, e = .returned (.tuple #[v, .bool true]) ∧ Rd u Fa v old) := hid (fun u hu => by have := HFa.out u hu nm; rw [g1] at this; exact this)
  have HFbn : Hid (∀ u, w.grownBy u none → Calls Try.prog 20 #[.slice a' M.length gc, .string nm] u fun e w' => w' = u ∧ ∃ v, e = .returned (.tuple #[v, .bool false]) ∧ Rd u Fb v []) := hid (fun u hu => by have := HFb.out u hu nm; rw [g2] at this; exact this)
  rw [HN.out] at hL HFan HOt ⊢
  rw [HNm.out] at hM HFbn HOt ⊢
  clear hA hB hL hM HFa HFb h1 h2 g1 g2
  go_enter Try.func28, Try.ntmps28
  go_upto_region 2 with (first
    | ((with_reducible refine wpList_box_row (by with_unfolding_all rfl) 36 _ (by with_unfolding_all rfl) [Value.int .i64 4, .int .i64 onn, .string nm, .string to, .slice bba bbn bbc, .int .i64 nv, .int .i64 kv, .slice ffa ffn ffc] (by with_unfolding_all rfl) ?_); intro w5 B5 s5 g5; have HB5' := hid B5; have HG5 := hid g5; have c0 := B5.cell 0; have c2 := B5.cell 2; have c3 := B5.cell 3; clear B5 s5 g5)
    | (go_at_call 20; refine (HFan.out _ HG5.out).mono ?_; rintro e w6 ⟨rfl, v6, rfl, hv6⟩; have HV6 := hid hv6; obtain ⟨oa, -, -, oc, rfl, -⟩ := hv6))
  go_upto_region 7 with (go_at_call 20; refine (HFbn.out _ HG5.out).mono ?_; rintro e w7 ⟨rfl, v7, rfl, hv7⟩; have HV7 := hid hv7; obtain ⟨na, -, -, nc, rfl, -⟩ := hv7)
  go_wp2_with (go_at_call 21; refine (HOt.out _ HG5.out).mono ?_; rintro e w8 ⟨v8, rfl, hg8, rfl⟩; have HG8 := hid hg8; clear hg8)
  go_ret
  exact ⟨rfl, gtrans HG5.out HG8.out⟩
set_option maxRecDepth 100000 in
set_option maxHeartbeats 8000000 in
theorem moved_self (w : World) (Fa Fb : Nat → Prop) (a a' : Option Addr) (fa fo fc fb go gc : Nat) (L M : Cn) (hA : ArF w Fa a fa fo L) (hB : ArF w Fb a' fb go M) (hL : L.length ≤ 1000000) (hM : M.length ≤ 1000000)
    (onn : Int) (nm to : ByteArray) (bba : Option Addr) (bbn bbc : Nat) (kv : Int) (ffa : Option Addr) (ffn ffc : Nat) (nv : Int) (old : List UInt8) (g1 : getC L nm = some old) (hto : nm = to) (hML : M = L) (hbl : ∀ p ∈ L, p.2.length ≤ 140737488355328) :
    Calls Try.prog 28 #[.slice a L.length fc, .slice a' M.length gc, .agg [Value.int .i64 3, .int .i64 onn, .string nm, .string to, .slice bba bbn bbc, .int .i64 nv, .int .i64 kv, .slice ffa ffn ffc].toArray] w fun e w' => e = .returned (.bool true) ∧ w.grownBy w' none := by
  have HFa : Hid (∀ u, w.grownBy u none → ∀ s, Calls Try.prog 20 #[.slice a L.length fc, .string s] u fun e w' => w' = u ∧ ∃ v, e = .returned (.tuple #[v, .bool (getC L s).isSome]) ∧ Rd u Fa v ((getC L s).getD [])) := hid (fun u hu s => file_any u Fa a fa fo fc L s (hA.keep hu) hL)
  have HFb : Hid (∀ u, w.grownBy u none → ∀ s, Calls Try.prog 20 #[.slice a' M.length gc, .string s] u fun e w' => w' = u ∧ ∃ v, e = .returned (.tuple #[v, .bool (getC M s).isSome]) ∧ Rd u Fb v ((getC M s).getD [])) := hid (fun u hu s => file_any u Fb a' fb go gc M s (hB.keep hu) hM)
  obtain ⟨n, HN⟩ : ∃ n, Hid (L.length = n) := ⟨_, hid rfl⟩
  obtain ⟨mm, HNm⟩ : ∃ n, Hid (M.length = n) := ⟨_, hid rfl⟩
  have HEf : Hid (∀ u, w.grownBy u none → Calls Try.prog 17 #[.slice a L.length fc, .slice a' M.length gc] u fun e w' => e = .returned (.bool true) ∧ u.grownBy w' none) := hid (fun u hu => by
    subst hML
    exact eqFiles_same u Fa Fb a a' fa fo fc fb go gc M (hA.keep hu) (hB.keep hu) hL hbl)
  have HFan : Hid (∀ u, w.grownBy u none → Calls Try.prog 20 #[.slice a L.length fc, .string nm] u fun e w' => w' = u ∧ ∃ v, e = .returned (.tuple #[v, .bool true]) ∧ Rd u Fa v old) := hid (fun u hu => by have := HFa.out u hu nm; rw [g1] at this; exact this)
  obtain ⟨D, hD⟩ : ∃ D, (getC M nm).isSome = D := ⟨_, rfl⟩
  have HFbn : Hid (∀ u, w.grownBy u none → Calls Try.prog 20 #[.slice a' M.length gc, .string nm] u fun e w' => w' = u ∧ ∃ v, e = .returned (.tuple #[v, .bool D]) ∧ Rd u Fb v ((getC M nm).getD [])) := hid (fun u hu => by have := HFb.out u hu nm; rw [hD] at this; exact this)
  have hss : (nm.toList == to.toList) = true := by rw [ba_dec, decide_eq_true hto]
  rw [HN.out] at hL HFan HEf ⊢
  rw [HNm.out] at hM HFbn HEf ⊢
  clear hA hB hL hM HFa HFb g1 hML hbl hto hD
  go_enter Try.func28, Try.ntmps28
  go_upto_region 2 with (first
    | ((with_reducible refine wpList_box_row (by with_unfolding_all rfl) 36 _ (by with_unfolding_all rfl) [Value.int .i64 3, .int .i64 onn, .string nm, .string to, .slice bba bbn bbc, .int .i64 nv, .int .i64 kv, .slice ffa ffn ffc] (by with_unfolding_all rfl) ?_); intro w5 B5 s5 g5; have HB5' := hid B5; have HG5 := hid g5; have c0 := B5.cell 0; have c2 := B5.cell 2; have c3 := B5.cell 3; clear B5 s5 g5)
    | (go_at_call 20; refine (HFan.out _ HG5.out).mono ?_; rintro e w6 ⟨rfl, v6, rfl, hv6⟩; have HV6 := hid hv6; obtain ⟨oa, -, -, oc, rfl, -⟩ := hv6))
  go_upto_region 10 with (go_at_call 20; refine (HFbn.out _ HG5.out).mono ?_; rintro e w7 ⟨rfl, v7, rfl, hv7⟩; have HV7 := hid hv7; obtain ⟨na, -, -, nc, rfl, -⟩ := hv7)
  go_wp2_with (go_at_call 17; refine (HEf.out _ HG5.out).mono ?_; rintro e w8 ⟨rfl, hg8⟩; have HG8 := hid hg8; clear hg8)
  go_ret
  exact ⟨rfl, gtrans HG5.out HG8.out⟩
set_option maxRecDepth 100000 in
set_option maxHeartbeats 8000000 in
theorem moved_else (w : World) (Fa Fb : Nat → Prop) (a a' : Option Addr) (fa fo fc fb go gc : Nat) (L M : Cn) (hA : ArF w Fa a fa fo L) (hB : ArF w Fb a' fb go M) (hL : L.length ≤ 1000000) (hM : M.length ≤ 1000000)
    (onn : Int) (nm to : ByteArray) (bba : Option Addr) (bbn bbc : Nat) (kv : Int) (ffa : Option Addr) (ffn ffc : Nat) (dv nv : Int) (d2 : ¬ dv = 2) (d3 : ¬ dv = 3) (d4 : ¬ dv = 4) :
    Calls Try.prog 28 #[.slice a L.length fc, .slice a' M.length gc, .agg [Value.int .i64 dv, .int .i64 onn, .string nm, .string to, .slice bba bbn bbc, .int .i64 nv, .int .i64 kv, .slice ffa ffn ffc].toArray] w fun e w' => e = .returned (.bool true) ∧ w.grownBy w' none := by
  have HFa : Hid (∀ u, w.grownBy u none → ∀ s, Calls Try.prog 20 #[.slice a L.length fc, .string s] u fun e w' => w' = u ∧ ∃ v, e = .returned (.tuple #[v, .bool (getC L s).isSome]) ∧ Rd u Fa v ((getC L s).getD [])) := hid (fun u hu s => file_any u Fa a fa fo fc L s (hA.keep hu) hL)
  have HFb : Hid (∀ u, w.grownBy u none → ∀ s, Calls Try.prog 20 #[.slice a' M.length gc, .string s] u fun e w' => w' = u ∧ ∃ v, e = .returned (.tuple #[v, .bool (getC M s).isSome]) ∧ Rd u Fb v ((getC M s).getD [])) := hid (fun u hu s => file_any u Fb a' fb go gc M s (hB.keep hu) hM)
  obtain ⟨n, HN⟩ : ∃ n, Hid (L.length = n) := ⟨_, hid rfl⟩
  obtain ⟨mm, HNm⟩ : ∃ n, Hid (M.length = n) := ⟨_, hid rfl⟩
  obtain ⟨D, hD⟩ : ∃ D, (getC M nm).isSome = D := ⟨_, rfl⟩
  obtain ⟨D', hD'⟩ : ∃ D, (getC L nm).isSome = D := ⟨_, rfl⟩
  have HFan : Hid (∀ u, w.grownBy u none → Calls Try.prog 20 #[.slice a L.length fc, .string nm] u fun e w' => w' = u ∧ ∃ v, e = .returned (.tuple #[v, .bool D']) ∧ Rd u Fa v ((getC L nm).getD [])) := hid (fun u hu => by have := HFa.out u hu nm; rw [hD'] at this; exact this)
  have HFbn : Hid (∀ u, w.grownBy u none → Calls Try.prog 20 #[.slice a' M.length gc, .string nm] u fun e w' => w' = u ∧ ∃ v, e = .returned (.tuple #[v, .bool D]) ∧ Rd u Fb v ((getC M nm).getD [])) := hid (fun u hu => by have := HFb.out u hu nm; rw [hD] at this; exact this)
  rw [HN.out] at hL HFan ⊢
  rw [HNm.out] at hM HFbn ⊢
  clear hA hB hL hM HFa HFb hD hD'
  go_enter Try.func28, Try.ntmps28
  go_upto_region 2 with (first
    | ((with_reducible refine wpList_box_row (by with_unfolding_all rfl) 36 _ (by with_unfolding_all rfl) [Value.int .i64 dv, .int .i64 onn, .string nm, .string to, .slice bba bbn bbc, .int .i64 nv, .int .i64 kv, .slice ffa ffn ffc] (by with_unfolding_all rfl) ?_); intro w5 B5 s5 g5; have HB5' := hid B5; have HG5 := hid g5; have c0 := B5.cell 0; have c2 := B5.cell 2; have c3 := B5.cell 3; clear B5 s5 g5)
    | (go_at_call 20; refine (HFan.out _ HG5.out).mono ?_; rintro e w6 ⟨rfl, v6, rfl, hv6⟩; have HV6 := hid hv6; obtain ⟨oa, -, -, oc, rfl, -⟩ := hv6))
  go_wp2_with (go_at_call 20; refine (HFbn.out _ HG5.out).mono ?_; rintro e w7 ⟨rfl, v7, rfl, hv7⟩; have HV7 := hid hv7; obtain ⟨na, -, -, nc, rfl, -⟩ := hv7)
  go_ret
  exact ⟨rfl, HG5.out⟩
end Go.Proofs.Ytlgjmdianmijeaa
