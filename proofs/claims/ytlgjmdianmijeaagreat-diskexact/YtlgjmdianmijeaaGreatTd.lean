/- plays. -/
import Derived.Test.YtlgjmdianmijeaaGreatTa
namespace Go.Proofs.YtlgjmdianmijeaaGreat
open Go Go.RowKit Go.MapKept Go.MuLone
open Go.RowKit (wrap32 wrap64)

variable {w u u' : World} {col col' : Nat → Nat} {b c : Nat → Nat} {A D : Nat → Ab} {A' D' A1 D1 : Ab} {sb bk sk : Nat} {tn sp M : Int}
set_option maxRecDepth 100000 in
set_option maxHeartbeats 8000000 in
theorem plays_arm {on : Int} {nm to : ByteArray} {ba fa : Option Addr} {bn bc fn fc z k : Nat} {nv kv : Int} (h : Stg w u col sb bk sk b c A (fun j => (A j).sr) tn sp) (hk : k < 2) (hand : bits .and .i64 on 1 = (k : Int)) (hsp : 0 ≤ sp ∧ sp + (z : Nat) < 9223372036854775807) (hle : ¬ 1048576 < sp + (z : Nat))
    (H21 : Hid (∀ u', u.grownBy u' none → Calls Tryz.prog 21 #[.agg [Value.int .i64 8, .int .i64 on, .string nm, .string to, .slice ba bn bc, .int .i64 nv, .int .i64 kv, .slice fa fn fc].toArray] u' fun e w' => ∃ v, e = .returned v ∧ u'.grownBy w' none ∧ v = Value.int .i64 (z : Nat)))
    (HP : Hid (∀ (ob : Nat) (r : Bool) (u9 : World), Mid w sb bk sk ob [Value.int .i64 8, .int .i64 on, .string nm, .string to, .slice ba bn bc, .int .i64 nv, .int .i64 kv, .slice fa fn fc] b c A (fun j => (A j).sr) tn (sp + (z : Nat)) k A1 D1 false r u9 → Calls Tryz.prog 14 #[.pointer (some ⟨b k, 0, none⟩), .int .i64 nv, .int .i64 kv] u9 fun e u' => e = .returned (.tuple #[]) ∧ Mid w sb bk sk ob [Value.int .i64 8, .int .i64 on, .string nm, .string to, .slice ba bn bc, .int .i64 nv, .int .i64 kv, .slice fa fn fc] b c A (fun j => (A j).sr) tn (sp + (z : Nat)) k A1 D1 true r u'))
    (HR : Hid (∀ (ob : Nat) (p : Bool) (u9 : World), Mid w sb bk sk ob [Value.int .i64 8, .int .i64 on, .string nm, .string to, .slice ba bn bc, .int .i64 nv, .int .i64 kv, .slice fa fn fc] b c A (fun j => (A j).sr) tn (sp + (z : Nat)) k A1 D1 p false u9 → Calls Tryz.prog 33 #[.pointer (some ⟨c k, 0, none⟩), .int .i64 nv, .int .i64 kv] u9 fun e u' => e = .returned (.tuple #[]) ∧ Mid w sb bk sk ob [Value.int .i64 8, .int .i64 on, .string nm, .string to, .slice ba bn bc, .int .i64 nv, .int .i64 kv, .slice fa fn fc] b c A (fun j => (A j).sr) tn (sp + (z : Nat)) k A1 D1 p true u')) :
    Calls Tryz.prog 8 #[.pointer (some ⟨sb, 0, none⟩), .agg [Value.int .i64 8, .int .i64 on, .string nm, .string to, .slice ba bn bc, .int .i64 nv, .int .i64 kv, .slice fa fn fc].toArray] u fun e u' => e = .returned (.bool true) ∧ ∃ ob, Mid w sb bk sk ob [Value.int .i64 8, .int .i64 on, .string nm, .string to, .slice ba bn bc, .int .i64 nv, .int .i64 kv, .slice fa fn fc] b c A (fun j => (A j).sr) tn (sp + (z : Nat)) k A1 D1 true true u' := by
  have hk' : (k : Int) < 2 := by omega
  have HS := hid h
  have HAdd : Hid (∀ (x y : Operand) (u : World), (do eqGuard .add 3 x y (.int .i64 sp) (.int .i64 (z : Nat)); binOp .add 3 (.int .i64 sp) (.int .i64 (z : Nat)) : Sem Value).run Tryz.prog u = .ok (.int .i64 (sp + (z : Nat))) u) := hid (fun x y u => by have q := wrap_add hsp; go_simp)
  clear h hsp
  go_enter Tryz.func8, Tryz.ntmps8
  go_upto_region 2 with ((with_reducible refine wpList_box_row (by with_unfolding_all rfl) 83 _ (by with_unfolding_all rfl) [Value.int .i64 8, .int .i64 on, .string nm, .string to, .slice ba bn bc, .int .i64 nv, .int .i64 kv, .slice fa fn fc] (by with_unfolding_all rfl) ?_); intro w1 B1 s1 g1; have HB1 := hid B1; have HG1 := hid g1; have HZ1 := hid s1; have c1 := B1.cell 1; clear B1 s1 g1)
  clear c1
  obtain ⟨ob, hob⟩ : ∃ x, u.heap.size = x := ⟨_, rfl⟩
  have HOB := hid hob
  rw [hob] at HB1 HZ1 ⊢
  clear hob
  replace H21 : Hid (∀ u', w1.grownBy u' none → Calls Tryz.prog 21 #[.agg [Value.int .i64 8, .int .i64 on, .string nm, .string to, .slice ba bn bc, .int .i64 nv, .int .i64 kv, .slice fa fn fc].toArray] u' fun e w' => ∃ v, e = .returned v ∧ u'.grownBy w' none ∧ v = Value.int .i64 (z : Nat)) := hid (fun u' hu => H21.out u' (gtrans HG1.out hu))
  have HY1 : Hid (∀ u', w1.grownBy u' none → u'.cell? ⟨sb, 8, none⟩ = some (.int .i64 sp)) := hid (fun u' hu => (HS.out.s.blk.keep (gtrans HG1.out hu)).cell 8)
  refine wp_region_listX (by kernel_rfl) [fun v _ => v = (Value.pointer (some ⟨sb, 0, none⟩)), fun v _ => v = (Value.pointer (some ⟨sb, 0, none⟩)), fun v _ => v = (Value.pointer (some ⟨sb, 0, none⟩)), fun v _ => v = (Value.pointer (some ⟨sb, 8, none⟩)), fun v _ => v = (Value.int .i64 sp), fun v _ => v = (Value.agg [Value.int .i64 8, Value.int .i64 on, Value.string nm, Value.string to, Value.slice ba bn bc, Value.int .i64 nv, Value.int .i64 kv, Value.slice fa fn fc].toArray), fun v _ => v = Value.int .i64 (z : Nat), fun v _ => v = (Value.int .i64 (sp + (z : Nat))), fun v _ => v = (Value.pointer (some ⟨sb, 0, none⟩)), fun v _ => v = (Value.pointer (some ⟨sb, 8, none⟩))] (none) (fun _ => none) 10 (by kernel_rfl) (by kernel_rfl) (by kernel_rfl) (by kernel_rfl) (by decide) noRow_one (fun _ => .inl rfl) ⟨fun i v u u' hki h hg => h, fun i v u u' hki h hg => h, fun i v u u' hki h hg => h, fun i v u u' hki h hg => h, fun i v u u' hki h hg => h, fun i v u u' hki h hg => h, fun i v u u' hki h hg => h, fun i v u u' hki h hg => h, fun i v u u' hki h hg => h, fun i v u u' hki h hg => h, trivial⟩ ⟨?_, ?_, ?_, ?_, ?_, ?_, ?_, ?_, ?_, ?_, trivial⟩ ?_
  · intro A u hu hpu hsz hout hdeps
    have e0 : A.eval (.tmp 0) = (.pointer (some ⟨sb, 0, none⟩)) := (hout 0 (by kernel_rfl)).trans rfl
    refine ifw_none rfl ?_
    with_reducible refine shown_q (Value.pointer (some ⟨sb, 0, none⟩)) ?qq_10_0 (fun _ _ => ?qr_10_0)
    case qr_10_0 => exact (rfl : (Value.pointer (some ⟨sb, 0, none⟩)) = (Value.pointer (some ⟨sb, 0, none⟩)))
    with_reducible refine quietAt_mv (.tmp 0) (Value.pointer (some ⟨sb, 0, none⟩)) ?h0_10_0 ?h1_10_0
    case h0_10_0 => rfl
    case h1_10_0 => exact e0
  · intro A u hu hpu hsz hout hdeps
    have e0 : A.eval (.tmp 0) = (.pointer (some ⟨sb, 0, none⟩)) := (hout 0 (by kernel_rfl)).trans rfl
    refine ifw_none rfl ?_
    with_reducible refine shown_q (Value.pointer (some ⟨sb, 0, none⟩)) ?qq_10_1 (fun _ _ => ?qr_10_1)
    case qr_10_1 => exact (rfl : (Value.pointer (some ⟨sb, 0, none⟩)) = (Value.pointer (some ⟨sb, 0, none⟩)))
    with_reducible refine quietAt_mv (.tmp 0) (Value.pointer (some ⟨sb, 0, none⟩)) ?h0_10_1 ?h1_10_1
    case h0_10_1 => rfl
    case h1_10_1 => exact e0
  · intro A u hu hpu hsz hout hdeps
    have e14 : A.eval (.tmp 14) = (.pointer (some ⟨sb, 0, none⟩)) := by have h := depL hdeps 1 (by kernel_rfl) 14 (by kernel_rfl); exact h
    refine ifw_none rfl ?_
    with_reducible refine shown_q (Value.pointer (some ⟨sb, 0, none⟩)) ?qq_10_2 (fun _ _ => ?qr_10_2)
    case qr_10_2 => exact (rfl : (Value.pointer (some ⟨sb, 0, none⟩)) = (Value.pointer (some ⟨sb, 0, none⟩)))
    with_reducible refine quietAt_nil (.tmp 14) ?h0_10_2 ⟨sb, 0, none⟩ ?h1_10_2
    case h0_10_2 => rfl
    case h1_10_2 => exact e14
  · intro A u hu hpu hsz hout hdeps
    have e15 : A.eval (.tmp 15) = (.pointer (some ⟨sb, 0, none⟩)) := by have h := depL hdeps 2 (by kernel_rfl) 15 (by kernel_rfl); exact h
    refine ifw_none rfl ?_
    with_reducible refine shown_q (Value.pointer (some ⟨sb, 8, none⟩)) ?qq_10_3 (fun _ _ => ?qr_10_3)
    case qr_10_3 => exact (rfl : (Value.pointer (some ⟨sb, 8, none⟩)) = (Value.pointer (some ⟨sb, 8, none⟩)))
    with_reducible refine quietAt_field 78 (.tmp 15) 6 ?h0_10_3 ⟨sb, 0, none⟩ ⟨sb, 8, none⟩ ?h1_10_3 ?h2_10_3
    case h0_10_3 => rfl
    case h1_10_3 => exact e15
    case h2_10_3 => kernel_rfl
  · intro A u hu hpu hsz hout hdeps
    have e16 : A.eval (.tmp 16) = (.pointer (some ⟨sb, 8, none⟩)) := by have h := depL hdeps 3 (by kernel_rfl) 16 (by kernel_rfl); exact h
    refine ifw_none rfl ?_
    with_reducible refine shown_q (Value.int .i64 sp) ?qq_10_4 (fun _ _ => ?qr_10_4)
    case qr_10_4 => exact (rfl : (Value.int .i64 sp) = (Value.int .i64 sp))
    with_reducible refine quietAt_ld 3 (.tmp 16) (Value.pointer (some ⟨sb, 8, none⟩)) (Value.int .i64 sp) ?h0_10_4 ?h1_10_4 ?h2_10_4
    case h0_10_4 => rfl
    case h1_10_4 => exact e16
    case h2_10_4 => exact ld3 sb 8 sp u (HY1.out u hu)
  · intro A u hu hpu hsz hout hdeps
    have e3 : A.eval (.tmp 3) = (.pointer (some ⟨ob, 0, none⟩)) := (hout 3 (by kernel_rfl)).trans rfl
    refine ifw_none rfl ?_
    with_reducible refine shown_q (Value.agg [Value.int .i64 8, Value.int .i64 on, Value.string nm, Value.string to, Value.slice ba bn bc, Value.int .i64 nv, Value.int .i64 kv, Value.slice fa fn fc].toArray) ?qq_10_5 (fun _ _ => ?qr_10_5)
    case qr_10_5 => exact (rfl : (Value.agg [Value.int .i64 8, Value.int .i64 on, Value.string nm, Value.string to, Value.slice ba bn bc, Value.int .i64 nv, Value.int .i64 kv, Value.slice fa fn fc].toArray) = (Value.agg [Value.int .i64 8, Value.int .i64 on, Value.string nm, Value.string to, Value.slice ba bn bc, Value.int .i64 nv, Value.int .i64 kv, Value.slice fa fn fc].toArray))
    with_reducible refine quietAt_load 83 (.tmp 3) ?h0_10_5 ob 0 [Value.int .i64 8, Value.int .i64 on, Value.string nm, Value.string to, Value.slice ba bn bc, Value.int .i64 nv, Value.int .i64 kv, Value.slice fa fn fc] (.struct (Tryz.prog.fieldsOf 83)) ?h1_10_5 ?h2_10_5 ?h3_10_5 ?h4_10_5 ?h5_10_5
    case h0_10_5 => rfl
    case h1_10_5 => exact e3
    case h2_10_5 => exact (HB1.out.keep hu).whole
    case h3_10_5 => exact Tryz.underlying83
    case h4_10_5 => rfl
    case h5_10_5 => exact Tryz.size83
  · intro A u hu hpu hsz hout hdeps
    have e18 : A.eval (.tmp 18) = (.agg [Value.int .i64 8, .int .i64 on, .string nm, .string to, .slice ba bn bc, .int .i64 nv, .int .i64 kv, .slice fa fn fc].toArray) := by have h := depL hdeps 5 (by kernel_rfl) 18 (by kernel_rfl); exact h
    refine ifw_none rfl ?_
    with_reducible refine shown_call 21 Tryz.f21 ?h0_10_6 ?h1_10_6 ?h2_10_6 #[.tmp 18] #[83] ?h3_10_6 #[(Value.agg [Value.int .i64 8, Value.int .i64 on, Value.string nm, Value.string to, Value.slice ba bn bc, Value.int .i64 nv, Value.int .i64 kv, Value.slice fa fn fc].toArray)] ?h4_10_6 ?h5_10_6
    case h0_10_6 => exact Tryz.func21
    case h1_10_6 => kernel_rfl
    case h2_10_6 => kernel_rfl
    case h3_10_6 => rfl
    case h4_10_6 => exact map1 _ _ _ e18
    case h5_10_6 => exact H21.out u hu
  · intro A u hu hpu hsz hout hdeps
    have e17 : A.eval (.tmp 17) = (.int .i64 sp) := by have h := depL hdeps 4 (by kernel_rfl) 17 (by kernel_rfl); exact h
    have f19 : (fun v _ => v = Value.int .i64 (z : Nat)) (A.eval (.tmp 19)) u := by have h := depL hdeps 6 (by kernel_rfl) 19 (by kernel_rfl); exact h
    have e19 := (f19 : _ = Value.int .i64 (z : Nat))
    refine ifw_none rfl ?_
    with_reducible refine shown_q (Value.int .i64 (sp + (z : Nat))) ?qq_10_7 (fun _ _ => ?qr_10_7)
    case qr_10_7 => exact (rfl : (Value.int .i64 (sp + (z : Nat))) = (Value.int .i64 (sp + (z : Nat))))
    with_reducible refine quietAt_bin .add 3 (.tmp 17) (.tmp 19) 3 (Value.int .i64 sp) (Value.int .i64 (z : Nat)) (Value.int .i64 (sp + (z : Nat))) ?h0_10_7 ?h1_10_7 ?h2_10_7 ?h3_10_7
    case h0_10_7 => rfl
    case h1_10_7 => exact e17
    case h2_10_7 => exact e19
    case h3_10_7 => exact HAdd.out _ _ u
  · intro A u hu hpu hsz hout hdeps
    have e13 : A.eval (.tmp 13) = (.pointer (some ⟨sb, 0, none⟩)) := by have h := depL hdeps 0 (by kernel_rfl) 13 (by kernel_rfl); exact h
    refine ifw_none rfl ?_
    with_reducible refine shown_q (Value.pointer (some ⟨sb, 0, none⟩)) ?qq_10_8 (fun _ _ => ?qr_10_8)
    case qr_10_8 => exact (rfl : (Value.pointer (some ⟨sb, 0, none⟩)) = (Value.pointer (some ⟨sb, 0, none⟩)))
    with_reducible refine quietAt_nil (.tmp 13) ?h0_10_8 ⟨sb, 0, none⟩ ?h1_10_8
    case h0_10_8 => rfl
    case h1_10_8 => exact e13
  · intro A u hu hpu hsz hout hdeps
    have e21 : A.eval (.tmp 21) = (.pointer (some ⟨sb, 0, none⟩)) := by have h := depL hdeps 8 (by kernel_rfl) 21 (by kernel_rfl); exact h
    refine ifw_none rfl ?_
    with_reducible refine shown_q (Value.pointer (some ⟨sb, 8, none⟩)) ?qq_10_9 (fun _ _ => ?qr_10_9)
    case qr_10_9 => exact (rfl : (Value.pointer (some ⟨sb, 8, none⟩)) = (Value.pointer (some ⟨sb, 8, none⟩)))
    with_reducible refine quietAt_field 78 (.tmp 21) 6 ?h0_10_9 ⟨sb, 0, none⟩ ⟨sb, 8, none⟩ ?h1_10_9 ?h2_10_9
    case h0_10_9 => rfl
    case h1_10_9 => exact e21
    case h2_10_9 => kernel_rfl
  · intro A u8 listed hh hall
    have hA := hh.frame
    have HU := hid hh.grown
    obtain ⟨x13, hx13⟩ : ∃ x, A.eval (.tmp 13) = x := ⟨_, rfl⟩
    have f13 : (fun v _ => v = (Value.pointer (some ⟨sb, 0, none⟩))) x13 u8 := by rw [← hx13]; exact hh.got 0 _ 13 rfl rfl (hall 0 (by decide))
    obtain ⟨x14, hx14⟩ : ∃ x, A.eval (.tmp 14) = x := ⟨_, rfl⟩
    have f14 : (fun v _ => v = (Value.pointer (some ⟨sb, 0, none⟩))) x14 u8 := by rw [← hx14]; exact hh.got 1 _ 14 rfl rfl (hall 1 (by decide))
    obtain ⟨x15, hx15⟩ : ∃ x, A.eval (.tmp 15) = x := ⟨_, rfl⟩
    have f15 : (fun v _ => v = (Value.pointer (some ⟨sb, 0, none⟩))) x15 u8 := by rw [← hx15]; exact hh.got 2 _ 15 rfl rfl (hall 2 (by decide))
    obtain ⟨x16, hx16⟩ : ∃ x, A.eval (.tmp 16) = x := ⟨_, rfl⟩
    have f16 : (fun v _ => v = (Value.pointer (some ⟨sb, 8, none⟩))) x16 u8 := by rw [← hx16]; exact hh.got 3 _ 16 rfl rfl (hall 3 (by decide))
    obtain ⟨x17, hx17⟩ : ∃ x, A.eval (.tmp 17) = x := ⟨_, rfl⟩
    have f17 : (fun v _ => v = (Value.int .i64 sp)) x17 u8 := by rw [← hx17]; exact hh.got 4 _ 17 rfl rfl (hall 4 (by decide))
    obtain ⟨x18, hx18⟩ : ∃ x, A.eval (.tmp 18) = x := ⟨_, rfl⟩
    have f18 : (fun v _ => v = (Value.agg [Value.int .i64 8, Value.int .i64 on, Value.string nm, Value.string to, Value.slice ba bn bc, Value.int .i64 nv, Value.int .i64 kv, Value.slice fa fn fc].toArray)) x18 u8 := by rw [← hx18]; exact hh.got 5 _ 18 rfl rfl (hall 5 (by decide))
    obtain ⟨x19, hx19⟩ : ∃ x, A.eval (.tmp 19) = x := ⟨_, rfl⟩
    have f19 : (fun v _ => v = Value.int .i64 (z : Nat)) x19 u8 := by rw [← hx19]; exact hh.got 6 _ 19 rfl rfl (hall 6 (by decide))
    obtain ⟨x20, hx20⟩ : ∃ x, A.eval (.tmp 20) = x := ⟨_, rfl⟩
    have f20 : (fun v _ => v = (Value.int .i64 (sp + (z : Nat)))) x20 u8 := by rw [← hx20]; exact hh.got 7 _ 20 rfl rfl (hall 7 (by decide))
    obtain ⟨x21, hx21⟩ : ∃ x, A.eval (.tmp 21) = x := ⟨_, rfl⟩
    have f21 : (fun v _ => v = (Value.pointer (some ⟨sb, 0, none⟩))) x21 u8 := by rw [← hx21]; exact hh.got 8 _ 21 rfl rfl (hall 8 (by decide))
    obtain ⟨x22, hx22⟩ : ∃ x, A.eval (.tmp 22) = x := ⟨_, rfl⟩
    have f22 : (fun v _ => v = (Value.pointer (some ⟨sb, 8, none⟩))) x22 u8 := by rw [← hx22]; exact hh.got 9 _ 22 rfl rfl (hall 9 (by decide))
    dsimp only [wrote, List.foldl] at hA
    rw [hx13, hx14, hx15, hx16, hx17, hx18, hx19, hx20, hx21, hx22] at hA
    clear hh hall hx13 hx14 hx15 hx16 hx17 hx18 hx19 hx20 hx21 hx22
    replace f13 := (f13 : x13 = (.pointer (some ⟨sb, 0, none⟩)))
    subst f13
    replace f14 := (f14 : x14 = (.pointer (some ⟨sb, 0, none⟩)))
    subst f14
    replace f15 := (f15 : x15 = (.pointer (some ⟨sb, 0, none⟩)))
    subst f15
    replace f16 := (f16 : x16 = (.pointer (some ⟨sb, 8, none⟩)))
    subst f16
    replace f17 := (f17 : x17 = (.int .i64 sp))
    subst f17
    replace f18 := (f18 : x18 = (.agg [Value.int .i64 8, .int .i64 on, .string nm, .string to, .slice ba bn bc, .int .i64 nv, .int .i64 kv, .slice fa fn fc].toArray))
    subst f18
    have e19 := (f19 : _ = Value.int .i64 (z : Nat))
    subst e19
    replace f20 := (f20 : x20 = (.int .i64 (sp + (z : Nat))))
    subst f20
    replace f21 := (f21 : x21 = (.pointer (some ⟨sb, 0, none⟩)))
    subst f21
    replace f22 := (f22 : x22 = (.pointer (some ⟨sb, 8, none⟩)))
    subst f22
    subst hA
    show wpList _ _ _ [_] _ _
    simp only [Act.put, List.setIfInBounds_toArray, List.set_cons_succ, List.set_cons_zero]
    have hM8 : Mid w sb bk sk ob [Value.int .i64 8, .int .i64 on, .string nm, .string to, .slice ba bn bc, .int .i64 nv, .int .i64 kv, .slice fa fn fc] b c A (fun j => (A j).sr) tn sp k A1 D1 false false u8 := (mid_box HS.out HOB.out HG1.out HB1.out HZ1.out).keep HU.out
    obtain ⟨col8, hs8, ho8⟩ := hM8
    have hb8 := hs8.s.blk
    have y8 : u8.cell? ⟨sb, 8, none⟩ = some (.int .i64 sp) := hb8.cell 8
    have f8 := hb8.frozen 8
    have hl8 := hb8.lt
    have hM9 : Mid w sb bk sk ob [Value.int .i64 8, .int .i64 on, .string nm, .string to, .slice ba bn bc, .int .i64 nv, .int .i64 kv, .slice fa fn fc] b c A (fun j => (A j).sr) tn (sp + (z : Nat)) k A1 D1 false false (u8.setCell ⟨sb, 8, none⟩ (.int .i64 (sp + (z : Nat)))) := mid_store hs8 ho8 (sp + (z : Nat))
    have y9 : (u8.setCell ⟨sb, 8, none⟩ (.int .i64 (sp + (z : Nat)))).cell? ⟨sb, 8, none⟩ = some (.int .i64 (sp + (z : Nat))) := (hb8.set 8 (.int .i64 (sp + (z : Nat)))).cell 8
    obtain ⟨u9, hu9⟩ : ∃ x, u8.setCell ⟨sb, 8, none⟩ (.int .i64 (sp + (z : Nat))) = x := ⟨_, rfl⟩
    rw [hu9] at hM9 y9
    have HM9 := hid hM9
    clear hs8 ho8 hb8 hM9 HS HY1 H21 HAdd HB1 HG1 HZ1 HOB HU
    obtain ⟨d0, d2⟩ := mid_dw HM9.out hk
    obtain ⟨bK, hbK⟩ : ∃ x, b k = x := ⟨_, rfl⟩
    obtain ⟨cK, hcK⟩ : ∃ x, c k = x := ⟨_, rfl⟩
    have HBK := hid hbK
    have HCK := hid hcK
    rw [hbK] at d0
    rw [hcK] at d2
    clear hbK hcK
    have c0 : u9.cell? ⟨ob, 0, none⟩ = some (.int .i64 8) := HM9.out.cell 0
    have c2 : u9.cell? ⟨ob, 2, none⟩ = some (.string nm) := HM9.out.cell 2
    have c3 : u9.cell? ⟨ob, 3, none⟩ = some (.string to) := HM9.out.cell 3
    have c4 : u9.cell? ⟨ob, 4, none⟩ = some (.slice ba bn bc) := HM9.out.cell 4
    have c5 : u9.cell? ⟨ob, 5, none⟩ = some (.int .i64 nv) := HM9.out.cell 5
    have c6 : u9.cell? ⟨ob, 6, none⟩ = some (.int .i64 kv) := HM9.out.cell 6
    have c7 : u9.cell? ⟨ob, 7, none⟩ = some (.slice fa fn fc) := HM9.out.cell 7
    have HP2 := HP.out ob
    rw [HBK.out] at HP2
    have HP3 := hid HP2
    have HR2 := HR.out ob
    rw [HCK.out] at HR2
    have HR3 := hid HR2
    clear HP HR HP2 HR2 HBK HCK
    go_wp2_with (first
      | (go_at_call 14; (with_reducible refine (HP3.out _ _ HM9.out).mono ?_); rintro e v1 ⟨rfl, hm⟩; replace HM9 := hid hm; clear hm c5 c6; have c5 : v1.cell? ⟨ob, 5, none⟩ = some (.int .i64 nv) := HM9.out.cell 5; have c6 : v1.cell? ⟨ob, 6, none⟩ = some (.int .i64 kv) := HM9.out.cell 6)
      | (go_at_call 33; (with_reducible refine (HR3.out _ _ HM9.out).mono ?_); rintro e v2 ⟨rfl, hm⟩; replace HM9 := hid hm; clear hm))
    go_ret
    exact ⟨rfl, _, HM9.out⟩
set_option maxRecDepth 100000 in
set_option maxHeartbeats 8000000 in
theorem plays_on {on : Int} {nm to : ByteArray} {ba fa : Option Addr} {bn bc fn fc z k : Nat} {nv kv : Int} (h : Stg w u col sb bk sk b c A (fun j => (A j).sr) tn sp) (hk : k < 2) (hand : bits .and .i64 on 1 = (k : Int)) (hsp : 0 ≤ sp ∧ sp + (z : Nat) < 9223372036854775807) (hle : ¬ 1048576 < sp + (z : Nat))
    (H21 : Hid (∀ u', u.grownBy u' none → Calls Tryz.prog 21 #[.agg [Value.int .i64 9, .int .i64 on, .string nm, .string to, .slice ba bn bc, .int .i64 nv, .int .i64 kv, .slice fa fn fc].toArray] u' fun e w' => ∃ v, e = .returned v ∧ u'.grownBy w' none ∧ v = Value.int .i64 (z : Nat)))
    (HP : Hid (∀ (ob : Nat) (r : Bool) (u9 : World), Mid w sb bk sk ob [Value.int .i64 9, .int .i64 on, .string nm, .string to, .slice ba bn bc, .int .i64 nv, .int .i64 kv, .slice fa fn fc] b c A (fun j => (A j).sr) tn (sp + (z : Nat)) k A1 D1 false r u9 → Calls Tryz.prog 16 #[.pointer (some ⟨b k, 0, none⟩)] u9 fun e u' => e = .returned (.tuple #[]) ∧ Mid w sb bk sk ob [Value.int .i64 9, .int .i64 on, .string nm, .string to, .slice ba bn bc, .int .i64 nv, .int .i64 kv, .slice fa fn fc] b c A (fun j => (A j).sr) tn (sp + (z : Nat)) k A1 D1 true r u'))
    (HR : Hid (∀ (ob : Nat) (p : Bool) (u9 : World), Mid w sb bk sk ob [Value.int .i64 9, .int .i64 on, .string nm, .string to, .slice ba bn bc, .int .i64 nv, .int .i64 kv, .slice fa fn fc] b c A (fun j => (A j).sr) tn (sp + (z : Nat)) k A1 D1 p false u9 → Calls Tryz.prog 34 #[.pointer (some ⟨c k, 0, none⟩)] u9 fun e u' => e = .returned (.tuple #[]) ∧ Mid w sb bk sk ob [Value.int .i64 9, .int .i64 on, .string nm, .string to, .slice ba bn bc, .int .i64 nv, .int .i64 kv, .slice fa fn fc] b c A (fun j => (A j).sr) tn (sp + (z : Nat)) k A1 D1 p true u')) :
    Calls Tryz.prog 8 #[.pointer (some ⟨sb, 0, none⟩), .agg [Value.int .i64 9, .int .i64 on, .string nm, .string to, .slice ba bn bc, .int .i64 nv, .int .i64 kv, .slice fa fn fc].toArray] u fun e u' => e = .returned (.bool true) ∧ ∃ ob, Mid w sb bk sk ob [Value.int .i64 9, .int .i64 on, .string nm, .string to, .slice ba bn bc, .int .i64 nv, .int .i64 kv, .slice fa fn fc] b c A (fun j => (A j).sr) tn (sp + (z : Nat)) k A1 D1 true true u' := by
  have hk' : (k : Int) < 2 := by omega
  have HS := hid h
  have HAdd : Hid (∀ (x y : Operand) (u : World), (do eqGuard .add 3 x y (.int .i64 sp) (.int .i64 (z : Nat)); binOp .add 3 (.int .i64 sp) (.int .i64 (z : Nat)) : Sem Value).run Tryz.prog u = .ok (.int .i64 (sp + (z : Nat))) u) := hid (fun x y u => by have q := wrap_add hsp; go_simp)
  clear h hsp
  go_enter Tryz.func8, Tryz.ntmps8
  go_upto_region 2 with ((with_reducible refine wpList_box_row (by with_unfolding_all rfl) 83 _ (by with_unfolding_all rfl) [Value.int .i64 9, .int .i64 on, .string nm, .string to, .slice ba bn bc, .int .i64 nv, .int .i64 kv, .slice fa fn fc] (by with_unfolding_all rfl) ?_); intro w1 B1 s1 g1; have HB1 := hid B1; have HG1 := hid g1; have HZ1 := hid s1; have c1 := B1.cell 1; clear B1 s1 g1)
  clear c1
  obtain ⟨ob, hob⟩ : ∃ x, u.heap.size = x := ⟨_, rfl⟩
  have HOB := hid hob
  rw [hob] at HB1 HZ1 ⊢
  clear hob
  replace H21 : Hid (∀ u', w1.grownBy u' none → Calls Tryz.prog 21 #[.agg [Value.int .i64 9, .int .i64 on, .string nm, .string to, .slice ba bn bc, .int .i64 nv, .int .i64 kv, .slice fa fn fc].toArray] u' fun e w' => ∃ v, e = .returned v ∧ u'.grownBy w' none ∧ v = Value.int .i64 (z : Nat)) := hid (fun u' hu => H21.out u' (gtrans HG1.out hu))
  have HY1 : Hid (∀ u', w1.grownBy u' none → u'.cell? ⟨sb, 8, none⟩ = some (.int .i64 sp)) := hid (fun u' hu => (HS.out.s.blk.keep (gtrans HG1.out hu)).cell 8)
  refine wp_region_listX (by kernel_rfl) [fun v _ => v = (Value.pointer (some ⟨sb, 0, none⟩)), fun v _ => v = (Value.pointer (some ⟨sb, 0, none⟩)), fun v _ => v = (Value.pointer (some ⟨sb, 0, none⟩)), fun v _ => v = (Value.pointer (some ⟨sb, 8, none⟩)), fun v _ => v = (Value.int .i64 sp), fun v _ => v = (Value.agg [Value.int .i64 9, Value.int .i64 on, Value.string nm, Value.string to, Value.slice ba bn bc, Value.int .i64 nv, Value.int .i64 kv, Value.slice fa fn fc].toArray), fun v _ => v = Value.int .i64 (z : Nat), fun v _ => v = (Value.int .i64 (sp + (z : Nat))), fun v _ => v = (Value.pointer (some ⟨sb, 0, none⟩)), fun v _ => v = (Value.pointer (some ⟨sb, 8, none⟩))] (none) (fun _ => none) 10 (by kernel_rfl) (by kernel_rfl) (by kernel_rfl) (by kernel_rfl) (by decide) noRow_one (fun _ => .inl rfl) ⟨fun i v u u' hki h hg => h, fun i v u u' hki h hg => h, fun i v u u' hki h hg => h, fun i v u u' hki h hg => h, fun i v u u' hki h hg => h, fun i v u u' hki h hg => h, fun i v u u' hki h hg => h, fun i v u u' hki h hg => h, fun i v u u' hki h hg => h, fun i v u u' hki h hg => h, trivial⟩ ⟨?_, ?_, ?_, ?_, ?_, ?_, ?_, ?_, ?_, ?_, trivial⟩ ?_
  · intro A u hu hpu hsz hout hdeps
    have e0 : A.eval (.tmp 0) = (.pointer (some ⟨sb, 0, none⟩)) := (hout 0 (by kernel_rfl)).trans rfl
    refine ifw_none rfl ?_
    with_reducible refine shown_q (Value.pointer (some ⟨sb, 0, none⟩)) ?qq_11_0 (fun _ _ => ?qr_11_0)
    case qr_11_0 => exact (rfl : (Value.pointer (some ⟨sb, 0, none⟩)) = (Value.pointer (some ⟨sb, 0, none⟩)))
    with_reducible refine quietAt_mv (.tmp 0) (Value.pointer (some ⟨sb, 0, none⟩)) ?h0_11_0 ?h1_11_0
    case h0_11_0 => rfl
    case h1_11_0 => exact e0
  · intro A u hu hpu hsz hout hdeps
    have e0 : A.eval (.tmp 0) = (.pointer (some ⟨sb, 0, none⟩)) := (hout 0 (by kernel_rfl)).trans rfl
    refine ifw_none rfl ?_
    with_reducible refine shown_q (Value.pointer (some ⟨sb, 0, none⟩)) ?qq_11_1 (fun _ _ => ?qr_11_1)
    case qr_11_1 => exact (rfl : (Value.pointer (some ⟨sb, 0, none⟩)) = (Value.pointer (some ⟨sb, 0, none⟩)))
    with_reducible refine quietAt_mv (.tmp 0) (Value.pointer (some ⟨sb, 0, none⟩)) ?h0_11_1 ?h1_11_1
    case h0_11_1 => rfl
    case h1_11_1 => exact e0
  · intro A u hu hpu hsz hout hdeps
    have e14 : A.eval (.tmp 14) = (.pointer (some ⟨sb, 0, none⟩)) := by have h := depL hdeps 1 (by kernel_rfl) 14 (by kernel_rfl); exact h
    refine ifw_none rfl ?_
    with_reducible refine shown_q (Value.pointer (some ⟨sb, 0, none⟩)) ?qq_11_2 (fun _ _ => ?qr_11_2)
    case qr_11_2 => exact (rfl : (Value.pointer (some ⟨sb, 0, none⟩)) = (Value.pointer (some ⟨sb, 0, none⟩)))
    with_reducible refine quietAt_nil (.tmp 14) ?h0_11_2 ⟨sb, 0, none⟩ ?h1_11_2
    case h0_11_2 => rfl
    case h1_11_2 => exact e14
  · intro A u hu hpu hsz hout hdeps
    have e15 : A.eval (.tmp 15) = (.pointer (some ⟨sb, 0, none⟩)) := by have h := depL hdeps 2 (by kernel_rfl) 15 (by kernel_rfl); exact h
    refine ifw_none rfl ?_
    with_reducible refine shown_q (Value.pointer (some ⟨sb, 8, none⟩)) ?qq_11_3 (fun _ _ => ?qr_11_3)
    case qr_11_3 => exact (rfl : (Value.pointer (some ⟨sb, 8, none⟩)) = (Value.pointer (some ⟨sb, 8, none⟩)))
    with_reducible refine quietAt_field 78 (.tmp 15) 6 ?h0_11_3 ⟨sb, 0, none⟩ ⟨sb, 8, none⟩ ?h1_11_3 ?h2_11_3
    case h0_11_3 => rfl
    case h1_11_3 => exact e15
    case h2_11_3 => kernel_rfl
  · intro A u hu hpu hsz hout hdeps
    have e16 : A.eval (.tmp 16) = (.pointer (some ⟨sb, 8, none⟩)) := by have h := depL hdeps 3 (by kernel_rfl) 16 (by kernel_rfl); exact h
    refine ifw_none rfl ?_
    with_reducible refine shown_q (Value.int .i64 sp) ?qq_11_4 (fun _ _ => ?qr_11_4)
    case qr_11_4 => exact (rfl : (Value.int .i64 sp) = (Value.int .i64 sp))
    with_reducible refine quietAt_ld 3 (.tmp 16) (Value.pointer (some ⟨sb, 8, none⟩)) (Value.int .i64 sp) ?h0_11_4 ?h1_11_4 ?h2_11_4
    case h0_11_4 => rfl
    case h1_11_4 => exact e16
    case h2_11_4 => exact ld3 sb 8 sp u (HY1.out u hu)
  · intro A u hu hpu hsz hout hdeps
    have e3 : A.eval (.tmp 3) = (.pointer (some ⟨ob, 0, none⟩)) := (hout 3 (by kernel_rfl)).trans rfl
    refine ifw_none rfl ?_
    with_reducible refine shown_q (Value.agg [Value.int .i64 9, Value.int .i64 on, Value.string nm, Value.string to, Value.slice ba bn bc, Value.int .i64 nv, Value.int .i64 kv, Value.slice fa fn fc].toArray) ?qq_11_5 (fun _ _ => ?qr_11_5)
    case qr_11_5 => exact (rfl : (Value.agg [Value.int .i64 9, Value.int .i64 on, Value.string nm, Value.string to, Value.slice ba bn bc, Value.int .i64 nv, Value.int .i64 kv, Value.slice fa fn fc].toArray) = (Value.agg [Value.int .i64 9, Value.int .i64 on, Value.string nm, Value.string to, Value.slice ba bn bc, Value.int .i64 nv, Value.int .i64 kv, Value.slice fa fn fc].toArray))
    with_reducible refine quietAt_load 83 (.tmp 3) ?h0_11_5 ob 0 [Value.int .i64 9, Value.int .i64 on, Value.string nm, Value.string to, Value.slice ba bn bc, Value.int .i64 nv, Value.int .i64 kv, Value.slice fa fn fc] (.struct (Tryz.prog.fieldsOf 83)) ?h1_11_5 ?h2_11_5 ?h3_11_5 ?h4_11_5 ?h5_11_5
    case h0_11_5 => rfl
    case h1_11_5 => exact e3
    case h2_11_5 => exact (HB1.out.keep hu).whole
    case h3_11_5 => exact Tryz.underlying83
    case h4_11_5 => rfl
    case h5_11_5 => exact Tryz.size83
  · intro A u hu hpu hsz hout hdeps
    have e18 : A.eval (.tmp 18) = (.agg [Value.int .i64 9, .int .i64 on, .string nm, .string to, .slice ba bn bc, .int .i64 nv, .int .i64 kv, .slice fa fn fc].toArray) := by have h := depL hdeps 5 (by kernel_rfl) 18 (by kernel_rfl); exact h
    refine ifw_none rfl ?_
    with_reducible refine shown_call 21 Tryz.f21 ?h0_11_6 ?h1_11_6 ?h2_11_6 #[.tmp 18] #[83] ?h3_11_6 #[(Value.agg [Value.int .i64 9, Value.int .i64 on, Value.string nm, Value.string to, Value.slice ba bn bc, Value.int .i64 nv, Value.int .i64 kv, Value.slice fa fn fc].toArray)] ?h4_11_6 ?h5_11_6
    case h0_11_6 => exact Tryz.func21
    case h1_11_6 => kernel_rfl
    case h2_11_6 => kernel_rfl
    case h3_11_6 => rfl
    case h4_11_6 => exact map1 _ _ _ e18
    case h5_11_6 => exact H21.out u hu
  · intro A u hu hpu hsz hout hdeps
    have e17 : A.eval (.tmp 17) = (.int .i64 sp) := by have h := depL hdeps 4 (by kernel_rfl) 17 (by kernel_rfl); exact h
    have f19 : (fun v _ => v = Value.int .i64 (z : Nat)) (A.eval (.tmp 19)) u := by have h := depL hdeps 6 (by kernel_rfl) 19 (by kernel_rfl); exact h
    have e19 := (f19 : _ = Value.int .i64 (z : Nat))
    refine ifw_none rfl ?_
    with_reducible refine shown_q (Value.int .i64 (sp + (z : Nat))) ?qq_11_7 (fun _ _ => ?qr_11_7)
    case qr_11_7 => exact (rfl : (Value.int .i64 (sp + (z : Nat))) = (Value.int .i64 (sp + (z : Nat))))
    with_reducible refine quietAt_bin .add 3 (.tmp 17) (.tmp 19) 3 (Value.int .i64 sp) (Value.int .i64 (z : Nat)) (Value.int .i64 (sp + (z : Nat))) ?h0_11_7 ?h1_11_7 ?h2_11_7 ?h3_11_7
    case h0_11_7 => rfl
    case h1_11_7 => exact e17
    case h2_11_7 => exact e19
    case h3_11_7 => exact HAdd.out _ _ u
  · intro A u hu hpu hsz hout hdeps
    have e13 : A.eval (.tmp 13) = (.pointer (some ⟨sb, 0, none⟩)) := by have h := depL hdeps 0 (by kernel_rfl) 13 (by kernel_rfl); exact h
    refine ifw_none rfl ?_
    with_reducible refine shown_q (Value.pointer (some ⟨sb, 0, none⟩)) ?qq_11_8 (fun _ _ => ?qr_11_8)
    case qr_11_8 => exact (rfl : (Value.pointer (some ⟨sb, 0, none⟩)) = (Value.pointer (some ⟨sb, 0, none⟩)))
    with_reducible refine quietAt_nil (.tmp 13) ?h0_11_8 ⟨sb, 0, none⟩ ?h1_11_8
    case h0_11_8 => rfl
    case h1_11_8 => exact e13
  · intro A u hu hpu hsz hout hdeps
    have e21 : A.eval (.tmp 21) = (.pointer (some ⟨sb, 0, none⟩)) := by have h := depL hdeps 8 (by kernel_rfl) 21 (by kernel_rfl); exact h
    refine ifw_none rfl ?_
    with_reducible refine shown_q (Value.pointer (some ⟨sb, 8, none⟩)) ?qq_11_9 (fun _ _ => ?qr_11_9)
    case qr_11_9 => exact (rfl : (Value.pointer (some ⟨sb, 8, none⟩)) = (Value.pointer (some ⟨sb, 8, none⟩)))
    with_reducible refine quietAt_field 78 (.tmp 21) 6 ?h0_11_9 ⟨sb, 0, none⟩ ⟨sb, 8, none⟩ ?h1_11_9 ?h2_11_9
    case h0_11_9 => rfl
    case h1_11_9 => exact e21
    case h2_11_9 => kernel_rfl
  · intro A u8 listed hh hall
    have hA := hh.frame
    have HU := hid hh.grown
    obtain ⟨x13, hx13⟩ : ∃ x, A.eval (.tmp 13) = x := ⟨_, rfl⟩
    have f13 : (fun v _ => v = (Value.pointer (some ⟨sb, 0, none⟩))) x13 u8 := by rw [← hx13]; exact hh.got 0 _ 13 rfl rfl (hall 0 (by decide))
    obtain ⟨x14, hx14⟩ : ∃ x, A.eval (.tmp 14) = x := ⟨_, rfl⟩
    have f14 : (fun v _ => v = (Value.pointer (some ⟨sb, 0, none⟩))) x14 u8 := by rw [← hx14]; exact hh.got 1 _ 14 rfl rfl (hall 1 (by decide))
    obtain ⟨x15, hx15⟩ : ∃ x, A.eval (.tmp 15) = x := ⟨_, rfl⟩
    have f15 : (fun v _ => v = (Value.pointer (some ⟨sb, 0, none⟩))) x15 u8 := by rw [← hx15]; exact hh.got 2 _ 15 rfl rfl (hall 2 (by decide))
    obtain ⟨x16, hx16⟩ : ∃ x, A.eval (.tmp 16) = x := ⟨_, rfl⟩
    have f16 : (fun v _ => v = (Value.pointer (some ⟨sb, 8, none⟩))) x16 u8 := by rw [← hx16]; exact hh.got 3 _ 16 rfl rfl (hall 3 (by decide))
    obtain ⟨x17, hx17⟩ : ∃ x, A.eval (.tmp 17) = x := ⟨_, rfl⟩
    have f17 : (fun v _ => v = (Value.int .i64 sp)) x17 u8 := by rw [← hx17]; exact hh.got 4 _ 17 rfl rfl (hall 4 (by decide))
    obtain ⟨x18, hx18⟩ : ∃ x, A.eval (.tmp 18) = x := ⟨_, rfl⟩
    have f18 : (fun v _ => v = (Value.agg [Value.int .i64 9, Value.int .i64 on, Value.string nm, Value.string to, Value.slice ba bn bc, Value.int .i64 nv, Value.int .i64 kv, Value.slice fa fn fc].toArray)) x18 u8 := by rw [← hx18]; exact hh.got 5 _ 18 rfl rfl (hall 5 (by decide))
    obtain ⟨x19, hx19⟩ : ∃ x, A.eval (.tmp 19) = x := ⟨_, rfl⟩
    have f19 : (fun v _ => v = Value.int .i64 (z : Nat)) x19 u8 := by rw [← hx19]; exact hh.got 6 _ 19 rfl rfl (hall 6 (by decide))
    obtain ⟨x20, hx20⟩ : ∃ x, A.eval (.tmp 20) = x := ⟨_, rfl⟩
    have f20 : (fun v _ => v = (Value.int .i64 (sp + (z : Nat)))) x20 u8 := by rw [← hx20]; exact hh.got 7 _ 20 rfl rfl (hall 7 (by decide))
    obtain ⟨x21, hx21⟩ : ∃ x, A.eval (.tmp 21) = x := ⟨_, rfl⟩
    have f21 : (fun v _ => v = (Value.pointer (some ⟨sb, 0, none⟩))) x21 u8 := by rw [← hx21]; exact hh.got 8 _ 21 rfl rfl (hall 8 (by decide))
    obtain ⟨x22, hx22⟩ : ∃ x, A.eval (.tmp 22) = x := ⟨_, rfl⟩
    have f22 : (fun v _ => v = (Value.pointer (some ⟨sb, 8, none⟩))) x22 u8 := by rw [← hx22]; exact hh.got 9 _ 22 rfl rfl (hall 9 (by decide))
    dsimp only [wrote, List.foldl] at hA
    rw [hx13, hx14, hx15, hx16, hx17, hx18, hx19, hx20, hx21, hx22] at hA
    clear hh hall hx13 hx14 hx15 hx16 hx17 hx18 hx19 hx20 hx21 hx22
    replace f13 := (f13 : x13 = (.pointer (some ⟨sb, 0, none⟩)))
    subst f13
    replace f14 := (f14 : x14 = (.pointer (some ⟨sb, 0, none⟩)))
    subst f14
    replace f15 := (f15 : x15 = (.pointer (some ⟨sb, 0, none⟩)))
    subst f15
    replace f16 := (f16 : x16 = (.pointer (some ⟨sb, 8, none⟩)))
    subst f16
    replace f17 := (f17 : x17 = (.int .i64 sp))
    subst f17
    replace f18 := (f18 : x18 = (.agg [Value.int .i64 9, .int .i64 on, .string nm, .string to, .slice ba bn bc, .int .i64 nv, .int .i64 kv, .slice fa fn fc].toArray))
    subst f18
    have e19 := (f19 : _ = Value.int .i64 (z : Nat))
    subst e19
    replace f20 := (f20 : x20 = (.int .i64 (sp + (z : Nat))))
    subst f20
    replace f21 := (f21 : x21 = (.pointer (some ⟨sb, 0, none⟩)))
    subst f21
    replace f22 := (f22 : x22 = (.pointer (some ⟨sb, 8, none⟩)))
    subst f22
    subst hA
    show wpList _ _ _ [_] _ _
    simp only [Act.put, List.setIfInBounds_toArray, List.set_cons_succ, List.set_cons_zero]
    have hM8 : Mid w sb bk sk ob [Value.int .i64 9, .int .i64 on, .string nm, .string to, .slice ba bn bc, .int .i64 nv, .int .i64 kv, .slice fa fn fc] b c A (fun j => (A j).sr) tn sp k A1 D1 false false u8 := (mid_box HS.out HOB.out HG1.out HB1.out HZ1.out).keep HU.out
    obtain ⟨col8, hs8, ho8⟩ := hM8
    have hb8 := hs8.s.blk
    have y8 : u8.cell? ⟨sb, 8, none⟩ = some (.int .i64 sp) := hb8.cell 8
    have f8 := hb8.frozen 8
    have hl8 := hb8.lt
    have hM9 : Mid w sb bk sk ob [Value.int .i64 9, .int .i64 on, .string nm, .string to, .slice ba bn bc, .int .i64 nv, .int .i64 kv, .slice fa fn fc] b c A (fun j => (A j).sr) tn (sp + (z : Nat)) k A1 D1 false false (u8.setCell ⟨sb, 8, none⟩ (.int .i64 (sp + (z : Nat)))) := mid_store hs8 ho8 (sp + (z : Nat))
    have y9 : (u8.setCell ⟨sb, 8, none⟩ (.int .i64 (sp + (z : Nat)))).cell? ⟨sb, 8, none⟩ = some (.int .i64 (sp + (z : Nat))) := (hb8.set 8 (.int .i64 (sp + (z : Nat)))).cell 8
    obtain ⟨u9, hu9⟩ : ∃ x, u8.setCell ⟨sb, 8, none⟩ (.int .i64 (sp + (z : Nat))) = x := ⟨_, rfl⟩
    rw [hu9] at hM9 y9
    have HM9 := hid hM9
    clear hs8 ho8 hb8 hM9 HS HY1 H21 HAdd HB1 HG1 HZ1 HOB HU
    obtain ⟨d0, d2⟩ := mid_dw HM9.out hk
    obtain ⟨bK, hbK⟩ : ∃ x, b k = x := ⟨_, rfl⟩
    obtain ⟨cK, hcK⟩ : ∃ x, c k = x := ⟨_, rfl⟩
    have HBK := hid hbK
    have HCK := hid hcK
    rw [hbK] at d0
    rw [hcK] at d2
    clear hbK hcK
    have c0 : u9.cell? ⟨ob, 0, none⟩ = some (.int .i64 9) := HM9.out.cell 0
    have c2 : u9.cell? ⟨ob, 2, none⟩ = some (.string nm) := HM9.out.cell 2
    have c3 : u9.cell? ⟨ob, 3, none⟩ = some (.string to) := HM9.out.cell 3
    have c4 : u9.cell? ⟨ob, 4, none⟩ = some (.slice ba bn bc) := HM9.out.cell 4
    have c5 : u9.cell? ⟨ob, 5, none⟩ = some (.int .i64 nv) := HM9.out.cell 5
    have c6 : u9.cell? ⟨ob, 6, none⟩ = some (.int .i64 kv) := HM9.out.cell 6
    have c7 : u9.cell? ⟨ob, 7, none⟩ = some (.slice fa fn fc) := HM9.out.cell 7
    have HP2 := HP.out ob
    rw [HBK.out] at HP2
    have HP3 := hid HP2
    have HR2 := HR.out ob
    rw [HCK.out] at HR2
    have HR3 := hid HR2
    clear HP HR HP2 HR2 HBK HCK
    go_wp2_with (first
      | (go_at_call 16; (with_reducible refine (HP3.out _ _ HM9.out).mono ?_); rintro e v1 ⟨rfl, hm⟩; replace HM9 := hid hm; clear hm)
      | (go_at_call 34; (with_reducible refine (HR3.out _ _ HM9.out).mono ?_); rintro e v2 ⟨rfl, hm⟩; replace HM9 := hid hm; clear hm))
    go_ret
    exact ⟨rfl, _, HM9.out⟩
end Go.Proofs.YtlgjmdianmijeaaGreat
