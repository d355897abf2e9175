/- plays. -/
import Derived.Test.YtlgjmdianmijeaaGreatTa
namespace Go.Proofs.YtlgjmdianmijeaaGreat
open Go Go.RowKit Go.MapKept Go.MuLone
open Go.RowKit (wrap32 wrap64)

variable {w u u' : World} {col col' : Nat → Nat} {b c : Nat → Nat} {A D : Nat → Ab} {A' D' A1 D1 : Ab} {sb bk sk : Nat} {tn sp M : Int}
set_option maxRecDepth 100000 in
set_option maxHeartbeats 8000000 in
theorem plays_names {on : Int} {nm to : ByteArray} {ba fa : Option Addr} {bn bc fn fc z k : Nat} {nv kv : Int} (h : Stg w u col sb bk sk b c A (fun j => (A j).sr) tn sp) (hk : k < 2) (hand : bits .and .i64 on 1 = (k : Int)) (hsp : 0 ≤ sp ∧ sp + (z : Nat) < 9223372036854775807) (hle : ¬ 1048576 < sp + (z : Nat))
    (H21 : Hid (∀ u', u.grownBy u' none → Calls Tryz.prog 21 #[.agg [Value.int .i64 6, .int .i64 on, .string nm, .string to, .slice ba bn bc, .int .i64 nv, .int .i64 kv, .slice fa fn fc].toArray] u' fun e w' => ∃ v, e = .returned v ∧ u'.grownBy w' none ∧ v = Value.int .i64 (z : Nat)))
    (HX : Hid (∀ ob u9, Mid w sb bk sk ob [Value.int .i64 6, .int .i64 on, .string nm, .string to, .slice ba bn bc, .int .i64 nv, .int .i64 kv, .slice fa fn fc] b c A (fun j => (A j).sr) tn (sp + (z : Nat)) k (A k) (A k).sr false false u9 → Calls Tryz.prog 32 #[.pointer (some ⟨sb, 0, none⟩), .int .i64 (k : Nat)] u9 fun e u' => e = .returned (.bool true) ∧ PEnd w sb bk sk tn (sp + (z : Nat)) M u')) :
    Calls Tryz.prog 8 #[.pointer (some ⟨sb, 0, none⟩), .agg [Value.int .i64 6, .int .i64 on, .string nm, .string to, .slice ba bn bc, .int .i64 nv, .int .i64 kv, .slice fa fn fc].toArray] u fun e u' => e = .returned (.bool true) ∧ PEnd w sb bk sk tn (sp + (z : Nat)) M u' := by
  have hk' : (k : Int) < 2 := by omega
  have HS := hid h
  have HAdd : Hid (∀ (x y : Operand) (u : World), (do eqGuard .add 3 x y (.int .i64 sp) (.int .i64 (z : Nat)); binOp .add 3 (.int .i64 sp) (.int .i64 (z : Nat)) : Sem Value).run Tryz.prog u = .ok (.int .i64 (sp + (z : Nat))) u) := hid (fun x y u => by have q := wrap_add hsp; go_simp)
  clear h hsp
  go_enter Tryz.func8, Tryz.ntmps8
  go_upto_region 2 with ((with_reducible refine wpList_box_row (by with_unfolding_all rfl) 83 _ (by with_unfolding_all rfl) [Value.int .i64 6, .int .i64 on, .string nm, .string to, .slice ba bn bc, .int .i64 nv, .int .i64 kv, .slice fa fn fc] (by with_unfolding_all rfl) ?_); intro w1 B1 s1 g1; have HB1 := hid B1; have HG1 := hid g1; have HZ1 := hid s1; have c1 := B1.cell 1; clear B1 s1 g1)
  clear c1
  obtain ⟨ob, hob⟩ : ∃ x, u.heap.size = x := ⟨_, rfl⟩
  have HOB := hid hob
  rw [hob] at HB1 HZ1 ⊢
  clear hob
  replace H21 : Hid (∀ u', w1.grownBy u' none → Calls Tryz.prog 21 #[.agg [Value.int .i64 6, .int .i64 on, .string nm, .string to, .slice ba bn bc, .int .i64 nv, .int .i64 kv, .slice fa fn fc].toArray] u' fun e w' => ∃ v, e = .returned v ∧ u'.grownBy w' none ∧ v = Value.int .i64 (z : Nat)) := hid (fun u' hu => H21.out u' (gtrans HG1.out hu))
  have HY1 : Hid (∀ u', w1.grownBy u' none → u'.cell? ⟨sb, 8, none⟩ = some (.int .i64 sp)) := hid (fun u' hu => (HS.out.s.blk.keep (gtrans HG1.out hu)).cell 8)
  refine wp_region_listX (by kernel_rfl) [fun v _ => v = (Value.pointer (some ⟨sb, 0, none⟩)), fun v _ => v = (Value.pointer (some ⟨sb, 0, none⟩)), fun v _ => v = (Value.pointer (some ⟨sb, 0, none⟩)), fun v _ => v = (Value.pointer (some ⟨sb, 8, none⟩)), fun v _ => v = (Value.int .i64 sp), fun v _ => v = (Value.agg [Value.int .i64 6, Value.int .i64 on, Value.string nm, Value.string to, Value.slice ba bn bc, Value.int .i64 nv, Value.int .i64 kv, Value.slice fa fn fc].toArray), fun v _ => v = Value.int .i64 (z : Nat), fun v _ => v = (Value.int .i64 (sp + (z : Nat))), fun v _ => v = (Value.pointer (some ⟨sb, 0, none⟩)), fun v _ => v = (Value.pointer (some ⟨sb, 8, none⟩))] (none) (fun _ => none) 10 (by kernel_rfl) (by kernel_rfl) (by kernel_rfl) (by kernel_rfl) (by decide) noRow_one (fun _ => .inl rfl) ⟨fun i v u u' hki h hg => h, fun i v u u' hki h hg => h, fun i v u u' hki h hg => h, fun i v u u' hki h hg => h, fun i v u u' hki h hg => h, fun i v u u' hki h hg => h, fun i v u u' hki h hg => h, fun i v u u' hki h hg => h, fun i v u u' hki h hg => h, fun i v u u' hki h hg => h, trivial⟩ ⟨?_, ?_, ?_, ?_, ?_, ?_, ?_, ?_, ?_, ?_, trivial⟩ ?_
  · intro A u hu hpu hsz hout hdeps
    have e0 : A.eval (.tmp 0) = (.pointer (some ⟨sb, 0, none⟩)) := (hout 0 (by kernel_rfl)).trans rfl
    refine ifw_none rfl ?_
    with_reducible refine shown_q (Value.pointer (some ⟨sb, 0, none⟩)) ?qq_1_0 (fun _ _ => ?qr_1_0)
    case qr_1_0 => exact (rfl : (Value.pointer (some ⟨sb, 0, none⟩)) = (Value.pointer (some ⟨sb, 0, none⟩)))
    with_reducible refine quietAt_mv (.tmp 0) (Value.pointer (some ⟨sb, 0, none⟩)) ?h0_1_0 ?h1_1_0
    case h0_1_0 => rfl
    case h1_1_0 => exact e0
  · intro A u hu hpu hsz hout hdeps
    have e0 : A.eval (.tmp 0) = (.pointer (some ⟨sb, 0, none⟩)) := (hout 0 (by kernel_rfl)).trans rfl
    refine ifw_none rfl ?_
    with_reducible refine shown_q (Value.pointer (some ⟨sb, 0, none⟩)) ?qq_1_1 (fun _ _ => ?qr_1_1)
    case qr_1_1 => exact (rfl : (Value.pointer (some ⟨sb, 0, none⟩)) = (Value.pointer (some ⟨sb, 0, none⟩)))
    with_reducible refine quietAt_mv (.tmp 0) (Value.pointer (some ⟨sb, 0, none⟩)) ?h0_1_1 ?h1_1_1
    case h0_1_1 => rfl
    case h1_1_1 => exact e0
  · intro A u hu hpu hsz hout hdeps
    have e14 : A.eval (.tmp 14) = (.pointer (some ⟨sb, 0, none⟩)) := by have h := depL hdeps 1 (by kernel_rfl) 14 (by kernel_rfl); exact h
    refine ifw_none rfl ?_
    with_reducible refine shown_q (Value.pointer (some ⟨sb, 0, none⟩)) ?qq_1_2 (fun _ _ => ?qr_1_2)
    case qr_1_2 => exact (rfl : (Value.pointer (some ⟨sb, 0, none⟩)) = (Value.pointer (some ⟨sb, 0, none⟩)))
    with_reducible refine quietAt_nil (.tmp 14) ?h0_1_2 ⟨sb, 0, none⟩ ?h1_1_2
    case h0_1_2 => rfl
    case h1_1_2 => exact e14
  · intro A u hu hpu hsz hout hdeps
    have e15 : A.eval (.tmp 15) = (.pointer (some ⟨sb, 0, none⟩)) := by have h := depL hdeps 2 (by kernel_rfl) 15 (by kernel_rfl); exact h
    refine ifw_none rfl ?_
    with_reducible refine shown_q (Value.pointer (some ⟨sb, 8, none⟩)) ?qq_1_3 (fun _ _ => ?qr_1_3)
    case qr_1_3 => exact (rfl : (Value.pointer (some ⟨sb, 8, none⟩)) = (Value.pointer (some ⟨sb, 8, none⟩)))
    with_reducible refine quietAt_field 78 (.tmp 15) 6 ?h0_1_3 ⟨sb, 0, none⟩ ⟨sb, 8, none⟩ ?h1_1_3 ?h2_1_3
    case h0_1_3 => rfl
    case h1_1_3 => exact e15
    case h2_1_3 => kernel_rfl
  · intro A u hu hpu hsz hout hdeps
    have e16 : A.eval (.tmp 16) = (.pointer (some ⟨sb, 8, none⟩)) := by have h := depL hdeps 3 (by kernel_rfl) 16 (by kernel_rfl); exact h
    refine ifw_none rfl ?_
    with_reducible refine shown_q (Value.int .i64 sp) ?qq_1_4 (fun _ _ => ?qr_1_4)
    case qr_1_4 => exact (rfl : (Value.int .i64 sp) = (Value.int .i64 sp))
    with_reducible refine quietAt_ld 3 (.tmp 16) (Value.pointer (some ⟨sb, 8, none⟩)) (Value.int .i64 sp) ?h0_1_4 ?h1_1_4 ?h2_1_4
    case h0_1_4 => rfl
    case h1_1_4 => exact e16
    case h2_1_4 => exact ld3 sb 8 sp u (HY1.out u hu)
  · intro A u hu hpu hsz hout hdeps
    have e3 : A.eval (.tmp 3) = (.pointer (some ⟨ob, 0, none⟩)) := (hout 3 (by kernel_rfl)).trans rfl
    refine ifw_none rfl ?_
    with_reducible refine shown_q (Value.agg [Value.int .i64 6, Value.int .i64 on, Value.string nm, Value.string to, Value.slice ba bn bc, Value.int .i64 nv, Value.int .i64 kv, Value.slice fa fn fc].toArray) ?qq_1_5 (fun _ _ => ?qr_1_5)
    case qr_1_5 => exact (rfl : (Value.agg [Value.int .i64 6, Value.int .i64 on, Value.string nm, Value.string to, Value.slice ba bn bc, Value.int .i64 nv, Value.int .i64 kv, Value.slice fa fn fc].toArray) = (Value.agg [Value.int .i64 6, Value.int .i64 on, Value.string nm, Value.string to, Value.slice ba bn bc, Value.int .i64 nv, Value.int .i64 kv, Value.slice fa fn fc].toArray))
    with_reducible refine quietAt_load 83 (.tmp 3) ?h0_1_5 ob 0 [Value.int .i64 6, Value.int .i64 on, Value.string nm, Value.string to, Value.slice ba bn bc, Value.int .i64 nv, Value.int .i64 kv, Value.slice fa fn fc] (.struct (Tryz.prog.fieldsOf 83)) ?h1_1_5 ?h2_1_5 ?h3_1_5 ?h4_1_5 ?h5_1_5
    case h0_1_5 => rfl
    case h1_1_5 => exact e3
    case h2_1_5 => exact (HB1.out.keep hu).whole
    case h3_1_5 => exact Tryz.underlying83
    case h4_1_5 => rfl
    case h5_1_5 => exact Tryz.size83
  · intro A u hu hpu hsz hout hdeps
    have e18 : A.eval (.tmp 18) = (.agg [Value.int .i64 6, .int .i64 on, .string nm, .string to, .slice ba bn bc, .int .i64 nv, .int .i64 kv, .slice fa fn fc].toArray) := by have h := depL hdeps 5 (by kernel_rfl) 18 (by kernel_rfl); exact h
    refine ifw_none rfl ?_
    with_reducible refine shown_call 21 Tryz.f21 ?h0_1_6 ?h1_1_6 ?h2_1_6 #[.tmp 18] #[83] ?h3_1_6 #[(Value.agg [Value.int .i64 6, Value.int .i64 on, Value.string nm, Value.string to, Value.slice ba bn bc, Value.int .i64 nv, Value.int .i64 kv, Value.slice fa fn fc].toArray)] ?h4_1_6 ?h5_1_6
    case h0_1_6 => exact Tryz.func21
    case h1_1_6 => kernel_rfl
    case h2_1_6 => kernel_rfl
    case h3_1_6 => rfl
    case h4_1_6 => exact map1 _ _ _ e18
    case h5_1_6 => exact H21.out u hu
  · intro A u hu hpu hsz hout hdeps
    have e17 : A.eval (.tmp 17) = (.int .i64 sp) := by have h := depL hdeps 4 (by kernel_rfl) 17 (by kernel_rfl); exact h
    have f19 : (fun v _ => v = Value.int .i64 (z : Nat)) (A.eval (.tmp 19)) u := by have h := depL hdeps 6 (by kernel_rfl) 19 (by kernel_rfl); exact h
    have e19 := (f19 : _ = Value.int .i64 (z : Nat))
    refine ifw_none rfl ?_
    with_reducible refine shown_q (Value.int .i64 (sp + (z : Nat))) ?qq_1_7 (fun _ _ => ?qr_1_7)
    case qr_1_7 => exact (rfl : (Value.int .i64 (sp + (z : Nat))) = (Value.int .i64 (sp + (z : Nat))))
    with_reducible refine quietAt_bin .add 3 (.tmp 17) (.tmp 19) 3 (Value.int .i64 sp) (Value.int .i64 (z : Nat)) (Value.int .i64 (sp + (z : Nat))) ?h0_1_7 ?h1_1_7 ?h2_1_7 ?h3_1_7
    case h0_1_7 => rfl
    case h1_1_7 => exact e17
    case h2_1_7 => exact e19
    case h3_1_7 => exact HAdd.out _ _ u
  · intro A u hu hpu hsz hout hdeps
    have e13 : A.eval (.tmp 13) = (.pointer (some ⟨sb, 0, none⟩)) := by have h := depL hdeps 0 (by kernel_rfl) 13 (by kernel_rfl); exact h
    refine ifw_none rfl ?_
    with_reducible refine shown_q (Value.pointer (some ⟨sb, 0, none⟩)) ?qq_1_8 (fun _ _ => ?qr_1_8)
    case qr_1_8 => exact (rfl : (Value.pointer (some ⟨sb, 0, none⟩)) = (Value.pointer (some ⟨sb, 0, none⟩)))
    with_reducible refine quietAt_nil (.tmp 13) ?h0_1_8 ⟨sb, 0, none⟩ ?h1_1_8
    case h0_1_8 => rfl
    case h1_1_8 => exact e13
  · intro A u hu hpu hsz hout hdeps
    have e21 : A.eval (.tmp 21) = (.pointer (some ⟨sb, 0, none⟩)) := by have h := depL hdeps 8 (by kernel_rfl) 21 (by kernel_rfl); exact h
    refine ifw_none rfl ?_
    with_reducible refine shown_q (Value.pointer (some ⟨sb, 8, none⟩)) ?qq_1_9 (fun _ _ => ?qr_1_9)
    case qr_1_9 => exact (rfl : (Value.pointer (some ⟨sb, 8, none⟩)) = (Value.pointer (some ⟨sb, 8, none⟩)))
    with_reducible refine quietAt_field 78 (.tmp 21) 6 ?h0_1_9 ⟨sb, 0, none⟩ ⟨sb, 8, none⟩ ?h1_1_9 ?h2_1_9
    case h0_1_9 => rfl
    case h1_1_9 => exact e21
    case h2_1_9 => kernel_rfl
  · intro A u8 listed hh hall
    have hA := hh.frame
    have HU := hid hh.grown
    obtain ⟨x13, hx13⟩ : ∃ x, A.eval (.tmp 13) = x := ⟨_, rfl⟩
    have f13 : (fun v _ => v = (Value.pointer (some ⟨sb, 0, none⟩))) x13 u8 := by rw [← hx13]; exact hh.got 0 _ 13 rfl rfl (hall 0 (by decide))
    obtain ⟨x14, hx14⟩ : ∃ x, A.eval (.tmp 14) = x := ⟨_, rfl⟩
    have f14 : (fun v _ => v = (Value.pointer (some ⟨sb, 0, none⟩))) x14 u8 := by rw [← hx14]; exact hh.got 1 _ 14 rfl rfl (hall 1 (by decide))
    obtain ⟨x15, hx15⟩ : ∃ x, A.eval (.tmp 15) = x := ⟨_, rfl⟩
    have f15 : (fun v _ => v = (Value.pointer (some ⟨sb, 0, none⟩))) x15 u8 := by rw [← hx15]; exact hh.got 2 _ 15 rfl rfl (hall 2 (by decide))
    obtain ⟨x16, hx16⟩ : ∃ x, A.eval (.tmp 16) = x := ⟨_, rfl⟩
    have f16 : (fun v _ => v = (Value.pointer (some ⟨sb, 8, none⟩))) x16 u8 := by rw [← hx16]; exact hh.got 3 _ 16 rfl rfl (hall 3 (by decide))
    obtain ⟨x17, hx17⟩ : ∃ x, A.eval (.tmp 17) = x := ⟨_, rfl⟩
    have f17 : (fun v _ => v = (Value.int .i64 sp)) x17 u8 := by rw [← hx17]; exact hh.got 4 _ 17 rfl rfl (hall 4 (by decide))
    obtain ⟨x18, hx18⟩ : ∃ x, A.eval (.tmp 18) = x := ⟨_, rfl⟩
    have f18 : (fun v _ => v = (Value.agg [Value.int .i64 6, Value.int .i64 on, Value.string nm, Value.string to, Value.slice ba bn bc, Value.int .i64 nv, Value.int .i64 kv, Value.slice fa fn fc].toArray)) x18 u8 := by rw [← hx18]; exact hh.got 5 _ 18 rfl rfl (hall 5 (by decide))
    obtain ⟨x19, hx19⟩ : ∃ x, A.eval (.tmp 19) = x := ⟨_, rfl⟩
    have f19 : (fun v _ => v = Value.int .i64 (z : Nat)) x19 u8 := by rw [← hx19]; exact hh.got 6 _ 19 rfl rfl (hall 6 (by decide))
    obtain ⟨x20, hx20⟩ : ∃ x, A.eval (.tmp 20) = x := ⟨_, rfl⟩
    have f20 : (fun v _ => v = (Value.int .i64 (sp + (z : Nat)))) x20 u8 := by rw [← hx20]; exact hh.got 7 _ 20 rfl rfl (hall 7 (by decide))
    obtain ⟨x21, hx21⟩ : ∃ x, A.eval (.tmp 21) = x := ⟨_, rfl⟩
    have f21 : (fun v _ => v = (Value.pointer (some ⟨sb, 0, none⟩))) x21 u8 := by rw [← hx21]; exact hh.got 8 _ 21 rfl rfl (hall 8 (by decide))
    obtain ⟨x22, hx22⟩ : ∃ x, A.eval (.tmp 22) = x := ⟨_, rfl⟩
    have f22 : (fun v _ => v = (Value.pointer (some ⟨sb, 8, none⟩))) x22 u8 := by rw [← hx22]; exact hh.got 9 _ 22 rfl rfl (hall 9 (by decide))
    dsimp only [wrote, List.foldl] at hA
    rw [hx13, hx14, hx15, hx16, hx17, hx18, hx19, hx20, hx21, hx22] at hA
    clear hh hall hx13 hx14 hx15 hx16 hx17 hx18 hx19 hx20 hx21 hx22
    replace f13 := (f13 : x13 = (.pointer (some ⟨sb, 0, none⟩)))
    subst f13
    replace f14 := (f14 : x14 = (.pointer (some ⟨sb, 0, none⟩)))
    subst f14
    replace f15 := (f15 : x15 = (.pointer (some ⟨sb, 0, none⟩)))
    subst f15
    replace f16 := (f16 : x16 = (.pointer (some ⟨sb, 8, none⟩)))
    subst f16
    replace f17 := (f17 : x17 = (.int .i64 sp))
    subst f17
    replace f18 := (f18 : x18 = (.agg [Value.int .i64 6, .int .i64 on, .string nm, .string to, .slice ba bn bc, .int .i64 nv, .int .i64 kv, .slice fa fn fc].toArray))
    subst f18
    have e19 := (f19 : _ = Value.int .i64 (z : Nat))
    subst e19
    replace f20 := (f20 : x20 = (.int .i64 (sp + (z : Nat))))
    subst f20
    replace f21 := (f21 : x21 = (.pointer (some ⟨sb, 0, none⟩)))
    subst f21
    replace f22 := (f22 : x22 = (.pointer (some ⟨sb, 8, none⟩)))
    subst f22
    subst hA
    show wpList _ _ _ [_] _ _
    simp only [Act.put, List.setIfInBounds_toArray, List.set_cons_succ, List.set_cons_zero]
    have hM8 : Mid w sb bk sk ob [Value.int .i64 6, .int .i64 on, .string nm, .string to, .slice ba bn bc, .int .i64 nv, .int .i64 kv, .slice fa fn fc] b c A (fun j => (A j).sr) tn sp k (A k) (A k).sr false false u8 := (mid_box HS.out HOB.out HG1.out HB1.out HZ1.out).keep HU.out
    obtain ⟨col8, hs8, ho8⟩ := hM8
    have hb8 := hs8.s.blk
    have y8 : u8.cell? ⟨sb, 8, none⟩ = some (.int .i64 sp) := hb8.cell 8
    have f8 := hb8.frozen 8
    have hl8 := hb8.lt
    have hM9 : Mid w sb bk sk ob [Value.int .i64 6, .int .i64 on, .string nm, .string to, .slice ba bn bc, .int .i64 nv, .int .i64 kv, .slice fa fn fc] b c A (fun j => (A j).sr) tn (sp + (z : Nat)) k (A k) (A k).sr false false (u8.setCell ⟨sb, 8, none⟩ (.int .i64 (sp + (z : Nat)))) := mid_store hs8 ho8 (sp + (z : Nat))
    have y9 : (u8.setCell ⟨sb, 8, none⟩ (.int .i64 (sp + (z : Nat)))).cell? ⟨sb, 8, none⟩ = some (.int .i64 (sp + (z : Nat))) := (hb8.set 8 (.int .i64 (sp + (z : Nat)))).cell 8
    obtain ⟨u9, hu9⟩ : ∃ x, u8.setCell ⟨sb, 8, none⟩ (.int .i64 (sp + (z : Nat))) = x := ⟨_, rfl⟩
    rw [hu9] at hM9 y9
    have HM9 := hid hM9
    clear hs8 ho8 hb8 hM9 HS HY1 H21 HAdd HB1 HG1 HZ1 HOB HU
    obtain ⟨d0, d2⟩ := mid_dw HM9.out hk
    obtain ⟨bK, hbK⟩ : ∃ x, b k = x := ⟨_, rfl⟩
    obtain ⟨cK, hcK⟩ : ∃ x, c k = x := ⟨_, rfl⟩
    have HBK := hid hbK
    have HCK := hid hcK
    rw [hbK] at d0
    rw [hcK] at d2
    clear hbK hcK
    have c0 : u9.cell? ⟨ob, 0, none⟩ = some (.int .i64 6) := HM9.out.cell 0
    have c2 : u9.cell? ⟨ob, 2, none⟩ = some (.string nm) := HM9.out.cell 2
    have c3 : u9.cell? ⟨ob, 3, none⟩ = some (.string to) := HM9.out.cell 3
    have c4 : u9.cell? ⟨ob, 4, none⟩ = some (.slice ba bn bc) := HM9.out.cell 4
    have c5 : u9.cell? ⟨ob, 5, none⟩ = some (.int .i64 nv) := HM9.out.cell 5
    have c6 : u9.cell? ⟨ob, 6, none⟩ = some (.int .i64 kv) := HM9.out.cell 6
    have c7 : u9.cell? ⟨ob, 7, none⟩ = some (.slice fa fn fc) := HM9.out.cell 7
    go_wp2_with (go_at_call 32; (with_reducible refine (HX.out _ u9 HM9.out).mono ?_); rintro e w9 ⟨rfl, hp⟩; have HP := hid hp; clear hp)
    go_ret
    exact ⟨rfl, HP.out⟩
set_option maxRecDepth 100000 in
set_option maxHeartbeats 8000000 in
theorem plays_files {on : Int} {nm to : ByteArray} {ba fa : Option Addr} {bn bc fn fc z k : Nat} {nv kv : Int} (h : Stg w u col sb bk sk b c A (fun j => (A j).sr) tn sp) (hk : k < 2) (hand : bits .and .i64 on 1 = (k : Int)) (hsp : 0 ≤ sp ∧ sp + (z : Nat) < 9223372036854775807) (hle : ¬ 1048576 < sp + (z : Nat))
    (H21 : Hid (∀ u', u.grownBy u' none → Calls Tryz.prog 21 #[.agg [Value.int .i64 7, .int .i64 on, .string nm, .string to, .slice ba bn bc, .int .i64 nv, .int .i64 kv, .slice fa fn fc].toArray] u' fun e w' => ∃ v, e = .returned v ∧ u'.grownBy w' none ∧ v = Value.int .i64 (z : Nat)))
    (HX : Hid (∀ ob u9, Mid w sb bk sk ob [Value.int .i64 7, .int .i64 on, .string nm, .string to, .slice ba bn bc, .int .i64 nv, .int .i64 kv, .slice fa fn fc] b c A (fun j => (A j).sr) tn (sp + (z : Nat)) k (A k) (A k).sr false false u9 → Calls Tryz.prog 10 #[.pointer (some ⟨sb, 0, none⟩), .int .i64 (k : Nat)] u9 fun e u' => e = .returned (.bool true) ∧ PEnd w sb bk sk tn (sp + (z : Nat)) M u')) :
    Calls Tryz.prog 8 #[.pointer (some ⟨sb, 0, none⟩), .agg [Value.int .i64 7, .int .i64 on, .string nm, .string to, .slice ba bn bc, .int .i64 nv, .int .i64 kv, .slice fa fn fc].toArray] u fun e u' => e = .returned (.bool true) ∧ PEnd w sb bk sk tn (sp + (z : Nat)) M u' := by
  have hk' : (k : Int) < 2 := by omega
  have HS := hid h
  have HAdd : Hid (∀ (x y : Operand) (u : World), (do eqGuard .add 3 x y (.int .i64 sp) (.int .i64 (z : Nat)); binOp .add 3 (.int .i64 sp) (.int .i64 (z : Nat)) : Sem Value).run Tryz.prog u = .ok (.int .i64 (sp + (z : Nat))) u) := hid (fun x y u => by have q := wrap_add hsp; go_simp)
  clear h hsp
  go_enter Tryz.func8, Tryz.ntmps8
  go_upto_region 2 with ((with_reducible refine wpList_box_row (by with_unfolding_all rfl) 83 _ (by with_unfolding_all rfl) [Value.int .i64 7, .int .i64 on, .string nm, .string to, .slice ba bn bc, .int .i64 nv, .int .i64 kv, .slice fa fn fc] (by with_unfolding_all rfl) ?_); intro w1 B1 s1 g1; have HB1 := hid B1; have HG1 := hid g1; have HZ1 := hid s1; have c1 := B1.cell 1; clear B1 s1 g1)
  clear c1
  obtain ⟨ob, hob⟩ : ∃ x, u.heap.size = x := ⟨_, rfl⟩
  have HOB := hid hob
  rw [hob] at HB1 HZ1 ⊢
  clear hob
  replace H21 : Hid (∀ u', w1.grownBy u' none → Calls Tryz.prog 21 #[.agg [Value.int .i64 7, .int .i64 on, .string nm, .string to, .slice ba bn bc, .int .i64 nv, .int .i64 kv, .slice fa fn fc].toArray] u' fun e w' => ∃ v, e = .returned v ∧ u'.grownBy w' none ∧ v = Value.int .i64 (z : Nat)) := hid (fun u' hu => H21.out u' (gtrans HG1.out hu))
  have HY1 : Hid (∀ u', w1.grownBy u' none → u'.cell? ⟨sb, 8, none⟩ = some (.int .i64 sp)) := hid (fun u' hu => (HS.out.s.blk.keep (gtrans HG1.out hu)).cell 8)
  refine wp_region_listX (by kernel_rfl) [fun v _ => v = (Value.pointer (some ⟨sb, 0, none⟩)), fun v _ => v = (Value.pointer (some ⟨sb, 0, none⟩)), fun v _ => v = (Value.pointer (some ⟨sb, 0, none⟩)), fun v _ => v = (Value.pointer (some ⟨sb, 8, none⟩)), fun v _ => v = (Value.int .i64 sp), fun v _ => v = (Value.agg [Value.int .i64 7, Value.int .i64 on, Value.string nm, Value.string to, Value.slice ba bn bc, Value.int .i64 nv, Value.int .i64 kv, Value.slice fa fn fc].toArray), fun v _ => v = Value.int .i64 (z : Nat), fun v _ => v = (Value.int .i64 (sp + (z : Nat))), fun v _ => v = (Value.pointer (some ⟨sb, 0, none⟩)), fun v _ => v = (Value.pointer (some ⟨sb, 8, none⟩))] (none) (fun _ => none) 10 (by kernel_rfl) (by kernel_rfl) (by kernel_rfl) (by kernel_rfl) (by decide) noRow_one (fun _ => .inl rfl) ⟨fun i v u u' hki h hg => h, fun i v u u' hki h hg => h, fun i v u u' hki h hg => h, fun i v u u' hki h hg => h, fun i v u u' hki h hg => h, fun i v u u' hki h hg => h, fun i v u u' hki h hg => h, fun i v u u' hki h hg => h, fun i v u u' hki h hg => h, fun i v u u' hki h hg => h, trivial⟩ ⟨?_, ?_, ?_, ?_, ?_, ?_, ?_, ?_, ?_, ?_, trivial⟩ ?_
  · intro A u hu hpu hsz hout hdeps
    have e0 : A.eval (.tmp 0) = (.pointer (some ⟨sb, 0, none⟩)) := (hout 0 (by kernel_rfl)).trans rfl
    refine ifw_none rfl ?_
    with_reducible refine shown_q (Value.pointer (some ⟨sb, 0, none⟩)) ?qq_2_0 (fun _ _ => ?qr_2_0)
    case qr_2_0 => exact (rfl : (Value.pointer (some ⟨sb, 0, none⟩)) = (Value.pointer (some ⟨sb, 0, none⟩)))
    with_reducible refine quietAt_mv (.tmp 0) (Value.pointer (some ⟨sb, 0, none⟩)) ?h0_2_0 ?h1_2_0
    case h0_2_0 => rfl
    case h1_2_0 => exact e0
  · intro A u hu hpu hsz hout hdeps
    have e0 : A.eval (.tmp 0) = (.pointer (some ⟨sb, 0, none⟩)) := (hout 0 (by kernel_rfl)).trans rfl
    refine ifw_none rfl ?_
    with_reducible refine shown_q (Value.pointer (some ⟨sb, 0, none⟩)) ?qq_2_1 (fun _ _ => ?qr_2_1)
    case qr_2_1 => exact (rfl : (Value.pointer (some ⟨sb, 0, none⟩)) = (Value.pointer (some ⟨sb, 0, none⟩)))
    with_reducible refine quietAt_mv (.tmp 0) (Value.pointer (some ⟨sb, 0, none⟩)) ?h0_2_1 ?h1_2_1
    case h0_2_1 => rfl
    case h1_2_1 => exact e0
  · intro A u hu hpu hsz hout hdeps
    have e14 : A.eval (.tmp 14) = (.pointer (some ⟨sb, 0, none⟩)) := by have h := depL hdeps 1 (by kernel_rfl) 14 (by kernel_rfl); exact h
    refine ifw_none rfl ?_
    with_reducible refine shown_q (Value.pointer (some ⟨sb, 0, none⟩)) ?qq_2_2 (fun _ _ => ?qr_2_2)
    case qr_2_2 => exact (rfl : (Value.pointer (some ⟨sb, 0, none⟩)) = (Value.pointer (some ⟨sb, 0, none⟩)))
    with_reducible refine quietAt_nil (.tmp 14) ?h0_2_2 ⟨sb, 0, none⟩ ?h1_2_2
    case h0_2_2 => rfl
    case h1_2_2 => exact e14
  · intro A u hu hpu hsz hout hdeps
    have e15 : A.eval (.tmp 15) = (.pointer (some ⟨sb, 0, none⟩)) := by have h := depL hdeps 2 (by kernel_rfl) 15 (by kernel_rfl); exact h
    refine ifw_none rfl ?_
    with_reducible refine shown_q (Value.pointer (some ⟨sb, 8, none⟩)) ?qq_2_3 (fun _ _ => ?qr_2_3)
    case qr_2_3 => exact (rfl : (Value.pointer (some ⟨sb, 8, none⟩)) = (Value.pointer (some ⟨sb, 8, none⟩)))
    with_reducible refine quietAt_field 78 (.tmp 15) 6 ?h0_2_3 ⟨sb, 0, none⟩ ⟨sb, 8, none⟩ ?h1_2_3 ?h2_2_3
    case h0_2_3 => rfl
    case h1_2_3 => exact e15
    case h2_2_3 => kernel_rfl
  · intro A u hu hpu hsz hout hdeps
    have e16 : A.eval (.tmp 16) = (.pointer (some ⟨sb, 8, none⟩)) := by have h := depL hdeps 3 (by kernel_rfl) 16 (by kernel_rfl); exact h
    refine ifw_none rfl ?_
    with_reducible refine shown_q (Value.int .i64 sp) ?qq_2_4 (fun _ _ => ?qr_2_4)
    case qr_2_4 => exact (rfl : (Value.int .i64 sp) = (Value.int .i64 sp))
    with_reducible refine quietAt_ld 3 (.tmp 16) (Value.pointer (some ⟨sb, 8, none⟩)) (Value.int .i64 sp) ?h0_2_4 ?h1_2_4 ?h2_2_4
    case h0_2_4 => rfl
    case h1_2_4 => exact e16
    case h2_2_4 => exact ld3 sb 8 sp u (HY1.out u hu)
  · intro A u hu hpu hsz hout hdeps
    have e3 : A.eval (.tmp 3) = (.pointer (some ⟨ob, 0, none⟩)) := (hout 3 (by kernel_rfl)).trans rfl
    refine ifw_none rfl ?_
    with_reducible refine shown_q (Value.agg [Value.int .i64 7, Value.int .i64 on, Value.string nm, Value.string to, Value.slice ba bn bc, Value.int .i64 nv, Value.int .i64 kv, Value.slice fa fn fc].toArray) ?qq_2_5 (fun _ _ => ?qr_2_5)
    case qr_2_5 => exact (rfl : (Value.agg [Value.int .i64 7, Value.int .i64 on, Value.string nm, Value.string to, Value.slice ba bn bc, Value.int .i64 nv, Value.int .i64 kv, Value.slice fa fn fc].toArray) = (Value.agg [Value.int .i64 7, Value.int .i64 on, Value.string nm, Value.string to, Value.slice ba bn bc, Value.int .i64 nv, Value.int .i64 kv, Value.slice fa fn fc].toArray))
    with_reducible refine quietAt_load 83 (.tmp 3) ?h0_2_5 ob 0 [Value.int .i64 7, Value.int .i64 on, Value.string nm, Value.string to, Value.slice ba bn bc, Value.int .i64 nv, Value.int .i64 kv, Value.slice fa fn fc] (.struct (Tryz.prog.fieldsOf 83)) ?h1_2_5 ?h2_2_5 ?h3_2_5 ?h4_2_5 ?h5_2_5
    case h0_2_5 => rfl
    case h1_2_5 => exact e3
    case h2_2_5 => exact (HB1.out.keep hu).whole
    case h3_2_5 => exact Tryz.underlying83
    case h4_2_5 => rfl
    case h5_2_5 => exact Tryz.size83
  · intro A u hu hpu hsz hout hdeps
    have e18 : A.eval (.tmp 18) = (.agg [Value.int .i64 7, .int .i64 on, .string nm, .string to, .slice ba bn bc, .int .i64 nv, .int .i64 kv, .slice fa fn fc].toArray) := by have h := depL hdeps 5 (by kernel_rfl) 18 (by kernel_rfl); exact h
    refine ifw_none rfl ?_
    with_reducible refine shown_call 21 Tryz.f21 ?h0_2_6 ?h1_2_6 ?h2_2_6 #[.tmp 18] #[83] ?h3_2_6 #[(Value.agg [Value.int .i64 7, Value.int .i64 on, Value.string nm, Value.string to, Value.slice ba bn bc, Value.int .i64 nv, Value.int .i64 kv, Value.slice fa fn fc].toArray)] ?h4_2_6 ?h5_2_6
    case h0_2_6 => exact Tryz.func21
    case h1_2_6 => kernel_rfl
    case h2_2_6 => kernel_rfl
    case h3_2_6 => rfl
    case h4_2_6 => exact map1 _ _ _ e18
    case h5_2_6 => exact H21.out u hu
  · intro A u hu hpu hsz hout hdeps
    have e17 : A.eval (.tmp 17) = (.int .i64 sp) := by have h := depL hdeps 4 (by kernel_rfl) 17 (by kernel_rfl); exact h
    have f19 : (fun v _ => v = Value.int .i64 (z : Nat)) (A.eval (.tmp 19)) u := by have h := depL hdeps 6 (by kernel_rfl) 19 (by kernel_rfl); exact h
    have e19 := (f19 : _ = Value.int .i64 (z : Nat))
    refine ifw_none rfl ?_
    with_reducible refine shown_q (Value.int .i64 (sp + (z : Nat))) ?qq_2_7 (fun _ _ => ?qr_2_7)
    case qr_2_7 => exact (rfl : (Value.int .i64 (sp + (z : Nat))) = (Value.int .i64 (sp + (z : Nat))))
    with_reducible refine quietAt_bin .add 3 (.tmp 17) (.tmp 19) 3 (Value.int .i64 sp) (Value.int .i64 (z : Nat)) (Value.int .i64 (sp + (z : Nat))) ?h0_2_7 ?h1_2_7 ?h2_2_7 ?h3_2_7
    case h0_2_7 => rfl
    case h1_2_7 => exact e17
    case h2_2_7 => exact e19
    case h3_2_7 => exact HAdd.out _ _ u
  · intro A u hu hpu hsz hout hdeps
    have e13 : A.eval (.tmp 13) = (.pointer (some ⟨sb, 0, none⟩)) := by have h := depL hdeps 0 (by kernel_rfl) 13 (by kernel_rfl); exact h
    refine ifw_none rfl ?_
    with_reducible refine shown_q (Value.pointer (some ⟨sb, 0, none⟩)) ?qq_2_8 (fun _ _ => ?qr_2_8)
    case qr_2_8 => exact (rfl : (Value.pointer (some ⟨sb, 0, none⟩)) = (Value.pointer (some ⟨sb, 0, none⟩)))
    with_reducible refine quietAt_nil (.tmp 13) ?h0_2_8 ⟨sb, 0, none⟩ ?h1_2_8
    case h0_2_8 => rfl
    case h1_2_8 => exact e13
  · intro A u hu hpu hsz hout hdeps
    have e21 : A.eval (.tmp 21) = (.pointer (some ⟨sb, 0, none⟩)) := by have h := depL hdeps 8 (by kernel_rfl) 21 (by kernel_rfl); exact h
    refine ifw_none rfl ?_
    with_reducible refine shown_q (Value.pointer (some ⟨sb, 8, none⟩)) ?qq_2_9 (fun _ _ => ?qr_2_9)
    case qr_2_9 => exact (rfl : (Value.pointer (some ⟨sb, 8, none⟩)) = (Value.pointer (some ⟨sb, 8, none⟩)))
    with_reducible refine quietAt_field 78 (.tmp 21) 6 ?h0_2_9 ⟨sb, 0, none⟩ ⟨sb, 8, none⟩ ?h1_2_9 ?h2_2_9
    case h0_2_9 => rfl
    case h1_2_9 => exact e21
    case h2_2_9 => kernel_rfl
  · intro A u8 listed hh hall
    have hA := hh.frame
    have HU := hid hh.grown
    obtain ⟨x13, hx13⟩ : ∃ x, A.eval (.tmp 13) = x := ⟨_, rfl⟩
    have f13 : (fun v _ => v = (Value.pointer (some ⟨sb, 0, none⟩))) x13 u8 := by rw [← hx13]; exact hh.got 0 _ 13 rfl rfl (hall 0 (by decide))
    obtain ⟨x14, hx14⟩ : ∃ x, A.eval (.tmp 14) = x := ⟨_, rfl⟩
    have f14 : (fun v _ => v = (Value.pointer (some ⟨sb, 0, none⟩))) x14 u8 := by rw [← hx14]; exact hh.got 1 _ 14 rfl rfl (hall 1 (by decide))
    obtain ⟨x15, hx15⟩ : ∃ x, A.eval (.tmp 15) = x := ⟨_, rfl⟩
    have f15 : (fun v _ => v = (Value.pointer (some ⟨sb, 0, none⟩))) x15 u8 := by rw [← hx15]; exact hh.got 2 _ 15 rfl rfl (hall 2 (by decide))
    obtain ⟨x16, hx16⟩ : ∃ x, A.eval (.tmp 16) = x := ⟨_, rfl⟩
    have f16 : (fun v _ => v = (Value.pointer (some ⟨sb, 8, none⟩))) x16 u8 := by rw [← hx16]; exact hh.got 3 _ 16 rfl rfl (hall 3 (by decide))
    obtain ⟨x17, hx17⟩ : ∃ x, A.eval (.tmp 17) = x := ⟨_, rfl⟩
    have f17 : (fun v _ => v = (Value.int .i64 sp)) x17 u8 := by rw [← hx17]; exact hh.got 4 _ 17 rfl rfl (hall 4 (by decide))
    obtain ⟨x18, hx18⟩ : ∃ x, A.eval (.tmp 18) = x := ⟨_, rfl⟩
    have f18 : (fun v _ => v = (Value.agg [Value.int .i64 7, Value.int .i64 on, Value.string nm, Value.string to, Value.slice ba bn bc, Value.int .i64 nv, Value.int .i64 kv, Value.slice fa fn fc].toArray)) x18 u8 := by rw [← hx18]; exact hh.got 5 _ 18 rfl rfl (hall 5 (by decide))
    obtain ⟨x19, hx19⟩ : ∃ x, A.eval (.tmp 19) = x := ⟨_, rfl⟩
    have f19 : (fun v _ => v = Value.int .i64 (z : Nat)) x19 u8 := by rw [← hx19]; exact hh.got 6 _ 19 rfl rfl (hall 6 (by decide))
    obtain ⟨x20, hx20⟩ : ∃ x, A.eval (.tmp 20) = x := ⟨_, rfl⟩
    have f20 : (fun v _ => v = (Value.int .i64 (sp + (z : Nat)))) x20 u8 := by rw [← hx20]; exact hh.got 7 _ 20 rfl rfl (hall 7 (by decide))
    obtain ⟨x21, hx21⟩ : ∃ x, A.eval (.tmp 21) = x := ⟨_, rfl⟩
    have f21 : (fun v _ => v = (Value.pointer (some ⟨sb, 0, none⟩))) x21 u8 := by rw [← hx21]; exact hh.got 8 _ 21 rfl rfl (hall 8 (by decide))
    obtain ⟨x22, hx22⟩ : ∃ x, A.eval (.tmp 22) = x := ⟨_, rfl⟩
    have f22 : (fun v _ => v = (Value.pointer (some ⟨sb, 8, none⟩))) x22 u8 := by rw [← hx22]; exact hh.got 9 _ 22 rfl rfl (hall 9 (by decide))
    dsimp only [wrote, List.foldl] at hA
    rw [hx13, hx14, hx15, hx16, hx17, hx18, hx19, hx20, hx21, hx22] at hA
    clear hh hall hx13 hx14 hx15 hx16 hx17 hx18 hx19 hx20 hx21 hx22
    replace f13 := (f13 : x13 = (.pointer (some ⟨sb, 0, none⟩)))
    subst f13
    replace f14 := (f14 : x14 = (.pointer (some ⟨sb, 0, none⟩)))
    subst f14
    replace f15 := (f15 : x15 = (.pointer (some ⟨sb, 0, none⟩)))
    subst f15
    replace f16 := (f16 : x16 = (.pointer (some ⟨sb, 8, none⟩)))
    subst f16
    replace f17 := (f17 : x17 = (.int .i64 sp))
    subst f17
    replace f18 := (f18 : x18 = (.agg [Value.int .i64 7, .int .i64 on, .string nm, .string to, .slice ba bn bc, .int .i64 nv, .int .i64 kv, .slice fa fn fc].toArray))
    subst f18
    have e19 := (f19 : _ = Value.int .i64 (z : Nat))
    subst e19
    replace f20 := (f20 : x20 = (.int .i64 (sp + (z : Nat))))
    subst f20
    replace f21 := (f21 : x21 = (.pointer (some ⟨sb, 0, none⟩)))
    subst f21
    replace f22 := (f22 : x22 = (.pointer (some ⟨sb, 8, none⟩)))
    subst f22
    subst hA
    show wpList _ _ _ [_] _ _
    simp only [Act.put, List.setIfInBounds_toArray, List.set_cons_succ, List.set_cons_zero]
    have hM8 : Mid w sb bk sk ob [Value.int .i64 7, .int .i64 on, .string nm, .string to, .slice ba bn bc, .int .i64 nv, .int .i64 kv, .slice fa fn fc] b c A (fun j => (A j).sr) tn sp k (A k) (A k).sr false false u8 := (mid_box HS.out HOB.out HG1.out HB1.out HZ1.out).keep HU.out
    obtain ⟨col8, hs8, ho8⟩ := hM8
    have hb8 := hs8.s.blk
    have y8 : u8.cell? ⟨sb, 8, none⟩ = some (.int .i64 sp) := hb8.cell 8
    have f8 := hb8.frozen 8
    have hl8 := hb8.lt
    have hM9 : Mid w sb bk sk ob [Value.int .i64 7, .int .i64 on, .string nm, .string to, .slice ba bn bc, .int .i64 nv, .int .i64 kv, .slice fa fn fc] b c A (fun j => (A j).sr) tn (sp + (z : Nat)) k (A k) (A k).sr false false (u8.setCell ⟨sb, 8, none⟩ (.int .i64 (sp + (z : Nat)))) := mid_store hs8 ho8 (sp + (z : Nat))
    have y9 : (u8.setCell ⟨sb, 8, none⟩ (.int .i64 (sp + (z : Nat)))).cell? ⟨sb, 8, none⟩ = some (.int .i64 (sp + (z : Nat))) := (hb8.set 8 (.int .i64 (sp + (z : Nat)))).cell 8
    obtain ⟨u9, hu9⟩ : ∃ x, u8.setCell ⟨sb, 8, none⟩ (.int .i64 (sp + (z : Nat))) = x := ⟨_, rfl⟩
    rw [hu9] at hM9 y9
    have HM9 := hid hM9
    clear hs8 ho8 hb8 hM9 HS HY1 H21 HAdd HB1 HG1 HZ1 HOB HU
    obtain ⟨d0, d2⟩ := mid_dw HM9.out hk
    obtain ⟨bK, hbK⟩ : ∃ x, b k = x := ⟨_, rfl⟩
    obtain ⟨cK, hcK⟩ : ∃ x, c k = x := ⟨_, rfl⟩
    have HBK := hid hbK
    have HCK := hid hcK
    rw [hbK] at d0
    rw [hcK] at d2
    clear hbK hcK
    have c0 : u9.cell? ⟨ob, 0, none⟩ = some (.int .i64 7) := HM9.out.cell 0
    have c2 : u9.cell? ⟨ob, 2, none⟩ = some (.string nm) := HM9.out.cell 2
    have c3 : u9.cell? ⟨ob, 3, none⟩ = some (.string to) := HM9.out.cell 3
    have c4 : u9.cell? ⟨ob, 4, none⟩ = some (.slice ba bn bc) := HM9.out.cell 4
    have c5 : u9.cell? ⟨ob, 5, none⟩ = some (.int .i64 nv) := HM9.out.cell 5
    have c6 : u9.cell? ⟨ob, 6, none⟩ = some (.int .i64 kv) := HM9.out.cell 6
    have c7 : u9.cell? ⟨ob, 7, none⟩ = some (.slice fa fn fc) := HM9.out.cell 7
    go_wp2_with (go_at_call 10; (with_reducible refine (HX.out _ u9 HM9.out).mono ?_); rintro e w9 ⟨rfl, hp⟩; have HP := hid hp; clear hp)
    go_ret
    exact ⟨rfl, HP.out⟩
set_option maxRecDepth 100000 in
set_option maxHeartbeats 8000000 in
theorem plays_new {on : Int} {nm to : ByteArray} {ba fa : Option Addr} {bn bc fn fc z k : Nat} {nv kv : Int} (h : Stg w u col sb bk sk b c A (fun j => (A j).sr) tn sp) (hk : k < 2) (hand : bits .and .i64 on 1 = (k : Int)) (hsp : 0 ≤ sp ∧ sp + (z : Nat) < 9223372036854775807) (hle : ¬ 1048576 < sp + (z : Nat))
    (H21 : Hid (∀ u', u.grownBy u' none → Calls Tryz.prog 21 #[.agg [Value.int .i64 10, .int .i64 on, .string nm, .string to, .slice ba bn bc, .int .i64 nv, .int .i64 kv, .slice fa fn fc].toArray] u' fun e w' => ∃ v, e = .returned v ∧ u'.grownBy w' none ∧ v = Value.int .i64 (z : Nat)))
    (HX : Hid (∀ ob u9, Mid w sb bk sk ob [Value.int .i64 10, .int .i64 on, .string nm, .string to, .slice ba bn bc, .int .i64 nv, .int .i64 kv, .slice fa fn fc] b c A (fun j => (A j).sr) tn (sp + (z : Nat)) k (A k) (A k).sr false false u9 → Calls Tryz.prog 7 #[.pointer (some ⟨sb, 0, none⟩), .int .i64 (k : Nat), .int .i64 nv] u9 fun e u' => e = .returned (.bool true) ∧ PEnd w sb bk sk tn (sp + (z : Nat)) M u')) :
    Calls Tryz.prog 8 #[.pointer (some ⟨sb, 0, none⟩), .agg [Value.int .i64 10, .int .i64 on, .string nm, .string to, .slice ba bn bc, .int .i64 nv, .int .i64 kv, .slice fa fn fc].toArray] u fun e u' => e = .returned (.bool true) ∧ PEnd w sb bk sk tn (sp + (z : Nat)) M u' := by
  have hk' : (k : Int) < 2 := by omega
  have HS := hid h
  have HAdd : Hid (∀ (x y : Operand) (u : World), (do eqGuard .add 3 x y (.int .i64 sp) (.int .i64 (z : Nat)); binOp .add 3 (.int .i64 sp) (.int .i64 (z : Nat)) : Sem Value).run Tryz.prog u = .ok (.int .i64 (sp + (z : Nat))) u) := hid (fun x y u => by have q := wrap_add hsp; go_simp)
  clear h hsp
  go_enter Tryz.func8, Tryz.ntmps8
  go_upto_region 2 with ((with_reducible refine wpList_box_row (by with_unfolding_all rfl) 83 _ (by with_unfolding_all rfl) [Value.int .i64 10, .int .i64 on, .string nm, .string to, .slice ba bn bc, .int .i64 nv, .int .i64 kv, .slice fa fn fc] (by with_unfolding_all rfl) ?_); intro w1 B1 s1 g1; have HB1 := hid B1; have HG1 := hid g1; have HZ1 := hid s1; have c1 := B1.cell 1; clear B1 s1 g1)
  clear c1
  obtain ⟨ob, hob⟩ : ∃ x, u.heap.size = x := ⟨_, rfl⟩
  have HOB := hid hob
  rw [hob] at HB1 HZ1 ⊢
  clear hob
  replace H21 : Hid (∀ u', w1.grownBy u' none → Calls Tryz.prog 21 #[.agg [Value.int .i64 10, .int .i64 on, .string nm, .string to, .slice ba bn bc, .int .i64 nv, .int .i64 kv, .slice fa fn fc].toArray] u' fun e w' => ∃ v, e = .returned v ∧ u'.grownBy w' none ∧ v = Value.int .i64 (z : Nat)) := hid (fun u' hu => H21.out u' (gtrans HG1.out hu))
  have HY1 : Hid (∀ u', w1.grownBy u' none → u'.cell? ⟨sb, 8, none⟩ = some (.int .i64 sp)) := hid (fun u' hu => (HS.out.s.blk.keep (gtrans HG1.out hu)).cell 8)
  refine wp_region_listX (by kernel_rfl) [fun v _ => v = (Value.pointer (some ⟨sb, 0, none⟩)), fun v _ => v = (Value.pointer (some ⟨sb, 0, none⟩)), fun v _ => v = (Value.pointer (some ⟨sb, 0, none⟩)), fun v _ => v = (Value.pointer (some ⟨sb, 8, none⟩)), fun v _ => v = (Value.int .i64 sp), fun v _ => v = (Value.agg [Value.int .i64 10, Value.int .i64 on, Value.string nm, Value.string to, Value.slice ba bn bc, Value.int .i64 nv, Value.int .i64 kv, Value.slice fa fn fc].toArray), fun v _ => v = Value.int .i64 (z : Nat), fun v _ => v = (Value.int .i64 (sp + (z : Nat))), fun v _ => v = (Value.pointer (some ⟨sb, 0, none⟩)), fun v _ => v = (Value.pointer (some ⟨sb, 8, none⟩))] (none) (fun _ => none) 10 (by kernel_rfl) (by kernel_rfl) (by kernel_rfl) (by kernel_rfl) (by decide) noRow_one (fun _ => .inl rfl) ⟨fun i v u u' hki h hg => h, fun i v u u' hki h hg => h, fun i v u u' hki h hg => h, fun i v u u' hki h hg => h, fun i v u u' hki h hg => h, fun i v u u' hki h hg => h, fun i v u u' hki h hg => h, fun i v u u' hki h hg => h, fun i v u u' hki h hg => h, fun i v u u' hki h hg => h, trivial⟩ ⟨?_, ?_, ?_, ?_, ?_, ?_, ?_, ?_, ?_, ?_, trivial⟩ ?_
  · intro A u hu hpu hsz hout hdeps
    have e0 : A.eval (.tmp 0) = (.pointer (some ⟨sb, 0, none⟩)) := (hout 0 (by kernel_rfl)).trans rfl
    refine ifw_none rfl ?_
    with_reducible refine shown_q (Value.pointer (some ⟨sb, 0, none⟩)) ?qq_3_0 (fun _ _ => ?qr_3_0)
    case qr_3_0 => exact (rfl : (Value.pointer (some ⟨sb, 0, none⟩)) = (Value.pointer (some ⟨sb, 0, none⟩)))
    with_reducible refine quietAt_mv (.tmp 0) (Value.pointer (some ⟨sb, 0, none⟩)) ?h0_3_0 ?h1_3_0
    case h0_3_0 => rfl
    case h1_3_0 => exact e0
  · intro A u hu hpu hsz hout hdeps
    have e0 : A.eval (.tmp 0) = (.pointer (some ⟨sb, 0, none⟩)) := (hout 0 (by kernel_rfl)).trans rfl
    refine ifw_none rfl ?_
    with_reducible refine shown_q (Value.pointer (some ⟨sb, 0, none⟩)) ?qq_3_1 (fun _ _ => ?qr_3_1)
    case qr_3_1 => exact (rfl : (Value.pointer (some ⟨sb, 0, none⟩)) = (Value.pointer (some ⟨sb, 0, none⟩)))
    with_reducible refine quietAt_mv (.tmp 0) (Value.pointer (some ⟨sb, 0, none⟩)) ?h0_3_1 ?h1_3_1
    case h0_3_1 => rfl
    case h1_3_1 => exact e0
  · intro A u hu hpu hsz hout hdeps
    have e14 : A.eval (.tmp 14) = (.pointer (some ⟨sb, 0, none⟩)) := by have h := depL hdeps 1 (by kernel_rfl) 14 (by kernel_rfl); exact h
    refine ifw_none rfl ?_
    with_reducible refine shown_q (Value.pointer (some ⟨sb, 0, none⟩)) ?qq_3_2 (fun _ _ => ?qr_3_2)
    case qr_3_2 => exact (rfl : (Value.pointer (some ⟨sb, 0, none⟩)) = (Value.pointer (some ⟨sb, 0, none⟩)))
    with_reducible refine quietAt_nil (.tmp 14) ?h0_3_2 ⟨sb, 0, none⟩ ?h1_3_2
    case h0_3_2 => rfl
    case h1_3_2 => exact e14
  · intro A u hu hpu hsz hout hdeps
    have e15 : A.eval (.tmp 15) = (.pointer (some ⟨sb, 0, none⟩)) := by have h := depL hdeps 2 (by kernel_rfl) 15 (by kernel_rfl); exact h
    refine ifw_none rfl ?_
    with_reducible refine shown_q (Value.pointer (some ⟨sb, 8, none⟩)) ?qq_3_3 (fun _ _ => ?qr_3_3)
    case qr_3_3 => exact (rfl : (Value.pointer (some ⟨sb, 8, none⟩)) = (Value.pointer (some ⟨sb, 8, none⟩)))
    with_reducible refine quietAt_field 78 (.tmp 15) 6 ?h0_3_3 ⟨sb, 0, none⟩ ⟨sb, 8, none⟩ ?h1_3_3 ?h2_3_3
    case h0_3_3 => rfl
    case h1_3_3 => exact e15
    case h2_3_3 => kernel_rfl
  · intro A u hu hpu hsz hout hdeps
    have e16 : A.eval (.tmp 16) = (.pointer (some ⟨sb, 8, none⟩)) := by have h := depL hdeps 3 (by kernel_rfl) 16 (by kernel_rfl); exact h
    refine ifw_none rfl ?_
    with_reducible refine shown_q (Value.int .i64 sp) ?qq_3_4 (fun _ _ => ?qr_3_4)
    case qr_3_4 => exact (rfl : (Value.int .i64 sp) = (Value.int .i64 sp))
    with_reducible refine quietAt_ld 3 (.tmp 16) (Value.pointer (some ⟨sb, 8, none⟩)) (Value.int .i64 sp) ?h0_3_4 ?h1_3_4 ?h2_3_4
    case h0_3_4 => rfl
    case h1_3_4 => exact e16
    case h2_3_4 => exact ld3 sb 8 sp u (HY1.out u hu)
  · intro A u hu hpu hsz hout hdeps
    have e3 : A.eval (.tmp 3) = (.pointer (some ⟨ob, 0, none⟩)) := (hout 3 (by kernel_rfl)).trans rfl
    refine ifw_none rfl ?_
    with_reducible refine shown_q (Value.agg [Value.int .i64 10, Value.int .i64 on, Value.string nm, Value.string to, Value.slice ba bn bc, Value.int .i64 nv, Value.int .i64 kv, Value.slice fa fn fc].toArray) ?qq_3_5 (fun _ _ => ?qr_3_5)
    case qr_3_5 => exact (rfl : (Value.agg [Value.int .i64 10, Value.int .i64 on, Value.string nm, Value.string to, Value.slice ba bn bc, Value.int .i64 nv, Value.int .i64 kv, Value.slice fa fn fc].toArray) = (Value.agg [Value.int .i64 10, Value.int .i64 on, Value.string nm, Value.string to, Value.slice ba bn bc, Value.int .i64 nv, Value.int .i64 kv, Value.slice fa fn fc].toArray))
    with_reducible refine quietAt_load 83 (.tmp 3) ?h0_3_5 ob 0 [Value.int .i64 10, Value.int .i64 on, Value.string nm, Value.string to, Value.slice ba bn bc, Value.int .i64 nv, Value.int .i64 kv, Value.slice fa fn fc] (.struct (Tryz.prog.fieldsOf 83)) ?h1_3_5 ?h2_3_5 ?h3_3_5 ?h4_3_5 ?h5_3_5
    case h0_3_5 => rfl
    case h1_3_5 => exact e3
    case h2_3_5 => exact (HB1.out.keep hu).whole
    case h3_3_5 => exact Tryz.underlying83
    case h4_3_5 => rfl
    case h5_3_5 => exact Tryz.size83
  · intro A u hu hpu hsz hout hdeps
    have e18 : A.eval (.tmp 18) = (.agg [Value.int .i64 10, .int .i64 on, .string nm, .string to, .slice ba bn bc, .int .i64 nv, .int .i64 kv, .slice fa fn fc].toArray) := by have h := depL hdeps 5 (by kernel_rfl) 18 (by kernel_rfl); exact h
    refine ifw_none rfl ?_
    with_reducible refine shown_call 21 Tryz.f21 ?h0_3_6 ?h1_3_6 ?h2_3_6 #[.tmp 18] #[83] ?h3_3_6 #[(Value.agg [Value.int .i64 10, Value.int .i64 on, Value.string nm, Value.string to, Value.slice ba bn bc, Value.int .i64 nv, Value.int .i64 kv, Value.slice fa fn fc].toArray)] ?h4_3_6 ?h5_3_6
    case h0_3_6 => exact Tryz.func21
    case h1_3_6 => kernel_rfl
    case h2_3_6 => kernel_rfl
    case h3_3_6 => rfl
    case h4_3_6 => exact map1 _ _ _ e18
    case h5_3_6 => exact H21.out u hu
  · intro A u hu hpu hsz hout hdeps
    have e17 : A.eval (.tmp 17) = (.int .i64 sp) := by have h := depL hdeps 4 (by kernel_rfl) 17 (by kernel_rfl); exact h
    have f19 : (fun v _ => v = Value.int .i64 (z : Nat)) (A.eval (.tmp 19)) u := by have h := depL hdeps 6 (by kernel_rfl) 19 (by kernel_rfl); exact h
    have e19 := (f19 : _ = Value.int .i64 (z : Nat))
    refine ifw_none rfl ?_
    with_reducible refine shown_q (Value.int .i64 (sp + (z : Nat))) ?qq_3_7 (fun _ _ => ?qr_3_7)
    case qr_3_7 => exact (rfl : (Value.int .i64 (sp + (z : Nat))) = (Value.int .i64 (sp + (z : Nat))))
    with_reducible refine quietAt_bin .add 3 (.tmp 17) (.tmp 19) 3 (Value.int .i64 sp) (Value.int .i64 (z : Nat)) (Value.int .i64 (sp + (z : Nat))) ?h0_3_7 ?h1_3_7 ?h2_3_7 ?h3_3_7
    case h0_3_7 => rfl
    case h1_3_7 => exact e17
    case h2_3_7 => exact e19
    case h3_3_7 => exact HAdd.out _ _ u
  · intro A u hu hpu hsz hout hdeps
    have e13 : A.eval (.tmp 13) = (.pointer (some ⟨sb, 0, none⟩)) := by have h := depL hdeps 0 (by kernel_rfl) 13 (by kernel_rfl); exact h
    refine ifw_none rfl ?_
    with_reducible refine shown_q (Value.pointer (some ⟨sb, 0, none⟩)) ?qq_3_8 (fun _ _ => ?qr_3_8)
    case qr_3_8 => exact (rfl : (Value.pointer (some ⟨sb, 0, none⟩)) = (Value.pointer (some ⟨sb, 0, none⟩)))
    with_reducible refine quietAt_nil (.tmp 13) ?h0_3_8 ⟨sb, 0, none⟩ ?h1_3_8
    case h0_3_8 => rfl
    case h1_3_8 => exact e13
  · intro A u hu hpu hsz hout hdeps
    have e21 : A.eval (.tmp 21) = (.pointer (some ⟨sb, 0, none⟩)) := by have h := depL hdeps 8 (by kernel_rfl) 21 (by kernel_rfl); exact h
    refine ifw_none rfl ?_
    with_reducible refine shown_q (Value.pointer (some ⟨sb, 8, none⟩)) ?qq_3_9 (fun _ _ => ?qr_3_9)
    case qr_3_9 => exact (rfl : (Value.pointer (some ⟨sb, 8, none⟩)) = (Value.pointer (some ⟨sb, 8, none⟩)))
    with_reducible refine quietAt_field 78 (.tmp 21) 6 ?h0_3_9 ⟨sb, 0, none⟩ ⟨sb, 8, none⟩ ?h1_3_9 ?h2_3_9
    case h0_3_9 => rfl
    case h1_3_9 => exact e21
    case h2_3_9 => kernel_rfl
  · intro A u8 listed hh hall
    have hA := hh.frame
    have HU := hid hh.grown
    obtain ⟨x13, hx13⟩ : ∃ x, A.eval (.tmp 13) = x := ⟨_, rfl⟩
    have f13 : (fun v _ => v = (Value.pointer (some ⟨sb, 0, none⟩))) x13 u8 := by rw [← hx13]; exact hh.got 0 _ 13 rfl rfl (hall 0 (by decide))
    obtain ⟨x14, hx14⟩ : ∃ x, A.eval (.tmp 14) = x := ⟨_, rfl⟩
    have f14 : (fun v _ => v = (Value.pointer (some ⟨sb, 0, none⟩))) x14 u8 := by rw [← hx14]; exact hh.got 1 _ 14 rfl rfl (hall 1 (by decide))
    obtain ⟨x15, hx15⟩ : ∃ x, A.eval (.tmp 15) = x := ⟨_, rfl⟩
    have f15 : (fun v _ => v = (Value.pointer (some ⟨sb, 0, none⟩))) x15 u8 := by rw [← hx15]; exact hh.got 2 _ 15 rfl rfl (hall 2 (by decide))
    obtain ⟨x16, hx16⟩ : ∃ x, A.eval (.tmp 16) = x := ⟨_, rfl⟩
    have f16 : (fun v _ => v = (Value.pointer (some ⟨sb, 8, none⟩))) x16 u8 := by rw [← hx16]; exact hh.got 3 _ 16 rfl rfl (hall 3 (by decide))
    obtain ⟨x17, hx17⟩ : ∃ x, A.eval (.tmp 17) = x := ⟨_, rfl⟩
    have f17 : (fun v _ => v = (Value.int .i64 sp)) x17 u8 := by rw [← hx17]; exact hh.got 4 _ 17 rfl rfl (hall 4 (by decide))
    obtain ⟨x18, hx18⟩ : ∃ x, A.eval (.tmp 18) = x := ⟨_, rfl⟩
    have f18 : (fun v _ => v = (Value.agg [Value.int .i64 10, Value.int .i64 on, Value.string nm, Value.string to, Value.slice ba bn bc, Value.int .i64 nv, Value.int .i64 kv, Value.slice fa fn fc].toArray)) x18 u8 := by rw [← hx18]; exact hh.got 5 _ 18 rfl rfl (hall 5 (by decide))
    obtain ⟨x19, hx19⟩ : ∃ x, A.eval (.tmp 19) = x := ⟨_, rfl⟩
    have f19 : (fun v _ => v = Value.int .i64 (z : Nat)) x19 u8 := by rw [← hx19]; exact hh.got 6 _ 19 rfl rfl (hall 6 (by decide))
    obtain ⟨x20, hx20⟩ : ∃ x, A.eval (.tmp 20) = x := ⟨_, rfl⟩
    have f20 : (fun v _ => v = (Value.int .i64 (sp + (z : Nat)))) x20 u8 := by rw [← hx20]; exact hh.got 7 _ 20 rfl rfl (hall 7 (by decide))
    obtain ⟨x21, hx21⟩ : ∃ x, A.eval (.tmp 21) = x := ⟨_, rfl⟩
    have f21 : (fun v _ => v = (Value.pointer (some ⟨sb, 0, none⟩))) x21 u8 := by rw [← hx21]; exact hh.got 8 _ 21 rfl rfl (hall 8 (by decide))
    obtain ⟨x22, hx22⟩ : ∃ x, A.eval (.tmp 22) = x := ⟨_, rfl⟩
    have f22 : (fun v _ => v = (Value.pointer (some ⟨sb, 8, none⟩))) x22 u8 := by rw [← hx22]; exact hh.got 9 _ 22 rfl rfl (hall 9 (by decide))
    dsimp only [wrote, List.foldl] at hA
    rw [hx13, hx14, hx15, hx16, hx17, hx18, hx19, hx20, hx21, hx22] at hA
    clear hh hall hx13 hx14 hx15 hx16 hx17 hx18 hx19 hx20 hx21 hx22
    replace f13 := (f13 : x13 = (.pointer (some ⟨sb, 0, none⟩)))
    subst f13
    replace f14 := (f14 : x14 = (.pointer (some ⟨sb, 0, none⟩)))
    subst f14
    replace f15 := (f15 : x15 = (.pointer (some ⟨sb, 0, none⟩)))
    subst f15
    replace f16 := (f16 : x16 = (.pointer (some ⟨sb, 8, none⟩)))
    subst f16
    replace f17 := (f17 : x17 = (.int .i64 sp))
    subst f17
    replace f18 := (f18 : x18 = (.agg [Value.int .i64 10, .int .i64 on, .string nm, .string to, .slice ba bn bc, .int .i64 nv, .int .i64 kv, .slice fa fn fc].toArray))
    subst f18
    have e19 := (f19 : _ = Value.int .i64 (z : Nat))
    subst e19
    replace f20 := (f20 : x20 = (.int .i64 (sp + (z : Nat))))
    subst f20
    replace f21 := (f21 : x21 = (.pointer (some ⟨sb, 0, none⟩)))
    subst f21
    replace f22 := (f22 : x22 = (.pointer (some ⟨sb, 8, none⟩)))
    subst f22
    subst hA
    show wpList _ _ _ [_] _ _
    simp only [Act.put, List.setIfInBounds_toArray, List.set_cons_succ, List.set_cons_zero]
    have hM8 : Mid w sb bk sk ob [Value.int .i64 10, .int .i64 on, .string nm, .string to, .slice ba bn bc, .int .i64 nv, .int .i64 kv, .slice fa fn fc] b c A (fun j => (A j).sr) tn sp k (A k) (A k).sr false false u8 := (mid_box HS.out HOB.out HG1.out HB1.out HZ1.out).keep HU.out
    obtain ⟨col8, hs8, ho8⟩ := hM8
    have hb8 := hs8.s.blk
    have y8 : u8.cell? ⟨sb, 8, none⟩ = some (.int .i64 sp) := hb8.cell 8
    have f8 := hb8.frozen 8
    have hl8 := hb8.lt
    have hM9 : Mid w sb bk sk ob [Value.int .i64 10, .int .i64 on, .string nm, .string to, .slice ba bn bc, .int .i64 nv, .int .i64 kv, .slice fa fn fc] b c A (fun j => (A j).sr) tn (sp + (z : Nat)) k (A k) (A k).sr false false (u8.setCell ⟨sb, 8, none⟩ (.int .i64 (sp + (z : Nat)))) := mid_store hs8 ho8 (sp + (z : Nat))
    have y9 : (u8.setCell ⟨sb, 8, none⟩ (.int .i64 (sp + (z : Nat)))).cell? ⟨sb, 8, none⟩ = some (.int .i64 (sp + (z : Nat))) := (hb8.set 8 (.int .i64 (sp + (z : Nat)))).cell 8
    obtain ⟨u9, hu9⟩ : ∃ x, u8.setCell ⟨sb, 8, none⟩ (.int .i64 (sp + (z : Nat))) = x := ⟨_, rfl⟩
    rw [hu9] at hM9 y9
    have HM9 := hid hM9
    clear hs8 ho8 hb8 hM9 HS HY1 H21 HAdd HB1 HG1 HZ1 HOB HU
    obtain ⟨d0, d2⟩ := mid_dw HM9.out hk
    obtain ⟨bK, hbK⟩ : ∃ x, b k = x := ⟨_, rfl⟩
    obtain ⟨cK, hcK⟩ : ∃ x, c k = x := ⟨_, rfl⟩
    have HBK := hid hbK
    have HCK := hid hcK
    rw [hbK] at d0
    rw [hcK] at d2
    clear hbK hcK
    have c0 : u9.cell? ⟨ob, 0, none⟩ = some (.int .i64 10) := HM9.out.cell 0
    have c2 : u9.cell? ⟨ob, 2, none⟩ = some (.string nm) := HM9.out.cell 2
    have c3 : u9.cell? ⟨ob, 3, none⟩ = some (.string to) := HM9.out.cell 3
    have c4 : u9.cell? ⟨ob, 4, none⟩ = some (.slice ba bn bc) := HM9.out.cell 4
    have c5 : u9.cell? ⟨ob, 5, none⟩ = some (.int .i64 nv) := HM9.out.cell 5
    have c6 : u9.cell? ⟨ob, 6, none⟩ = some (.int .i64 kv) := HM9.out.cell 6
    have c7 : u9.cell? ⟨ob, 7, none⟩ = some (.slice fa fn fc) := HM9.out.cell 7
    go_wp2_with (go_at_call 7; (with_reducible refine (HX.out _ u9 HM9.out).mono ?_); rintro e w9 ⟨rfl, hp⟩; have HP := hid hp; clear hp)
    go_ret
    exact ⟨rfl, HP.out⟩
set_option maxRecDepth 100000 in
set_option maxHeartbeats 8000000 in
theorem plays_load {on : Int} {nm to : ByteArray} {ba fa : Option Addr} {bn bc fn fc z k : Nat} {nv kv : Int} (h : Stg w u col sb bk sk b c A (fun j => (A j).sr) tn sp) (hk : k < 2) (hand : bits .and .i64 on 1 = (k : Int)) (hsp : 0 ≤ sp ∧ sp + (z : Nat) < 9223372036854775807) (hle : ¬ 1048576 < sp + (z : Nat))
    (H21 : Hid (∀ u', u.grownBy u' none → Calls Tryz.prog 21 #[.agg [Value.int .i64 11, .int .i64 on, .string nm, .string to, .slice ba bn bc, .int .i64 nv, .int .i64 kv, .slice fa fn fc].toArray] u' fun e w' => ∃ v, e = .returned v ∧ u'.grownBy w' none ∧ v = Value.int .i64 (z : Nat)))
    (HX : Hid (∀ ob u9, Mid w sb bk sk ob [Value.int .i64 11, .int .i64 on, .string nm, .string to, .slice ba bn bc, .int .i64 nv, .int .i64 kv, .slice fa fn fc] b c A (fun j => (A j).sr) tn (sp + (z : Nat)) k (A k) (A k).sr false false u9 → Calls Tryz.prog 35 #[.pointer (some ⟨sb, 0, none⟩), .int .i64 (k : Nat), .slice fa fn fc, .int .i64 nv] u9 fun e u' => e = .returned (.bool true) ∧ PEnd w sb bk sk tn (sp + (z : Nat)) M u')) :
    Calls Tryz.prog 8 #[.pointer (some ⟨sb, 0, none⟩), .agg [Value.int .i64 11, .int .i64 on, .string nm, .string to, .slice ba bn bc, .int .i64 nv, .int .i64 kv, .slice fa fn fc].toArray] u fun e u' => e = .returned (.bool true) ∧ PEnd w sb bk sk tn (sp + (z : Nat)) M u' := by
  have hk' : (k : Int) < 2 := by omega
  have HS := hid h
  have HAdd : Hid (∀ (x y : Operand) (u : World), (do eqGuard .add 3 x y (.int .i64 sp) (.int .i64 (z : Nat)); binOp .add 3 (.int .i64 sp) (.int .i64 (z : Nat)) : Sem Value).run Tryz.prog u = .ok (.int .i64 (sp + (z : Nat))) u) := hid (fun x y u => by have q := wrap_add hsp; go_simp)
  clear h hsp
  go_enter Tryz.func8, Tryz.ntmps8
  go_upto_region 2 with ((with_reducible refine wpList_box_row (by with_unfolding_all rfl) 83 _ (by with_unfolding_all rfl) [Value.int .i64 11, .int .i64 on, .string nm, .string to, .slice ba bn bc, .int .i64 nv, .int .i64 kv, .slice fa fn fc] (by with_unfolding_all rfl) ?_); intro w1 B1 s1 g1; have HB1 := hid B1; have HG1 := hid g1; have HZ1 := hid s1; have c1 := B1.cell 1; clear B1 s1 g1)
  clear c1
  obtain ⟨ob, hob⟩ : ∃ x, u.heap.size = x := ⟨_, rfl⟩
  have HOB := hid hob
  rw [hob] at HB1 HZ1 ⊢
  clear hob
  replace H21 : Hid (∀ u', w1.grownBy u' none → Calls Tryz.prog 21 #[.agg [Value.int .i64 11, .int .i64 on, .string nm, .string to, .slice ba bn bc, .int .i64 nv, .int .i64 kv, .slice fa fn fc].toArray] u' fun e w' => ∃ v, e = .returned v ∧ u'.grownBy w' none ∧ v = Value.int .i64 (z : Nat)) := hid (fun u' hu => H21.out u' (gtrans HG1.out hu))
  have HY1 : Hid (∀ u', w1.grownBy u' none → u'.cell? ⟨sb, 8, none⟩ = some (.int .i64 sp)) := hid (fun u' hu => (HS.out.s.blk.keep (gtrans HG1.out hu)).cell 8)
  refine wp_region_listX (by kernel_rfl) [fun v _ => v = (Value.pointer (some ⟨sb, 0, none⟩)), fun v _ => v = (Value.pointer (some ⟨sb, 0, none⟩)), fun v _ => v = (Value.pointer (some ⟨sb, 0, none⟩)), fun v _ => v = (Value.pointer (some ⟨sb, 8, none⟩)), fun v _ => v = (Value.int .i64 sp), fun v _ => v = (Value.agg [Value.int .i64 11, Value.int .i64 on, Value.string nm, Value.string to, Value.slice ba bn bc, Value.int .i64 nv, Value.int .i64 kv, Value.slice fa fn fc].toArray), fun v _ => v = Value.int .i64 (z : Nat), fun v _ => v = (Value.int .i64 (sp + (z : Nat))), fun v _ => v = (Value.pointer (some ⟨sb, 0, none⟩)), fun v _ => v = (Value.pointer (some ⟨sb, 8, none⟩))] (none) (fun _ => none) 10 (by kernel_rfl) (by kernel_rfl) (by kernel_rfl) (by kernel_rfl) (by decide) noRow_one (fun _ => .inl rfl) ⟨fun i v u u' hki h hg => h, fun i v u u' hki h hg => h, fun i v u u' hki h hg => h, fun i v u u' hki h hg => h, fun i v u u' hki h hg => h, fun i v u u' hki h hg => h, fun i v u u' hki h hg => h, fun i v u u' hki h hg => h, fun i v u u' hki h hg => h, fun i v u u' hki h hg => h, trivial⟩ ⟨?_, ?_, ?_, ?_, ?_, ?_, ?_, ?_, ?_, ?_, trivial⟩ ?_
  · intro A u hu hpu hsz hout hdeps
    have e0 : A.eval (.tmp 0) = (.pointer (some ⟨sb, 0, none⟩)) := (hout 0 (by kernel_rfl)).trans rfl
    refine ifw_none rfl ?_
    with_reducible refine shown_q (Value.pointer (some ⟨sb, 0, none⟩)) ?qq_4_0 (fun _ _ => ?qr_4_0)
    case qr_4_0 => exact (rfl : (Value.pointer (some ⟨sb, 0, none⟩)) = (Value.pointer (some ⟨sb, 0, none⟩)))
    with_reducible refine quietAt_mv (.tmp 0) (Value.pointer (some ⟨sb, 0, none⟩)) ?h0_4_0 ?h1_4_0
    case h0_4_0 => rfl
    case h1_4_0 => exact e0
  · intro A u hu hpu hsz hout hdeps
    have e0 : A.eval (.tmp 0) = (.pointer (some ⟨sb, 0, none⟩)) := (hout 0 (by kernel_rfl)).trans rfl
    refine ifw_none rfl ?_
    with_reducible refine shown_q (Value.pointer (some ⟨sb, 0, none⟩)) ?qq_4_1 (fun _ _ => ?qr_4_1)
    case qr_4_1 => exact (rfl : (Value.pointer (some ⟨sb, 0, none⟩)) = (Value.pointer (some ⟨sb, 0, none⟩)))
    with_reducible refine quietAt_mv (.tmp 0) (Value.pointer (some ⟨sb, 0, none⟩)) ?h0_4_1 ?h1_4_1
    case h0_4_1 => rfl
    case h1_4_1 => exact e0
  · intro A u hu hpu hsz hout hdeps
    have e14 : A.eval (.tmp 14) = (.pointer (some ⟨sb, 0, none⟩)) := by have h := depL hdeps 1 (by kernel_rfl) 14 (by kernel_rfl); exact h
    refine ifw_none rfl ?_
    with_reducible refine shown_q (Value.pointer (some ⟨sb, 0, none⟩)) ?qq_4_2 (fun _ _ => ?qr_4_2)
    case qr_4_2 => exact (rfl : (Value.pointer (some ⟨sb, 0, none⟩)) = (Value.pointer (some ⟨sb, 0, none⟩)))
    with_reducible refine quietAt_nil (.tmp 14) ?h0_4_2 ⟨sb, 0, none⟩ ?h1_4_2
    case h0_4_2 => rfl
    case h1_4_2 => exact e14
  · intro A u hu hpu hsz hout hdeps
    have e15 : A.eval (.tmp 15) = (.pointer (some ⟨sb, 0, none⟩)) := by have h := depL hdeps 2 (by kernel_rfl) 15 (by kernel_rfl); exact h
    refine ifw_none rfl ?_
    with_reducible refine shown_q (Value.pointer (some ⟨sb, 8, none⟩)) ?qq_4_3 (fun _ _ => ?qr_4_3)
    case qr_4_3 => exact (rfl : (Value.pointer (some ⟨sb, 8, none⟩)) = (Value.pointer (some ⟨sb, 8, none⟩)))
    with_reducible refine quietAt_field 78 (.tmp 15) 6 ?h0_4_3 ⟨sb, 0, none⟩ ⟨sb, 8, none⟩ ?h1_4_3 ?h2_4_3
    case h0_4_3 => rfl
    case h1_4_3 => exact e15
    case h2_4_3 => kernel_rfl
  · intro A u hu hpu hsz hout hdeps
    have e16 : A.eval (.tmp 16) = (.pointer (some ⟨sb, 8, none⟩)) := by have h := depL hdeps 3 (by kernel_rfl) 16 (by kernel_rfl); exact h
    refine ifw_none rfl ?_
    with_reducible refine shown_q (Value.int .i64 sp) ?qq_4_4 (fun _ _ => ?qr_4_4)
    case qr_4_4 => exact (rfl : (Value.int .i64 sp) = (Value.int .i64 sp))
    with_reducible refine quietAt_ld 3 (.tmp 16) (Value.pointer (some ⟨sb, 8, none⟩)) (Value.int .i64 sp) ?h0_4_4 ?h1_4_4 ?h2_4_4
    case h0_4_4 => rfl
    case h1_4_4 => exact e16
    case h2_4_4 => exact ld3 sb 8 sp u (HY1.out u hu)
  · intro A u hu hpu hsz hout hdeps
    have e3 : A.eval (.tmp 3) = (.pointer (some ⟨ob, 0, none⟩)) := (hout 3 (by kernel_rfl)).trans rfl
    refine ifw_none rfl ?_
    with_reducible refine shown_q (Value.agg [Value.int .i64 11, Value.int .i64 on, Value.string nm, Value.string to, Value.slice ba bn bc, Value.int .i64 nv, Value.int .i64 kv, Value.slice fa fn fc].toArray) ?qq_4_5 (fun _ _ => ?qr_4_5)
    case qr_4_5 => exact (rfl : (Value.agg [Value.int .i64 11, Value.int .i64 on, Value.string nm, Value.string to, Value.slice ba bn bc, Value.int .i64 nv, Value.int .i64 kv, Value.slice fa fn fc].toArray) = (Value.agg [Value.int .i64 11, Value.int .i64 on, Value.string nm, Value.string to, Value.slice ba bn bc, Value.int .i64 nv, Value.int .i64 kv, Value.slice fa fn fc].toArray))
    with_reducible refine quietAt_load 83 (.tmp 3) ?h0_4_5 ob 0 [Value.int .i64 11, Value.int .i64 on, Value.string nm, Value.string to, Value.slice ba bn bc, Value.int .i64 nv, Value.int .i64 kv, Value.slice fa fn fc] (.struct (Tryz.prog.fieldsOf 83)) ?h1_4_5 ?h2_4_5 ?h3_4_5 ?h4_4_5 ?h5_4_5
    case h0_4_5 => rfl
    case h1_4_5 => exact e3
    case h2_4_5 => exact (HB1.out.keep hu).whole
    case h3_4_5 => exact Tryz.underlying83
    case h4_4_5 => rfl
    case h5_4_5 => exact Tryz.size83
  · intro A u hu hpu hsz hout hdeps
    have e18 : A.eval (.tmp 18) = (.agg [Value.int .i64 11, .int .i64 on, .string nm, .string to, .slice ba bn bc, .int .i64 nv, .int .i64 kv, .slice fa fn fc].toArray) := by have h := depL hdeps 5 (by kernel_rfl) 18 (by kernel_rfl); exact h
    refine ifw_none rfl ?_
    with_reducible refine shown_call 21 Tryz.f21 ?h0_4_6 ?h1_4_6 ?h2_4_6 #[.tmp 18] #[83] ?h3_4_6 #[(Value.agg [Value.int .i64 11, Value.int .i64 on, Value.string nm, Value.string to, Value.slice ba bn bc, Value.int .i64 nv, Value.int .i64 kv, Value.slice fa fn fc].toArray)] ?h4_4_6 ?h5_4_6
    case h0_4_6 => exact Tryz.func21
    case h1_4_6 => kernel_rfl
    case h2_4_6 => kernel_rfl
    case h3_4_6 => rfl
    case h4_4_6 => exact map1 _ _ _ e18
    case h5_4_6 => exact H21.out u hu
  · intro A u hu hpu hsz hout hdeps
    have e17 : A.eval (.tmp 17) = (.int .i64 sp) := by have h := depL hdeps 4 (by kernel_rfl) 17 (by kernel_rfl); exact h
    have f19 : (fun v _ => v = Value.int .i64 (z : Nat)) (A.eval (.tmp 19)) u := by have h := depL hdeps 6 (by kernel_rfl) 19 (by kernel_rfl); exact h
    have e19 := (f19 : _ = Value.int .i64 (z : Nat))
    refine ifw_none rfl ?_
    with_reducible refine shown_q (Value.int .i64 (sp + (z : Nat))) ?qq_4_7 (fun _ _ => ?qr_4_7)
    case qr_4_7 => exact (rfl : (Value.int .i64 (sp + (z : Nat))) = (Value.int .i64 (sp + (z : Nat))))
    with_reducible refine quietAt_bin .add 3 (.tmp 17) (.tmp 19) 3 (Value.int .i64 sp) (Value.int .i64 (z : Nat)) (Value.int .i64 (sp + (z : Nat))) ?h0_4_7 ?h1_4_7 ?h2_4_7 ?h3_4_7
    case h0_4_7 => rfl
    case h1_4_7 => exact e17
    case h2_4_7 => exact e19
    case h3_4_7 => exact HAdd.out _ _ u
  · intro A u hu hpu hsz hout hdeps
    have e13 : A.eval (.tmp 13) = (.pointer (some ⟨sb, 0, none⟩)) := by have h := depL hdeps 0 (by kernel_rfl) 13 (by kernel_rfl); exact h
    refine ifw_none rfl ?_
    with_reducible refine shown_q (Value.pointer (some ⟨sb, 0, none⟩)) ?qq_4_8 (fun _ _ => ?qr_4_8)
    case qr_4_8 => exact (rfl : (Value.pointer (some ⟨sb, 0, none⟩)) = (Value.pointer (some ⟨sb, 0, none⟩)))
    with_reducible refine quietAt_nil (.tmp 13) ?h0_4_8 ⟨sb, 0, none⟩ ?h1_4_8
    case h0_4_8 => rfl
    case h1_4_8 => exact e13
  · intro A u hu hpu hsz hout hdeps
    have e21 : A.eval (.tmp 21) = (.pointer (some ⟨sb, 0, none⟩)) := by have h := depL hdeps 8 (by kernel_rfl) 21 (by kernel_rfl); exact h
    refine ifw_none rfl ?_
    with_reducible refine shown_q (Value.pointer (some ⟨sb, 8, none⟩)) ?qq_4_9 (fun _ _ => ?qr_4_9)
    case qr_4_9 => exact (rfl : (Value.pointer (some ⟨sb, 8, none⟩)) = (Value.pointer (some ⟨sb, 8, none⟩)))
    with_reducible refine quietAt_field 78 (.tmp 21) 6 ?h0_4_9 ⟨sb, 0, none⟩ ⟨sb, 8, none⟩ ?h1_4_9 ?h2_4_9
    case h0_4_9 => rfl
    case h1_4_9 => exact e21
    case h2_4_9 => kernel_rfl
  · intro A u8 listed hh hall
    have hA := hh.frame
    have HU := hid hh.grown
    obtain ⟨x13, hx13⟩ : ∃ x, A.eval (.tmp 13) = x := ⟨_, rfl⟩
    have f13 : (fun v _ => v = (Value.pointer (some ⟨sb, 0, none⟩))) x13 u8 := by rw [← hx13]; exact hh.got 0 _ 13 rfl rfl (hall 0 (by decide))
    obtain ⟨x14, hx14⟩ : ∃ x, A.eval (.tmp 14) = x := ⟨_, rfl⟩
    have f14 : (fun v _ => v = (Value.pointer (some ⟨sb, 0, none⟩))) x14 u8 := by rw [← hx14]; exact hh.got 1 _ 14 rfl rfl (hall 1 (by decide))
    obtain ⟨x15, hx15⟩ : ∃ x, A.eval (.tmp 15) = x := ⟨_, rfl⟩
    have f15 : (fun v _ => v = (Value.pointer (some ⟨sb, 0, none⟩))) x15 u8 := by rw [← hx15]; exact hh.got 2 _ 15 rfl rfl (hall 2 (by decide))
    obtain ⟨x16, hx16⟩ : ∃ x, A.eval (.tmp 16) = x := ⟨_, rfl⟩
    have f16 : (fun v _ => v = (Value.pointer (some ⟨sb, 8, none⟩))) x16 u8 := by rw [← hx16]; exact hh.got 3 _ 16 rfl rfl (hall 3 (by decide))
    obtain ⟨x17, hx17⟩ : ∃ x, A.eval (.tmp 17) = x := ⟨_, rfl⟩
    have f17 : (fun v _ => v = (Value.int .i64 sp)) x17 u8 := by rw [← hx17]; exact hh.got 4 _ 17 rfl rfl (hall 4 (by decide))
    obtain ⟨x18, hx18⟩ : ∃ x, A.eval (.tmp 18) = x := ⟨_, rfl⟩
    have f18 : (fun v _ => v = (Value.agg [Value.int .i64 11, Value.int .i64 on, Value.string nm, Value.string to, Value.slice ba bn bc, Value.int .i64 nv, Value.int .i64 kv, Value.slice fa fn fc].toArray)) x18 u8 := by rw [← hx18]; exact hh.got 5 _ 18 rfl rfl (hall 5 (by decide))
    obtain ⟨x19, hx19⟩ : ∃ x, A.eval (.tmp 19) = x := ⟨_, rfl⟩
    have f19 : (fun v _ => v = Value.int .i64 (z : Nat)) x19 u8 := by rw [← hx19]; exact hh.got 6 _ 19 rfl rfl (hall 6 (by decide))
    obtain ⟨x20, hx20⟩ : ∃ x, A.eval (.tmp 20) = x := ⟨_, rfl⟩
    have f20 : (fun v _ => v = (Value.int .i64 (sp + (z : Nat)))) x20 u8 := by rw [← hx20]; exact hh.got 7 _ 20 rfl rfl (hall 7 (by decide))
    obtain ⟨x21, hx21⟩ : ∃ x, A.eval (.tmp 21) = x := ⟨_, rfl⟩
    have f21 : (fun v _ => v = (Value.pointer (some ⟨sb, 0, none⟩))) x21 u8 := by rw [← hx21]; exact hh.got 8 _ 21 rfl rfl (hall 8 (by decide))
    obtain ⟨x22, hx22⟩ : ∃ x, A.eval (.tmp 22) = x := ⟨_, rfl⟩
    have f22 : (fun v _ => v = (Value.pointer (some ⟨sb, 8, none⟩))) x22 u8 := by rw [← hx22]; exact hh.got 9 _ 22 rfl rfl (hall 9 (by decide))
    dsimp only [wrote, List.foldl] at hA
    rw [hx13, hx14, hx15, hx16, hx17, hx18, hx19, hx20, hx21, hx22] at hA
    clear hh hall hx13 hx14 hx15 hx16 hx17 hx18 hx19 hx20 hx21 hx22
    replace f13 := (f13 : x13 = (.pointer (some ⟨sb, 0, none⟩)))
    subst f13
    replace f14 := (f14 : x14 = (.pointer (some ⟨sb, 0, none⟩)))
    subst f14
    replace f15 := (f15 : x15 = (.pointer (some ⟨sb, 0, none⟩)))
    subst f15
    replace f16 := (f16 : x16 = (.pointer (some ⟨sb, 8, none⟩)))
    subst f16
    replace f17 := (f17 : x17 = (.int .i64 sp))
    subst f17
    replace f18 := (f18 : x18 = (.agg [Value.int .i64 11, .int .i64 on, .string nm, .string to, .slice ba bn bc, .int .i64 nv, .int .i64 kv, .slice fa fn fc].toArray))
    subst f18
    have e19 := (f19 : _ = Value.int .i64 (z : Nat))
    subst e19
    replace f20 := (f20 : x20 = (.int .i64 (sp + (z : Nat))))
    subst f20
    replace f21 := (f21 : x21 = (.pointer (some ⟨sb, 0, none⟩)))
    subst f21
    replace f22 := (f22 : x22 = (.pointer (some ⟨sb, 8, none⟩)))
    subst f22
    subst hA
    show wpList _ _ _ [_] _ _
    simp only [Act.put, List.setIfInBounds_toArray, List.set_cons_succ, List.set_cons_zero]
    have hM8 : Mid w sb bk sk ob [Value.int .i64 11, .int .i64 on, .string nm, .string to, .slice ba bn bc, .int .i64 nv, .int .i64 kv, .slice fa fn fc] b c A (fun j => (A j).sr) tn sp k (A k) (A k).sr false false u8 := (mid_box HS.out HOB.out HG1.out HB1.out HZ1.out).keep HU.out
    obtain ⟨col8, hs8, ho8⟩ := hM8
    have hb8 := hs8.s.blk
    have y8 : u8.cell? ⟨sb, 8, none⟩ = some (.int .i64 sp) := hb8.cell 8
    have f8 := hb8.frozen 8
    have hl8 := hb8.lt
    have hM9 : Mid w sb bk sk ob [Value.int .i64 11, .int .i64 on, .string nm, .string to, .slice ba bn bc, .int .i64 nv, .int .i64 kv, .slice fa fn fc] b c A (fun j => (A j).sr) tn (sp + (z : Nat)) k (A k) (A k).sr false false (u8.setCell ⟨sb, 8, none⟩ (.int .i64 (sp + (z : Nat)))) := mid_store hs8 ho8 (sp + (z : Nat))
    have y9 : (u8.setCell ⟨sb, 8, none⟩ (.int .i64 (sp + (z : Nat)))).cell? ⟨sb, 8, none⟩ = some (.int .i64 (sp + (z : Nat))) := (hb8.set 8 (.int .i64 (sp + (z : Nat)))).cell 8
    obtain ⟨u9, hu9⟩ : ∃ x, u8.setCell ⟨sb, 8, none⟩ (.int .i64 (sp + (z : Nat))) = x := ⟨_, rfl⟩
    rw [hu9] at hM9 y9
    have HM9 := hid hM9
    clear hs8 ho8 hb8 hM9 HS HY1 H21 HAdd HB1 HG1 HZ1 HOB HU
    obtain ⟨d0, d2⟩ := mid_dw HM9.out hk
    obtain ⟨bK, hbK⟩ : ∃ x, b k = x := ⟨_, rfl⟩
    obtain ⟨cK, hcK⟩ : ∃ x, c k = x := ⟨_, rfl⟩
    have HBK := hid hbK
    have HCK := hid hcK
    rw [hbK] at d0
    rw [hcK] at d2
    clear hbK hcK
    have c0 : u9.cell? ⟨ob, 0, none⟩ = some (.int .i64 11) := HM9.out.cell 0
    have c2 : u9.cell? ⟨ob, 2, none⟩ = some (.string nm) := HM9.out.cell 2
    have c3 : u9.cell? ⟨ob, 3, none⟩ = some (.string to) := HM9.out.cell 3
    have c4 : u9.cell? ⟨ob, 4, none⟩ = some (.slice ba bn bc) := HM9.out.cell 4
    have c5 : u9.cell? ⟨ob, 5, none⟩ = some (.int .i64 nv) := HM9.out.cell 5
    have c6 : u9.cell? ⟨ob, 6, none⟩ = some (.int .i64 kv) := HM9.out.cell 6
    have c7 : u9.cell? ⟨ob, 7, none⟩ = some (.slice fa fn fc) := HM9.out.cell 7
    go_wp2_with (go_at_call 35; (with_reducible refine (HX.out _ u9 HM9.out).mono ?_); rintro e w9 ⟨rfl, hp⟩; have HP := hid hp; clear hp)
    go_ret
    exact ⟨rfl, HP.out⟩
set_option maxRecDepth 100000 in
set_option maxHeartbeats 8000000 in
theorem plays_else {on : Int} {nm to : ByteArray} {ba fa : Option Addr} {bn bc fn fc z k : Nat} {nv kv dv : Int} (h : Stg w u col sb bk sk b c A (fun j => (A j).sr) tn sp) (hk : k < 2) (hand : bits .and .i64 on 1 = (k : Int)) (hsp : 0 ≤ sp ∧ sp + (z : Nat) < 9223372036854775807) (hle : ¬ 1048576 < sp + (z : Nat))
    (H21 : Hid (∀ u', u.grownBy u' none → Calls Tryz.prog 21 #[.agg [Value.int .i64 dv, .int .i64 on, .string nm, .string to, .slice ba bn bc, .int .i64 nv, .int .i64 kv, .slice fa fn fc].toArray] u' fun e w' => ∃ v, e = .returned v ∧ u'.grownBy w' none ∧ v = Value.int .i64 (z : Nat)))
    (hne : ¬ dv = 1 ∧ ¬ dv = 2 ∧ ¬ dv = 3 ∧ ¬ dv = 4 ∧ ¬ dv = 5 ∧ ¬ dv = 6 ∧ ¬ dv = 7 ∧ ¬ dv = 8 ∧ ¬ dv = 9 ∧ ¬ dv = 10 ∧ ¬ dv = 11 ∧ ¬ dv = 12) :
    Calls Tryz.prog 8 #[.pointer (some ⟨sb, 0, none⟩), .agg [Value.int .i64 dv, .int .i64 on, .string nm, .string to, .slice ba bn bc, .int .i64 nv, .int .i64 kv, .slice fa fn fc].toArray] u fun e u' => e = .returned (.bool true) ∧ ∃ ob oc, Mid w sb bk sk ob oc b c A (fun j => (A j).sr) tn (sp + (z : Nat)) k (A k) (A k).sr false false u' := by
  have hk' : (k : Int) < 2 := by omega
  have HS := hid h
  have HAdd : Hid (∀ (x y : Operand) (u : World), (do eqGuard .add 3 x y (.int .i64 sp) (.int .i64 (z : Nat)); binOp .add 3 (.int .i64 sp) (.int .i64 (z : Nat)) : Sem Value).run Tryz.prog u = .ok (.int .i64 (sp + (z : Nat))) u) := hid (fun x y u => by have q := wrap_add hsp; go_simp)
  clear h hsp
  go_enter Tryz.func8, Tryz.ntmps8
  go_upto_region 2 with ((with_reducible refine wpList_box_row (by with_unfolding_all rfl) 83 _ (by with_unfolding_all rfl) [Value.int .i64 dv, .int .i64 on, .string nm, .string to, .slice ba bn bc, .int .i64 nv, .int .i64 kv, .slice fa fn fc] (by with_unfolding_all rfl) ?_); intro w1 B1 s1 g1; have HB1 := hid B1; have HG1 := hid g1; have HZ1 := hid s1; have c1 := B1.cell 1; clear B1 s1 g1)
  clear c1
  obtain ⟨ob, hob⟩ : ∃ x, u.heap.size = x := ⟨_, rfl⟩
  have HOB := hid hob
  rw [hob] at HB1 HZ1 ⊢
  clear hob
  replace H21 : Hid (∀ u', w1.grownBy u' none → Calls Tryz.prog 21 #[.agg [Value.int .i64 dv, .int .i64 on, .string nm, .string to, .slice ba bn bc, .int .i64 nv, .int .i64 kv, .slice fa fn fc].toArray] u' fun e w' => ∃ v, e = .returned v ∧ u'.grownBy w' none ∧ v = Value.int .i64 (z : Nat)) := hid (fun u' hu => H21.out u' (gtrans HG1.out hu))
  have HY1 : Hid (∀ u', w1.grownBy u' none → u'.cell? ⟨sb, 8, none⟩ = some (.int .i64 sp)) := hid (fun u' hu => (HS.out.s.blk.keep (gtrans HG1.out hu)).cell 8)
  refine wp_region_listX (by kernel_rfl) [fun v _ => v = (Value.pointer (some ⟨sb, 0, none⟩)), fun v _ => v = (Value.pointer (some ⟨sb, 0, none⟩)), fun v _ => v = (Value.pointer (some ⟨sb, 0, none⟩)), fun v _ => v = (Value.pointer (some ⟨sb, 8, none⟩)), fun v _ => v = (Value.int .i64 sp), fun v _ => v = (Value.agg [Value.int .i64 dv, Value.int .i64 on, Value.string nm, Value.string to, Value.slice ba bn bc, Value.int .i64 nv, Value.int .i64 kv, Value.slice fa fn fc].toArray), fun v _ => v = Value.int .i64 (z : Nat), fun v _ => v = (Value.int .i64 (sp + (z : Nat))), fun v _ => v = (Value.pointer (some ⟨sb, 0, none⟩)), fun v _ => v = (Value.pointer (some ⟨sb, 8, none⟩))] (none) (fun _ => none) 10 (by kernel_rfl) (by kernel_rfl) (by kernel_rfl) (by kernel_rfl) (by decide) noRow_one (fun _ => .inl rfl) ⟨fun i v u u' hki h hg => h, fun i v u u' hki h hg => h, fun i v u u' hki h hg => h, fun i v u u' hki h hg => h, fun i v u u' hki h hg => h, fun i v u u' hki h hg => h, fun i v u u' hki h hg => h, fun i v u u' hki h hg => h, fun i v u u' hki h hg => h, fun i v u u' hki h hg => h, trivial⟩ ⟨?_, ?_, ?_, ?_, ?_, ?_, ?_, ?_, ?_, ?_, trivial⟩ ?_
  · intro A u hu hpu hsz hout hdeps
    have e0 : A.eval (.tmp 0) = (.pointer (some ⟨sb, 0, none⟩)) := (hout 0 (by kernel_rfl)).trans rfl
    refine ifw_none rfl ?_
    with_reducible refine shown_q (Value.pointer (some ⟨sb, 0, none⟩)) ?qq_5_0 (fun _ _ => ?qr_5_0)
    case qr_5_0 => exact (rfl : (Value.pointer (some ⟨sb, 0, none⟩)) = (Value.pointer (some ⟨sb, 0, none⟩)))
    with_reducible refine quietAt_mv (.tmp 0) (Value.pointer (some ⟨sb, 0, none⟩)) ?h0_5_0 ?h1_5_0
    case h0_5_0 => rfl
    case h1_5_0 => exact e0
  · intro A u hu hpu hsz hout hdeps
    have e0 : A.eval (.tmp 0) = (.pointer (some ⟨sb, 0, none⟩)) := (hout 0 (by kernel_rfl)).trans rfl
    refine ifw_none rfl ?_
    with_reducible refine shown_q (Value.pointer (some ⟨sb, 0, none⟩)) ?qq_5_1 (fun _ _ => ?qr_5_1)
    case qr_5_1 => exact (rfl : (Value.pointer (some ⟨sb, 0, none⟩)) = (Value.pointer (some ⟨sb, 0, none⟩)))
    with_reducible refine quietAt_mv (.tmp 0) (Value.pointer (some ⟨sb, 0, none⟩)) ?h0_5_1 ?h1_5_1
    case h0_5_1 => rfl
    case h1_5_1 => exact e0
  · intro A u hu hpu hsz hout hdeps
    have e14 : A.eval (.tmp 14) = (.pointer (some ⟨sb, 0, none⟩)) := by have h := depL hdeps 1 (by kernel_rfl) 14 (by kernel_rfl); exact h
    refine ifw_none rfl ?_
    with_reducible refine shown_q (Value.pointer (some ⟨sb, 0, none⟩)) ?qq_5_2 (fun _ _ => ?qr_5_2)
    case qr_5_2 => exact (rfl : (Value.pointer (some ⟨sb, 0, none⟩)) = (Value.pointer (some ⟨sb, 0, none⟩)))
    with_reducible refine quietAt_nil (.tmp 14) ?h0_5_2 ⟨sb, 0, none⟩ ?h1_5_2
    case h0_5_2 => rfl
    case h1_5_2 => exact e14
  · intro A u hu hpu hsz hout hdeps
    have e15 : A.eval (.tmp 15) = (.pointer (some ⟨sb, 0, none⟩)) := by have h := depL hdeps 2 (by kernel_rfl) 15 (by kernel_rfl); exact h
    refine ifw_none rfl ?_
    with_reducible refine shown_q (Value.pointer (some ⟨sb, 8, none⟩)) ?qq_5_3 (fun _ _ => ?qr_5_3)
    case qr_5_3 => exact (rfl : (Value.pointer (some ⟨sb, 8, none⟩)) = (Value.pointer (some ⟨sb, 8, none⟩)))
    with_reducible refine quietAt_field 78 (.tmp 15) 6 ?h0_5_3 ⟨sb, 0, none⟩ ⟨sb, 8, none⟩ ?h1_5_3 ?h2_5_3
    case h0_5_3 => rfl
    case h1_5_3 => exact e15
    case h2_5_3 => kernel_rfl
  · intro A u hu hpu hsz hout hdeps
    have e16 : A.eval (.tmp 16) = (.pointer (some ⟨sb, 8, none⟩)) := by have h := depL hdeps 3 (by kernel_rfl) 16 (by kernel_rfl); exact h
    refine ifw_none rfl ?_
    with_reducible refine shown_q (Value.int .i64 sp) ?qq_5_4 (fun _ _ => ?qr_5_4)
    case qr_5_4 => exact (rfl : (Value.int .i64 sp) = (Value.int .i64 sp))
    with_reducible refine quietAt_ld 3 (.tmp 16) (Value.pointer (some ⟨sb, 8, none⟩)) (Value.int .i64 sp) ?h0_5_4 ?h1_5_4 ?h2_5_4
    case h0_5_4 => rfl
    case h1_5_4 => exact e16
    case h2_5_4 => exact ld3 sb 8 sp u (HY1.out u hu)
  · intro A u hu hpu hsz hout hdeps
    have e3 : A.eval (.tmp 3) = (.pointer (some ⟨ob, 0, none⟩)) := (hout 3 (by kernel_rfl)).trans rfl
    refine ifw_none rfl ?_
    with_reducible refine shown_q (Value.agg [Value.int .i64 dv, Value.int .i64 on, Value.string nm, Value.string to, Value.slice ba bn bc, Value.int .i64 nv, Value.int .i64 kv, Value.slice fa fn fc].toArray) ?qq_5_5 (fun _ _ => ?qr_5_5)
    case qr_5_5 => exact (rfl : (Value.agg [Value.int .i64 dv, Value.int .i64 on, Value.string nm, Value.string to, Value.slice ba bn bc, Value.int .i64 nv, Value.int .i64 kv, Value.slice fa fn fc].toArray) = (Value.agg [Value.int .i64 dv, Value.int .i64 on, Value.string nm, Value.string to, Value.slice ba bn bc, Value.int .i64 nv, Value.int .i64 kv, Value.slice fa fn fc].toArray))
    with_reducible refine quietAt_load 83 (.tmp 3) ?h0_5_5 ob 0 [Value.int .i64 dv, Value.int .i64 on, Value.string nm, Value.string to, Value.slice ba bn bc, Value.int .i64 nv, Value.int .i64 kv, Value.slice fa fn fc] (.struct (Tryz.prog.fieldsOf 83)) ?h1_5_5 ?h2_5_5 ?h3_5_5 ?h4_5_5 ?h5_5_5
    case h0_5_5 => rfl
    case h1_5_5 => exact e3
    case h2_5_5 => exact (HB1.out.keep hu).whole
    case h3_5_5 => exact Tryz.underlying83
    case h4_5_5 => rfl
    case h5_5_5 => exact Tryz.size83
  · intro A u hu hpu hsz hout hdeps
    have e18 : A.eval (.tmp 18) = (.agg [Value.int .i64 dv, .int .i64 on, .string nm, .string to, .slice ba bn bc, .int .i64 nv, .int .i64 kv, .slice fa fn fc].toArray) := by have h := depL hdeps 5 (by kernel_rfl) 18 (by kernel_rfl); exact h
    refine ifw_none rfl ?_
    with_reducible refine shown_call 21 Tryz.f21 ?h0_5_6 ?h1_5_6 ?h2_5_6 #[.tmp 18] #[83] ?h3_5_6 #[(Value.agg [Value.int .i64 dv, Value.int .i64 on, Value.string nm, Value.string to, Value.slice ba bn bc, Value.int .i64 nv, Value.int .i64 kv, Value.slice fa fn fc].toArray)] ?h4_5_6 ?h5_5_6
    case h0_5_6 => exact Tryz.func21
    case h1_5_6 => kernel_rfl
    case h2_5_6 => kernel_rfl
    case h3_5_6 => rfl
    case h4_5_6 => exact map1 _ _ _ e18
    case h5_5_6 => exact H21.out u hu
  · intro A u hu hpu hsz hout hdeps
    have e17 : A.eval (.tmp 17) = (.int .i64 sp) := by have h := depL hdeps 4 (by kernel_rfl) 17 (by kernel_rfl); exact h
    have f19 : (fun v _ => v = Value.int .i64 (z : Nat)) (A.eval (.tmp 19)) u := by have h := depL hdeps 6 (by kernel_rfl) 19 (by kernel_rfl); exact h
    have e19 := (f19 : _ = Value.int .i64 (z : Nat))
    refine ifw_none rfl ?_
    with_reducible refine shown_q (Value.int .i64 (sp + (z : Nat))) ?qq_5_7 (fun _ _ => ?qr_5_7)
    case qr_5_7 => exact (rfl : (Value.int .i64 (sp + (z : Nat))) = (Value.int .i64 (sp + (z : Nat))))
    with_reducible refine quietAt_bin .add 3 (.tmp 17) (.tmp 19) 3 (Value.int .i64 sp) (Value.int .i64 (z : Nat)) (Value.int .i64 (sp + (z : Nat))) ?h0_5_7 ?h1_5_7 ?h2_5_7 ?h3_5_7
    case h0_5_7 => rfl
    case h1_5_7 => exact e17
    case h2_5_7 => exact e19
    case h3_5_7 => exact HAdd.out _ _ u
  · intro A u hu hpu hsz hout hdeps
    have e13 : A.eval (.tmp 13) = (.pointer (some ⟨sb, 0, none⟩)) := by have h := depL hdeps 0 (by kernel_rfl) 13 (by kernel_rfl); exact h
    refine ifw_none rfl ?_
    with_reducible refine shown_q (Value.pointer (some ⟨sb, 0, none⟩)) ?qq_5_8 (fun _ _ => ?qr_5_8)
    case qr_5_8 => exact (rfl : (Value.pointer (some ⟨sb, 0, none⟩)) = (Value.pointer (some ⟨sb, 0, none⟩)))
    with_reducible refine quietAt_nil (.tmp 13) ?h0_5_8 ⟨sb, 0, none⟩ ?h1_5_8
    case h0_5_8 => rfl
    case h1_5_8 => exact e13
  · intro A u hu hpu hsz hout hdeps
    have e21 : A.eval (.tmp 21) = (.pointer (some ⟨sb, 0, none⟩)) := by have h := depL hdeps 8 (by kernel_rfl) 21 (by kernel_rfl); exact h
    refine ifw_none rfl ?_
    with_reducible refine shown_q (Value.pointer (some ⟨sb, 8, none⟩)) ?qq_5_9 (fun _ _ => ?qr_5_9)
    case qr_5_9 => exact (rfl : (Value.pointer (some ⟨sb, 8, none⟩)) = (Value.pointer (some ⟨sb, 8, none⟩)))
    with_reducible refine quietAt_field 78 (.tmp 21) 6 ?h0_5_9 ⟨sb, 0, none⟩ ⟨sb, 8, none⟩ ?h1_5_9 ?h2_5_9
    case h0_5_9 => rfl
    case h1_5_9 => exact e21
    case h2_5_9 => kernel_rfl
  · intro A u8 listed hh hall
    have hA := hh.frame
    have HU := hid hh.grown
    obtain ⟨x13, hx13⟩ : ∃ x, A.eval (.tmp 13) = x := ⟨_, rfl⟩
    have f13 : (fun v _ => v = (Value.pointer (some ⟨sb, 0, none⟩))) x13 u8 := by rw [← hx13]; exact hh.got 0 _ 13 rfl rfl (hall 0 (by decide))
    obtain ⟨x14, hx14⟩ : ∃ x, A.eval (.tmp 14) = x := ⟨_, rfl⟩
    have f14 : (fun v _ => v = (Value.pointer (some ⟨sb, 0, none⟩))) x14 u8 := by rw [← hx14]; exact hh.got 1 _ 14 rfl rfl (hall 1 (by decide))
    obtain ⟨x15, hx15⟩ : ∃ x, A.eval (.tmp 15) = x := ⟨_, rfl⟩
    have f15 : (fun v _ => v = (Value.pointer (some ⟨sb, 0, none⟩))) x15 u8 := by rw [← hx15]; exact hh.got 2 _ 15 rfl rfl (hall 2 (by decide))
    obtain ⟨x16, hx16⟩ : ∃ x, A.eval (.tmp 16) = x := ⟨_, rfl⟩
    have f16 : (fun v _ => v = (Value.pointer (some ⟨sb, 8, none⟩))) x16 u8 := by rw [← hx16]; exact hh.got 3 _ 16 rfl rfl (hall 3 (by decide))
    obtain ⟨x17, hx17⟩ : ∃ x, A.eval (.tmp 17) = x := ⟨_, rfl⟩
    have f17 : (fun v _ => v = (Value.int .i64 sp)) x17 u8 := by rw [← hx17]; exact hh.got 4 _ 17 rfl rfl (hall 4 (by decide))
    obtain ⟨x18, hx18⟩ : ∃ x, A.eval (.tmp 18) = x := ⟨_, rfl⟩
    have f18 : (fun v _ => v = (Value.agg [Value.int .i64 dv, Value.int .i64 on, Value.string nm, Value.string to, Value.slice ba bn bc, Value.int .i64 nv, Value.int .i64 kv, Value.slice fa fn fc].toArray)) x18 u8 := by rw [← hx18]; exact hh.got 5 _ 18 rfl rfl (hall 5 (by decide))
    obtain ⟨x19, hx19⟩ : ∃ x, A.eval (.tmp 19) = x := ⟨_, rfl⟩
    have f19 : (fun v _ => v = Value.int .i64 (z : Nat)) x19 u8 := by rw [← hx19]; exact hh.got 6 _ 19 rfl rfl (hall 6 (by decide))
    obtain ⟨x20, hx20⟩ : ∃ x, A.eval (.tmp 20) = x := ⟨_, rfl⟩
    have f20 : (fun v _ => v = (Value.int .i64 (sp + (z : Nat)))) x20 u8 := by rw [← hx20]; exact hh.got 7 _ 20 rfl rfl (hall 7 (by decide))
    obtain ⟨x21, hx21⟩ : ∃ x, A.eval (.tmp 21) = x := ⟨_, rfl⟩
    have f21 : (fun v _ => v = (Value.pointer (some ⟨sb, 0, none⟩))) x21 u8 := by rw [← hx21]; exact hh.got 8 _ 21 rfl rfl (hall 8 (by decide))
    obtain ⟨x22, hx22⟩ : ∃ x, A.eval (.tmp 22) = x := ⟨_, rfl⟩
    have f22 : (fun v _ => v = (Value.pointer (some ⟨sb, 8, none⟩))) x22 u8 := by rw [← hx22]; exact hh.got 9 _ 22 rfl rfl (hall 9 (by decide))
    dsimp only [wrote, List.foldl] at hA
    rw [hx13, hx14, hx15, hx16, hx17, hx18, hx19, hx20, hx21, hx22] at hA
    clear hh hall hx13 hx14 hx15 hx16 hx17 hx18 hx19 hx20 hx21 hx22
    replace f13 := (f13 : x13 = (.pointer (some ⟨sb, 0, none⟩)))
    subst f13
    replace f14 := (f14 : x14 = (.pointer (some ⟨sb, 0, none⟩)))
    subst f14
    replace f15 := (f15 : x15 = (.pointer (some ⟨sb, 0, none⟩)))
    subst f15
    replace f16 := (f16 : x16 = (.pointer (some ⟨sb, 8, none⟩)))
    subst f16
    replace f17 := (f17 : x17 = (.int .i64 sp))
    subst f17
    replace f18 := (f18 : x18 = (.agg [Value.int .i64 dv, .int .i64 on, .string nm, .string to, .slice ba bn bc, .int .i64 nv, .int .i64 kv, .slice fa fn fc].toArray))
    subst f18
    have e19 := (f19 : _ = Value.int .i64 (z : Nat))
    subst e19
    replace f20 := (f20 : x20 = (.int .i64 (sp + (z : Nat))))
    subst f20
    replace f21 := (f21 : x21 = (.pointer (some ⟨sb, 0, none⟩)))
    subst f21
    replace f22 := (f22 : x22 = (.pointer (some ⟨sb, 8, none⟩)))
    subst f22
    subst hA
    show wpList _ _ _ [_] _ _
    simp only [Act.put, List.setIfInBounds_toArray, List.set_cons_succ, List.set_cons_zero]
    have hM8 : Mid w sb bk sk ob [Value.int .i64 dv, .int .i64 on, .string nm, .string to, .slice ba bn bc, .int .i64 nv, .int .i64 kv, .slice fa fn fc] b c A (fun j => (A j).sr) tn sp k (A k) (A k).sr false false u8 := (mid_box HS.out HOB.out HG1.out HB1.out HZ1.out).keep HU.out
    obtain ⟨col8, hs8, ho8⟩ := hM8
    have hb8 := hs8.s.blk
    have y8 : u8.cell? ⟨sb, 8, none⟩ = some (.int .i64 sp) := hb8.cell 8
    have f8 := hb8.frozen 8
    have hl8 := hb8.lt
    have hM9 : Mid w sb bk sk ob [Value.int .i64 dv, .int .i64 on, .string nm, .string to, .slice ba bn bc, .int .i64 nv, .int .i64 kv, .slice fa fn fc] b c A (fun j => (A j).sr) tn (sp + (z : Nat)) k (A k) (A k).sr false false (u8.setCell ⟨sb, 8, none⟩ (.int .i64 (sp + (z : Nat)))) := mid_store hs8 ho8 (sp + (z : Nat))
    have y9 : (u8.setCell ⟨sb, 8, none⟩ (.int .i64 (sp + (z : Nat)))).cell? ⟨sb, 8, none⟩ = some (.int .i64 (sp + (z : Nat))) := (hb8.set 8 (.int .i64 (sp + (z : Nat)))).cell 8
    obtain ⟨u9, hu9⟩ : ∃ x, u8.setCell ⟨sb, 8, none⟩ (.int .i64 (sp + (z : Nat))) = x := ⟨_, rfl⟩
    rw [hu9] at hM9 y9
    have HM9 := hid hM9
    clear hs8 ho8 hb8 hM9 HS HY1 H21 HAdd HB1 HG1 HZ1 HOB HU
    obtain ⟨d0, d2⟩ := mid_dw HM9.out hk
    obtain ⟨bK, hbK⟩ : ∃ x, b k = x := ⟨_, rfl⟩
    obtain ⟨cK, hcK⟩ : ∃ x, c k = x := ⟨_, rfl⟩
    have HBK := hid hbK
    have HCK := hid hcK
    rw [hbK] at d0
    rw [hcK] at d2
    clear hbK hcK
    have c0 : u9.cell? ⟨ob, 0, none⟩ = some (.int .i64 dv) := HM9.out.cell 0
    have c2 : u9.cell? ⟨ob, 2, none⟩ = some (.string nm) := HM9.out.cell 2
    have c3 : u9.cell? ⟨ob, 3, none⟩ = some (.string to) := HM9.out.cell 3
    have c4 : u9.cell? ⟨ob, 4, none⟩ = some (.slice ba bn bc) := HM9.out.cell 4
    have c5 : u9.cell? ⟨ob, 5, none⟩ = some (.int .i64 nv) := HM9.out.cell 5
    have c6 : u9.cell? ⟨ob, 6, none⟩ = some (.int .i64 kv) := HM9.out.cell 6
    have c7 : u9.cell? ⟨ob, 7, none⟩ = some (.slice fa fn fc) := HM9.out.cell 7
    obtain ⟨n1, n2, n3, n4, n5, n6, n7, n8, n9, n10, n11, n12⟩ := hne
    go_wp2_with fail
    go_ret
    exact ⟨rfl, _, _, HM9.out⟩
end Go.Proofs.YtlgjmdianmijeaaGreat
