/- plays. -/
import Derived.Test.YtlgjmdianmijeaaGreatTa
namespace Go.Proofs.YtlgjmdianmijeaaGreat
open Go Go.RowKit Go.MapKept Go.MuLone
open Go.RowKit (wrap32 wrap64)

variable {w u u' : World} {col col' : Nat → Nat} {b c : Nat → Nat} {A D : Nat → Ab} {A' D' A1 D1 : Ab} {sb bk sk : Nat} {tn sp M : Int}
theorem mid_w {k k' ob : Nat} {oc : List Value} {p r : Bool} (h : Mid w sb bk sk ob oc b c A D tn sp k A1 D1 p r u) (hk : k' < 2) : u.cell? ⟨sb, 2 + k', none⟩ = some (.pointer (some ⟨c k', 0, none⟩)) := by
  obtain ⟨col, h1, _⟩ := h
  exact (h1.s.blk.cell (2 + k')).trans (stc_w hk)
theorem sub_one {k k1 : Nat} (h : (1 : Int) - (k : Int) = (k1 : Int)) (h1 : k1 < 2) (x y : Operand) (u : World) : (do eqGuard .sub 3 x y (.int .i64 1) (.int .i64 (k : Nat)); binOp .sub 3 (.int .i64 1) (.int .i64 (k : Nat)) : Sem Value).run Tryz.prog u = .ok (.int .i64 (k1 : Nat)) u := by
  have hk : k = 0 ∨ k = 1 := by omega
  rcases hk with rfl | rfl
  · obtain rfl : k1 = 1 := by omega
    go_simp
    rfl
  · obtain rfl : k1 = 0 := by omega
    go_simp
    rfl
set_option maxRecDepth 100000 in
set_option maxHeartbeats 8000000 in
theorem plays_copy {on : Int} {nm to : ByteArray} {ba fa : Option Addr} {bn bc fn fc z k : Nat} {nv kv : Int} (h : Stg w u col sb bk sk b c A (fun j => (A j).sr) tn sp) (hk : k < 2) (hand : bits .and .i64 on 1 = (k : Int)) (hsp : 0 ≤ sp ∧ sp + (z : Nat) < 9223372036854775807) (hle : ¬ 1048576 < sp + (z : Nat))
    (H21 : Hid (∀ u', u.grownBy u' none → Calls Tryz.prog 21 #[.agg [Value.int .i64 12, .int .i64 on, .string nm, .string to, .slice ba bn bc, .int .i64 nv, .int .i64 kv, .slice fa fn fc].toArray] u' fun e w' => ∃ v, e = .returned v ∧ u'.grownBy w' none ∧ v = Value.int .i64 (z : Nat)))
    {k1 n : Nat} {L : Cn} (hk4 : k1 < 2) (hk3 : (1 : Int) - (k : Int) = (k1 : Int)) (H36 : Hid (∀ (ob : Nat) (u9 : World), Mid w sb bk sk ob [Value.int .i64 12, .int .i64 on, .string nm, .string to, .slice ba bn bc, .int .i64 nv, .int .i64 kv, .slice fa fn fc] b c A (fun j => (A j).sr) tn (sp + (z : Nat)) k (A k) (A k).sr false false u9 → Calls Tryz.prog 36 #[.pointer (some ⟨c k1, 0, none⟩)] u9 fun e u' => ∃ v, e = .returned v ∧ u9.grownBy u' none ∧ ∃ a c', v = .slice a n c' ∧ ∃ g, ArF u' (fun _ => True) a g 0 L))
    (H35 : Hid (∀ (ob : Nat) (a : Option Addr) (c' g : Nat) (u9 : World), Mid w sb bk sk ob [Value.int .i64 12, .int .i64 on, .string nm, .string to, .slice ba bn bc, .int .i64 nv, .int .i64 kv, .slice fa fn fc] b c A (fun j => (A j).sr) tn (sp + (z : Nat)) k (A k) (A k).sr false false u9 → ArF u9 (fun _ => True) a g 0 L → Calls Tryz.prog 35 #[.pointer (some ⟨sb, 0, none⟩), .int .i64 (k : Nat), .slice a n c', .int .i64 nv] u9 fun e u' => e = .returned (.bool true) ∧ PEnd w sb bk sk tn (sp + (z : Nat)) M u')) :
    Calls Tryz.prog 8 #[.pointer (some ⟨sb, 0, none⟩), .agg [Value.int .i64 12, .int .i64 on, .string nm, .string to, .slice ba bn bc, .int .i64 nv, .int .i64 kv, .slice fa fn fc].toArray] u fun e u' => e = .returned (.bool true) ∧ PEnd w sb bk sk tn (sp + (z : Nat)) M u' := by
  have hk' : (k : Int) < 2 := by omega
  have HS := hid h
  have HAdd : Hid (∀ (x y : Operand) (u : World), (do eqGuard .add 3 x y (.int .i64 sp) (.int .i64 (z : Nat)); binOp .add 3 (.int .i64 sp) (.int .i64 (z : Nat)) : Sem Value).run Tryz.prog u = .ok (.int .i64 (sp + (z : Nat))) u) := hid (fun x y u => by have q := wrap_add hsp; go_simp)
  clear h hsp
  go_enter Tryz.func8, Tryz.ntmps8
  go_upto_region 2 with ((with_reducible refine wpList_box_row (by with_unfolding_all rfl) 83 _ (by with_unfolding_all rfl) [Value.int .i64 12, .int .i64 on, .string nm, .string to, .slice ba bn bc, .int .i64 nv, .int .i64 kv, .slice fa fn fc] (by with_unfolding_all rfl) ?_); intro w1 B1 s1 g1; have HB1 := hid B1; have HG1 := hid g1; have HZ1 := hid s1; have c1 := B1.cell 1; clear B1 s1 g1)
  clear c1
  obtain ⟨ob, hob⟩ : ∃ x, u.heap.size = x := ⟨_, rfl⟩
  have HOB := hid hob
  rw [hob] at HB1 HZ1 ⊢
  clear hob
  replace H21 : Hid (∀ u', w1.grownBy u' none → Calls Tryz.prog 21 #[.agg [Value.int .i64 12, .int .i64 on, .string nm, .string to, .slice ba bn bc, .int .i64 nv, .int .i64 kv, .slice fa fn fc].toArray] u' fun e w' => ∃ v, e = .returned v ∧ u'.grownBy w' none ∧ v = Value.int .i64 (z : Nat)) := hid (fun u' hu => H21.out u' (gtrans HG1.out hu))
  have HY1 : Hid (∀ u', w1.grownBy u' none → u'.cell? ⟨sb, 8, none⟩ = some (.int .i64 sp)) := hid (fun u' hu => (HS.out.s.blk.keep (gtrans HG1.out hu)).cell 8)
  refine wp_region_listX (by kernel_rfl) [fun v _ => v = (Value.pointer (some ⟨sb, 0, none⟩)), fun v _ => v = (Value.pointer (some ⟨sb, 0, none⟩)), fun v _ => v = (Value.pointer (some ⟨sb, 0, none⟩)), fun v _ => v = (Value.pointer (some ⟨sb, 8, none⟩)), fun v _ => v = (Value.int .i64 sp), fun v _ => v = (Value.agg [Value.int .i64 12, Value.int .i64 on, Value.string nm, Value.string to, Value.slice ba bn bc, Value.int .i64 nv, Value.int .i64 kv, Value.slice fa fn fc].toArray), fun v _ => v = Value.int .i64 (z : Nat), fun v _ => v = (Value.int .i64 (sp + (z : Nat))), fun v _ => v = (Value.pointer (some ⟨sb, 0, none⟩)), fun v _ => v = (Value.pointer (some ⟨sb, 8, none⟩))] (none) (fun _ => none) 10 (by kernel_rfl) (by kernel_rfl) (by kernel_rfl) (by kernel_rfl) (by decide) noRow_one (fun _ => .inl rfl) ⟨fun i v u u' hki h hg => h, fun i v u u' hki h hg => h, fun i v u u' hki h hg => h, fun i v u u' hki h hg => h, fun i v u u' hki h hg => h, fun i v u u' hki h hg => h, fun i v u u' hki h hg => h, fun i v u u' hki h hg => h, fun i v u u' hki h hg => h, fun i v u u' hki h hg => h, trivial⟩ ⟨?_, ?_, ?_, ?_, ?_, ?_, ?_, ?_, ?_, ?_, trivial⟩ ?_
  · intro A u hu hpu hsz hout hdeps
    have e0 : A.eval (.tmp 0) = (.pointer (some ⟨sb, 0, none⟩)) := (hout 0 (by kernel_rfl)).trans rfl
    refine ifw_none rfl ?_
    with_reducible refine shown_q (Value.pointer (some ⟨sb, 0, none⟩)) ?qq_2_0 (fun _ _ => ?qr_2_0)
    case qr_2_0 => exact (rfl : (Value.pointer (some ⟨sb, 0, none⟩)) = (Value.pointer (some ⟨sb, 0, none⟩)))
    with_reducible refine quietAt_mv (.tmp 0) (Value.pointer (some ⟨sb, 0, none⟩)) ?h0_2_0 ?h1_2_0
    case h0_2_0 => rfl
    case h1_2_0 => exact e0
  · intro A u hu hpu hsz hout hdeps
    have e0 : A.eval (.tmp 0) = (.pointer (some ⟨sb, 0, none⟩)) := (hout 0 (by kernel_rfl)).trans rfl
    refine ifw_none rfl ?_
    with_reducible refine shown_q (Value.pointer (some ⟨sb, 0, none⟩)) ?qq_2_1 (fun _ _ => ?qr_2_1)
    case qr_2_1 => exact (rfl : (Value.pointer (some ⟨sb, 0, none⟩)) = (Value.pointer (some ⟨sb, 0, none⟩)))
    with_reducible refine quietAt_mv (.tmp 0) (Value.pointer (some ⟨sb, 0, none⟩)) ?h0_2_1 ?h1_2_1
    case h0_2_1 => rfl
    case h1_2_1 => exact e0
  · intro A u hu hpu hsz hout hdeps
    have e14 : A.eval (.tmp 14) = (.pointer (some ⟨sb, 0, none⟩)) := by have h := depL hdeps 1 (by kernel_rfl) 14 (by kernel_rfl); exact h
    refine ifw_none rfl ?_
    with_reducible refine shown_q (Value.pointer (some ⟨sb, 0, none⟩)) ?qq_2_2 (fun _ _ => ?qr_2_2)
    case qr_2_2 => exact (rfl : (Value.pointer (some ⟨sb, 0, none⟩)) = (Value.pointer (some ⟨sb, 0, none⟩)))
    with_reducible refine quietAt_nil (.tmp 14) ?h0_2_2 ⟨sb, 0, none⟩ ?h1_2_2
    case h0_2_2 => rfl
    case h1_2_2 => exact e14
  · intro A u hu hpu hsz hout hdeps
    have e15 : A.eval (.tmp 15) = (.pointer (some ⟨sb, 0, none⟩)) := by have h := depL hdeps 2 (by kernel_rfl) 15 (by kernel_rfl); exact h
    refine ifw_none rfl ?_
    with_reducible refine shown_q (Value.pointer (some ⟨sb, 8, none⟩)) ?qq_2_3 (fun _ _ => ?qr_2_3)
    case qr_2_3 => exact (rfl : (Value.pointer (some ⟨sb, 8, none⟩)) = (Value.pointer (some ⟨sb, 8, none⟩)))
    with_reducible refine quietAt_field 78 (.tmp 15) 6 ?h0_2_3 ⟨sb, 0, none⟩ ⟨sb, 8, none⟩ ?h1_2_3 ?h2_2_3
    case h0_2_3 => rfl
    case h1_2_3 => exact e15
    case h2_2_3 => kernel_rfl
  · intro A u hu hpu hsz hout hdeps
    have e16 : A.eval (.tmp 16) = (.pointer (some ⟨sb, 8, none⟩)) := by have h := depL hdeps 3 (by kernel_rfl) 16 (by kernel_rfl); exact h
    refine ifw_none rfl ?_
    with_reducible refine shown_q (Value.int .i64 sp) ?qq_2_4 (fun _ _ => ?qr_2_4)
    case qr_2_4 => exact (rfl : (Value.int .i64 sp) = (Value.int .i64 sp))
    with_reducible refine quietAt_ld 3 (.tmp 16) (Value.pointer (some ⟨sb, 8, none⟩)) (Value.int .i64 sp) ?h0_2_4 ?h1_2_4 ?h2_2_4
    case h0_2_4 => rfl
    case h1_2_4 => exact e16
    case h2_2_4 => exact ld3 sb 8 sp u (HY1.out u hu)
  · intro A u hu hpu hsz hout hdeps
    have e3 : A.eval (.tmp 3) = (.pointer (some ⟨ob, 0, none⟩)) := (hout 3 (by kernel_rfl)).trans rfl
    refine ifw_none rfl ?_
    with_reducible refine shown_q (Value.agg [Value.int .i64 12, Value.int .i64 on, Value.string nm, Value.string to, Value.slice ba bn bc, Value.int .i64 nv, Value.int .i64 kv, Value.slice fa fn fc].toArray) ?qq_2_5 (fun _ _ => ?qr_2_5)
    case qr_2_5 => exact (rfl : (Value.agg [Value.int .i64 12, Value.int .i64 on, Value.string nm, Value.string to, Value.slice ba bn bc, Value.int .i64 nv, Value.int .i64 kv, Value.slice fa fn fc].toArray) = (Value.agg [Value.int .i64 12, Value.int .i64 on, Value.string nm, Value.string to, Value.slice ba bn bc, Value.int .i64 nv, Value.int .i64 kv, Value.slice fa fn fc].toArray))
    with_reducible refine quietAt_load 83 (.tmp 3) ?h0_2_5 ob 0 [Value.int .i64 12, Value.int .i64 on, Value.string nm, Value.string to, Value.slice ba bn bc, Value.int .i64 nv, Value.int .i64 kv, Value.slice fa fn fc] (.struct (Tryz.prog.fieldsOf 83)) ?h1_2_5 ?h2_2_5 ?h3_2_5 ?h4_2_5 ?h5_2_5
    case h0_2_5 => rfl
    case h1_2_5 => exact e3
    case h2_2_5 => exact (HB1.out.keep hu).whole
    case h3_2_5 => exact Tryz.underlying83
    case h4_2_5 => rfl
    case h5_2_5 => exact Tryz.size83
  · intro A u hu hpu hsz hout hdeps
    have e18 : A.eval (.tmp 18) = (.agg [Value.int .i64 12, .int .i64 on, .string nm, .string to, .slice ba bn bc, .int .i64 nv, .int .i64 kv, .slice fa fn fc].toArray) := by have h := depL hdeps 5 (by kernel_rfl) 18 (by kernel_rfl); exact h
    refine ifw_none rfl ?_
    with_reducible refine shown_call 21 Tryz.f21 ?h0_2_6 ?h1_2_6 ?h2_2_6 #[.tmp 18] #[83] ?h3_2_6 #[(Value.agg [Value.int .i64 12, Value.int .i64 on, Value.string nm, Value.string to, Value.slice ba bn bc, Value.int .i64 nv, Value.int .i64 kv, Value.slice fa fn fc].toArray)] ?h4_2_6 ?h5_2_6
    case h0_2_6 => exact Tryz.func21
    case h1_2_6 => kernel_rfl
    case h2_2_6 => kernel_rfl
    case h3_2_6 => rfl
    case h4_2_6 => exact map1 _ _ _ e18
    case h5_2_6 => exact H21.out u hu
  · intro A u hu hpu hsz hout hdeps
    have e17 : A.eval (.tmp 17) = (.int .i64 sp) := by have h := depL hdeps 4 (by kernel_rfl) 17 (by kernel_rfl); exact h
    have f19 : (fun v _ => v = Value.int .i64 (z : Nat)) (A.eval (.tmp 19)) u := by have h := depL hdeps 6 (by kernel_rfl) 19 (by kernel_rfl); exact h
    have e19 := (f19 : _ = Value.int .i64 (z : Nat))
    refine ifw_none rfl ?_
    with_reducible refine shown_q (Value.int .i64 (sp + (z : Nat))) ?qq_2_7 (fun _ _ => ?qr_2_7)
    case qr_2_7 => exact (rfl : (Value.int .i64 (sp + (z : Nat))) = (Value.int .i64 (sp + (z : Nat))))
    with_reducible refine quietAt_bin .add 3 (.tmp 17) (.tmp 19) 3 (Value.int .i64 sp) (Value.int .i64 (z : Nat)) (Value.int .i64 (sp + (z : Nat))) ?h0_2_7 ?h1_2_7 ?h2_2_7 ?h3_2_7
    case h0_2_7 => rfl
    case h1_2_7 => exact e17
    case h2_2_7 => exact e19
    case h3_2_7 => exact HAdd.out _ _ u
  · intro A u hu hpu hsz hout hdeps
    have e13 : A.eval (.tmp 13) = (.pointer (some ⟨sb, 0, none⟩)) := by have h := depL hdeps 0 (by kernel_rfl) 13 (by kernel_rfl); exact h
    refine ifw_none rfl ?_
    with_reducible refine shown_q (Value.pointer (some ⟨sb, 0, none⟩)) ?qq_2_8 (fun _ _ => ?qr_2_8)
    case qr_2_8 => exact (rfl : (Value.pointer (some ⟨sb, 0, none⟩)) = (Value.pointer (some ⟨sb, 0, none⟩)))
    with_reducible refine quietAt_nil (.tmp 13) ?h0_2_8 ⟨sb, 0, none⟩ ?h1_2_8
    case h0_2_8 => rfl
    case h1_2_8 => exact e13
  · intro A u hu hpu hsz hout hdeps
    have e21 : A.eval (.tmp 21) = (.pointer (some ⟨sb, 0, none⟩)) := by have h := depL hdeps 8 (by kernel_rfl) 21 (by kernel_rfl); exact h
    refine ifw_none rfl ?_
    with_reducible refine shown_q (Value.pointer (some ⟨sb, 8, none⟩)) ?qq_2_9 (fun _ _ => ?qr_2_9)
    case qr_2_9 => exact (rfl : (Value.pointer (some ⟨sb, 8, none⟩)) = (Value.pointer (some ⟨sb, 8, none⟩)))
    with_reducible refine quietAt_field 78 (.tmp 21) 6 ?h0_2_9 ⟨sb, 0, none⟩ ⟨sb, 8, none⟩ ?h1_2_9 ?h2_2_9
    case h0_2_9 => rfl
    case h1_2_9 => exact e21
    case h2_2_9 => kernel_rfl
  · intro A u8 listed hh hall
    have hA := hh.frame
    have HU := hid hh.grown
    obtain ⟨x13, hx13⟩ : ∃ x, A.eval (.tmp 13) = x := ⟨_, rfl⟩
    have f13 : (fun v _ => v = (Value.pointer (some ⟨sb, 0, none⟩))) x13 u8 := by rw [← hx13]; exact hh.got 0 _ 13 rfl rfl (hall 0 (by decide))
    obtain ⟨x14, hx14⟩ : ∃ x, A.eval (.tmp 14) = x := ⟨_, rfl⟩
    have f14 : (fun v _ => v = (Value.pointer (some ⟨sb, 0, none⟩))) x14 u8 := by rw [← hx14]; exact hh.got 1 _ 14 rfl rfl (hall 1 (by decide))
    obtain ⟨x15, hx15⟩ : ∃ x, A.eval (.tmp 15) = x := ⟨_, rfl⟩
    have f15 : (fun v _ => v = (Value.pointer (some ⟨sb, 0, none⟩))) x15 u8 := by rw [← hx15]; exact hh.got 2 _ 15 rfl rfl (hall 2 (by decide))
    obtain ⟨x16, hx16⟩ : ∃ x, A.eval (.tmp 16) = x := ⟨_, rfl⟩
    have f16 : (fun v _ => v = (Value.pointer (some ⟨sb, 8, none⟩))) x16 u8 := by rw [← hx16]; exact hh.got 3 _ 16 rfl rfl (hall 3 (by decide))
    obtain ⟨x17, hx17⟩ : ∃ x, A.eval (.tmp 17) = x := ⟨_, rfl⟩
    have f17 : (fun v _ => v = (Value.int .i64 sp)) x17 u8 := by rw [← hx17]; exact hh.got 4 _ 17 rfl rfl (hall 4 (by decide))
    obtain ⟨x18, hx18⟩ : ∃ x, A.eval (.tmp 18) = x := ⟨_, rfl⟩
    have f18 : (fun v _ => v = (Value.agg [Value.int .i64 12, Value.int .i64 on, Value.string nm, Value.string to, Value.slice ba bn bc, Value.int .i64 nv, Value.int .i64 kv, Value.slice fa fn fc].toArray)) x18 u8 := by rw [← hx18]; exact hh.got 5 _ 18 rfl rfl (hall 5 (by decide))
    obtain ⟨x19, hx19⟩ : ∃ x, A.eval (.tmp 19) = x := ⟨_, rfl⟩
    have f19 : (fun v _ => v = Value.int .i64 (z : Nat)) x19 u8 := by rw [← hx19]; exact hh.got 6 _ 19 rfl rfl (hall 6 (by decide))
    obtain ⟨x20, hx20⟩ : ∃ x, A.eval (.tmp 20) = x := ⟨_, rfl⟩
    have f20 : (fun v _ => v = (Value.int .i64 (sp + (z : Nat)))) x20 u8 := by rw [← hx20]; exact hh.got 7 _ 20 rfl rfl (hall 7 (by decide))
    obtain ⟨x21, hx21⟩ : ∃ x, A.eval (.tmp 21) = x := ⟨_, rfl⟩
    have f21 : (fun v _ => v = (Value.pointer (some ⟨sb, 0, none⟩))) x21 u8 := by rw [← hx21]; exact hh.got 8 _ 21 rfl rfl (hall 8 (by decide))
    obtain ⟨x22, hx22⟩ : ∃ x, A.eval (.tmp 22) = x := ⟨_, rfl⟩
    have f22 : (fun v _ => v = (Value.pointer (some ⟨sb, 8, none⟩))) x22 u8 := by rw [← hx22]; exact hh.got 9 _ 22 rfl rfl (hall 9 (by decide))
    dsimp only [wrote, List.foldl] at hA
    rw [hx13, hx14, hx15, hx16, hx17, hx18, hx19, hx20, hx21, hx22] at hA
    clear hh hall hx13 hx14 hx15 hx16 hx17 hx18 hx19 hx20 hx21 hx22
    replace f13 := (f13 : x13 = (.pointer (some ⟨sb, 0, none⟩)))
    subst f13
    replace f14 := (f14 : x14 = (.pointer (some ⟨sb, 0, none⟩)))
    subst f14
    replace f15 := (f15 : x15 = (.pointer (some ⟨sb, 0, none⟩)))
    subst f15
    replace f16 := (f16 : x16 = (.pointer (some ⟨sb, 8, none⟩)))
    subst f16
    replace f17 := (f17 : x17 = (.int .i64 sp))
    subst f17
    replace f18 := (f18 : x18 = (.agg [Value.int .i64 12, .int .i64 on, .string nm, .string to, .slice ba bn bc, .int .i64 nv, .int .i64 kv, .slice fa fn fc].toArray))
    subst f18
    have e19 := (f19 : _ = Value.int .i64 (z : Nat))
    subst e19
    replace f20 := (f20 : x20 = (.int .i64 (sp + (z : Nat))))
    subst f20
    replace f21 := (f21 : x21 = (.pointer (some ⟨sb, 0, none⟩)))
    subst f21
    replace f22 := (f22 : x22 = (.pointer (some ⟨sb, 8, none⟩)))
    subst f22
    subst hA
    show wpList _ _ _ [_] _ _
    simp only [Act.put, List.setIfInBounds_toArray, List.set_cons_succ, List.set_cons_zero]
    have hM8 : Mid w sb bk sk ob [Value.int .i64 12, .int .i64 on, .string nm, .string to, .slice ba bn bc, .int .i64 nv, .int .i64 kv, .slice fa fn fc] b c A (fun j => (A j).sr) tn sp k (A k) (A k).sr false false u8 := (mid_box HS.out HOB.out HG1.out HB1.out HZ1.out).keep HU.out
    obtain ⟨col8, hs8, ho8⟩ := hM8
    have hb8 := hs8.s.blk
    have y8 : u8.cell? ⟨sb, 8, none⟩ = some (.int .i64 sp) := hb8.cell 8
    have f8 := hb8.frozen 8
    have hl8 := hb8.lt
    have hM9 : Mid w sb bk sk ob [Value.int .i64 12, .int .i64 on, .string nm, .string to, .slice ba bn bc, .int .i64 nv, .int .i64 kv, .slice fa fn fc] b c A (fun j => (A j).sr) tn (sp + (z : Nat)) k (A k) (A k).sr false false (u8.setCell ⟨sb, 8, none⟩ (.int .i64 (sp + (z : Nat)))) := mid_store hs8 ho8 (sp + (z : Nat))
    have y9 : (u8.setCell ⟨sb, 8, none⟩ (.int .i64 (sp + (z : Nat)))).cell? ⟨sb, 8, none⟩ = some (.int .i64 (sp + (z : Nat))) := (hb8.set 8 (.int .i64 (sp + (z : Nat)))).cell 8
    obtain ⟨u9, hu9⟩ : ∃ x, u8.setCell ⟨sb, 8, none⟩ (.int .i64 (sp + (z : Nat))) = x := ⟨_, rfl⟩
    rw [hu9] at hM9 y9
    have HM9 := hid hM9
    clear hs8 ho8 hb8 hM9 HS HY1 H21 HAdd HB1 HG1 HZ1 HOB HU
    obtain ⟨d0, d2⟩ := mid_dw HM9.out hk
    obtain ⟨bK, hbK⟩ : ∃ x, b k = x := ⟨_, rfl⟩
    obtain ⟨cK, hcK⟩ : ∃ x, c k = x := ⟨_, rfl⟩
    have HBK := hid hbK
    have HCK := hid hcK
    rw [hbK] at d0
    rw [hcK] at d2
    clear hbK hcK
    have c0 : u9.cell? ⟨ob, 0, none⟩ = some (.int .i64 12) := HM9.out.cell 0
    have c2 : u9.cell? ⟨ob, 2, none⟩ = some (.string nm) := HM9.out.cell 2
    have c3 : u9.cell? ⟨ob, 3, none⟩ = some (.string to) := HM9.out.cell 3
    have c4 : u9.cell? ⟨ob, 4, none⟩ = some (.slice ba bn bc) := HM9.out.cell 4
    have c5 : u9.cell? ⟨ob, 5, none⟩ = some (.int .i64 nv) := HM9.out.cell 5
    have c6 : u9.cell? ⟨ob, 6, none⟩ = some (.int .i64 kv) := HM9.out.cell 6
    have c7 : u9.cell? ⟨ob, 7, none⟩ = some (.slice fa fn fc) := HM9.out.cell 7
    have d3 := mid_w HM9.out hk4
    obtain ⟨cJ, hcJ⟩ : ∃ x, c k1 = x := ⟨_, rfl⟩
    have H2 := H36.out ob
    rw [hcJ] at d3 H2
    have H3 : Hid (∀ u, u9.grownBy u none → Calls Tryz.prog 36 #[.pointer (some ⟨cJ, 0, none⟩)] u fun e u' => ∃ v, e = .returned v ∧ u.grownBy u' none ∧ ∃ a c', v = Value.slice a n c' ∧ ∃ g, ArF u' (fun _ => True) a g 0 L) := hid (fun u hu => H2 u (HM9.out.keep hu))
    have HY9 : Hid (∀ u, u9.grownBy u none → u.cell? ⟨ob, 5, none⟩ = some (.int .i64 nv) ∧ u.cell? ⟨sb, 2 + k1, none⟩ = some (.pointer (some ⟨cJ, 0, none⟩))) := hid (fun u hu => ⟨(HM9.out.keep hu).cell 5, by rw [← hcJ]; exact mid_w (HM9.out.keep hu) hk4⟩)
    have HI2 : Hid (∀ u, (Instr.indexAt 76 (.pointer (some ⟨sb, 2, none⟩)) (.int .i64 (k1 : Nat))).run Tryz.prog u = .ok (.pointer (some ⟨sb, 2 + k1, none⟩)) u) := hid (fun u => idx76 sb k1 hk4 u)
    have HSub : Hid (∀ (x y : Operand) (u : World), (do eqGuard .sub 3 x y (.int .i64 1) (.int .i64 (k : Nat)); binOp .sub 3 (.int .i64 1) (.int .i64 (k : Nat)) : Sem Value).run Tryz.prog u = .ok (.int .i64 (k1 : Nat)) u) := hid (fun x y u => sub_one hk3 hk4 x y u)
    clear hcJ H2 H36 HBK HCK d3 hk3 hk4
    go_upto_region 35 with fail
    clear c0 c2 c3 c4 c5 c6 c7 d0 d2 y9 y8 f8
    refine wp_region_listX (by kernel_rfl) [fun v _ => v = (Value.pointer (some ⟨sb, 0, none⟩)), fun v _ => v = (Value.int .i64 (k : Nat)), fun v _ => v = (Value.pointer (some ⟨sb, 0, none⟩)), fun v _ => v = (Value.int .i64 (k : Nat)), fun v _ => v = (Value.int .i64 (k1 : Nat)), fun v _ => v = (Value.pointer (some ⟨sb, 0, none⟩)), fun v _ => v = (Value.pointer (some ⟨sb, 2, none⟩)), fun v _ => v = (Value.pointer (some ⟨sb, 2 + k1, none⟩)), fun v _ => v = (Value.pointer (some ⟨cJ, 0, none⟩)), fun v u => ∃ ta tc, v = Value.slice ta n tc ∧ ∃ g, ArF u (fun _ => True) ta g 0 L, fun v _ => v = (Value.pointer (some ⟨ob, 5, none⟩)), fun v _ => v = (Value.int .i64 nv)] (none) (fun _ => none) 12 (by kernel_rfl) (by kernel_rfl) (by kernel_rfl) (by kernel_rfl) (by decide) noRow_one (fun _ => .inl rfl) ⟨fun i v u u' hki h hg => h, fun i v u u' hki h hg => h, fun i v u u' hki h hg => h, fun i v u u' hki h hg => h, fun i v u u' hki h hg => h, fun i v u u' hki h hg => h, fun i v u u' hki h hg => h, fun i v u u' hki h hg => h, fun i v u u' hki h hg => h, fun i v u u' hki h hg => (by obtain ⟨ta, tc, e, g, ho⟩ := h; exact ⟨ta, tc, e, g, ho.keep hg⟩), fun i v u u' hki h hg => h, fun i v u u' hki h hg => h, trivial⟩ ⟨?_, ?_, ?_, ?_, ?_, ?_, ?_, ?_, ?_, ?_, ?_, ?_, trivial⟩ ?_
    · intro A u hu hpu hsz hout hdeps
      have e0 : A.eval (.tmp 0) = (.pointer (some ⟨sb, 0, none⟩)) := (hout 0 (by kernel_rfl)).trans rfl
      refine ifw_none rfl ?_
      with_reducible refine shown_q (Value.pointer (some ⟨sb, 0, none⟩)) ?qq_1_0 (fun _ _ => ?qr_1_0)
      case qr_1_0 => exact (rfl : (Value.pointer (some ⟨sb, 0, none⟩)) = (Value.pointer (some ⟨sb, 0, none⟩)))
      with_reducible refine quietAt_mv (.tmp 0) (Value.pointer (some ⟨sb, 0, none⟩)) ?h0_1_0 ?h1_1_0
      case h0_1_0 => rfl
      case h1_1_0 => exact e0
    · intro A u hu hpu hsz hout hdeps
      have e5 : A.eval (.tmp 5) = (.int .i64 (k : Nat)) := (hout 5 (by kernel_rfl)).trans rfl
      refine ifw_none rfl ?_
      with_reducible refine shown_q (Value.int .i64 (k : Nat)) ?qq_1_1 (fun _ _ => ?qr_1_1)
      case qr_1_1 => exact (rfl : (Value.int .i64 (k : Nat)) = (Value.int .i64 (k : Nat)))
      with_reducible refine quietAt_mv (.tmp 5) (Value.int .i64 (k : Nat)) ?h0_1_1 ?h1_1_1
      case h0_1_1 => rfl
      case h1_1_1 => exact e5
    · intro A u hu hpu hsz hout hdeps
      have e0 : A.eval (.tmp 0) = (.pointer (some ⟨sb, 0, none⟩)) := (hout 0 (by kernel_rfl)).trans rfl
      refine ifw_none rfl ?_
      with_reducible refine shown_q (Value.pointer (some ⟨sb, 0, none⟩)) ?qq_1_2 (fun _ _ => ?qr_1_2)
      case qr_1_2 => exact (rfl : (Value.pointer (some ⟨sb, 0, none⟩)) = (Value.pointer (some ⟨sb, 0, none⟩)))
      with_reducible refine quietAt_mv (.tmp 0) (Value.pointer (some ⟨sb, 0, none⟩)) ?h0_1_2 ?h1_1_2
      case h0_1_2 => rfl
      case h1_1_2 => exact e0
    · intro A u hu hpu hsz hout hdeps
      have e5 : A.eval (.tmp 5) = (.int .i64 (k : Nat)) := (hout 5 (by kernel_rfl)).trans rfl
      refine ifw_none rfl ?_
      with_reducible refine shown_q (Value.int .i64 (k : Nat)) ?qq_1_3 (fun _ _ => ?qr_1_3)
      case qr_1_3 => exact (rfl : (Value.int .i64 (k : Nat)) = (Value.int .i64 (k : Nat)))
      with_reducible refine quietAt_mv (.tmp 5) (Value.int .i64 (k : Nat)) ?h0_1_3 ?h1_1_3
      case h0_1_3 => rfl
      case h1_1_3 => exact e5
    · intro A u hu hpu hsz hout hdeps
      have e171 : A.eval (.tmp 171) = (.int .i64 (k : Nat)) := by have h := depL hdeps 3 (by kernel_rfl) 171 (by kernel_rfl); exact h
      refine ifw_none rfl ?_
      with_reducible refine shown_q (Value.int .i64 (k1 : Nat)) ?qq_1_4 (fun _ _ => ?qr_1_4)
      case qr_1_4 => exact (rfl : (Value.int .i64 (k1 : Nat)) = (Value.int .i64 (k1 : Nat)))
      with_reducible refine quietAt_bin .sub 3 (.const (.int .i64 1)) (.tmp 171) 3 (Value.int .i64 1) (Value.int .i64 (k : Nat)) (Value.int .i64 (k1 : Nat)) ?h0_1_4 ?h1_1_4 ?h2_1_4 ?h3_1_4
      case h0_1_4 => rfl
      case h1_1_4 => exact rfl
      case h2_1_4 => exact e171
      case h3_1_4 => exact HSub.out _ _ u
    · intro A u hu hpu hsz hout hdeps
      have e170 : A.eval (.tmp 170) = (.pointer (some ⟨sb, 0, none⟩)) := by have h := depL hdeps 2 (by kernel_rfl) 170 (by kernel_rfl); exact h
      refine ifw_none rfl ?_
      with_reducible refine shown_q (Value.pointer (some ⟨sb, 0, none⟩)) ?qq_1_5 (fun _ _ => ?qr_1_5)
      case qr_1_5 => exact (rfl : (Value.pointer (some ⟨sb, 0, none⟩)) = (Value.pointer (some ⟨sb, 0, none⟩)))
      with_reducible refine quietAt_nil (.tmp 170) ?h0_1_5 ⟨sb, 0, none⟩ ?h1_1_5
      case h0_1_5 => rfl
      case h1_1_5 => exact e170
    · intro A u hu hpu hsz hout hdeps
      have e173 : A.eval (.tmp 173) = (.pointer (some ⟨sb, 0, none⟩)) := by have h := depL hdeps 5 (by kernel_rfl) 173 (by kernel_rfl); exact h
      refine ifw_none rfl ?_
      with_reducible refine shown_q (Value.pointer (some ⟨sb, 2, none⟩)) ?qq_1_6 (fun _ _ => ?qr_1_6)
      case qr_1_6 => exact (rfl : (Value.pointer (some ⟨sb, 2, none⟩)) = (Value.pointer (some ⟨sb, 2, none⟩)))
      with_reducible refine quietAt_field 78 (.tmp 173) 1 ?h0_1_6 ⟨sb, 0, none⟩ ⟨sb, 2, none⟩ ?h1_1_6 ?h2_1_6
      case h0_1_6 => rfl
      case h1_1_6 => exact e173
      case h2_1_6 => kernel_rfl
    · intro A u hu hpu hsz hout hdeps
      have e174 : A.eval (.tmp 174) = (.pointer (some ⟨sb, 2, none⟩)) := by have h := depL hdeps 6 (by kernel_rfl) 174 (by kernel_rfl); exact h
      have e172 : A.eval (.tmp 172) = (.int .i64 (k1 : Nat)) := by have h := depL hdeps 4 (by kernel_rfl) 172 (by kernel_rfl); exact h
      refine ifw_none rfl ?_
      with_reducible refine shown_q (Value.pointer (some ⟨sb, 2 + k1, none⟩)) ?qq_1_7 (fun _ _ => ?qr_1_7)
      case qr_1_7 => exact (rfl : (Value.pointer (some ⟨sb, 2 + k1, none⟩)) = (Value.pointer (some ⟨sb, 2 + k1, none⟩)))
      with_reducible refine quietAt_idx 76 (.tmp 174) (.tmp 172) (Value.pointer (some ⟨sb, 2, none⟩)) (Value.int .i64 (k1 : Nat)) (Value.pointer (some ⟨sb, 2 + k1, none⟩)) ?h0_1_7 ?h1_1_7 ?h2_1_7 ?h3_1_7
      case h0_1_7 => rfl
      case h1_1_7 => exact e174
      case h2_1_7 => exact e172
      case h3_1_7 => exact HI2.out u
    · intro A u hu hpu hsz hout hdeps
      have e175 : A.eval (.tmp 175) = (.pointer (some ⟨sb, 2 + k1, none⟩)) := by have h := depL hdeps 7 (by kernel_rfl) 175 (by kernel_rfl); exact h
      refine ifw_none rfl ?_
      with_reducible refine shown_q (Value.pointer (some ⟨cJ, 0, none⟩)) ?qq_1_8 (fun _ _ => ?qr_1_8)
      case qr_1_8 => exact (rfl : (Value.pointer (some ⟨cJ, 0, none⟩)) = (Value.pointer (some ⟨cJ, 0, none⟩)))
      with_reducible refine quietAt_ld 75 (.tmp 175) (Value.pointer (some ⟨sb, 2 + k1, none⟩)) (Value.pointer (some ⟨cJ, 0, none⟩)) ?h0_1_8 ?h1_1_8 ?h2_1_8
      case h0_1_8 => rfl
      case h1_1_8 => exact e175
      case h2_1_8 => exact ldp75 sb (2 + k1) cJ u (HY9.out u hu).2
    · intro A u hu hpu hsz hout hdeps
      have e176 : A.eval (.tmp 176) = (.pointer (some ⟨cJ, 0, none⟩)) := by have h := depL hdeps 8 (by kernel_rfl) 176 (by kernel_rfl); exact h
      refine ifw_none rfl ?_
      with_reducible refine shown_call 36 Tryz.f36 ?h0_1_9 ?h1_1_9 ?h2_1_9 #[.tmp 176] #[75] ?h3_1_9 #[(Value.pointer (some ⟨cJ, 0, none⟩))] ?h4_1_9 ?h5_1_9
      case h0_1_9 => exact Tryz.func36
      case h1_1_9 => kernel_rfl
      case h2_1_9 => kernel_rfl
      case h3_1_9 => rfl
      case h4_1_9 => exact map1 _ _ _ e176
      case h5_1_9 => exact H3.out u hu
    · intro A u hu hpu hsz hout hdeps
      have e3 : A.eval (.tmp 3) = (.pointer (some ⟨ob, 0, none⟩)) := (hout 3 (by kernel_rfl)).trans rfl
      refine ifw_none rfl ?_
      with_reducible refine shown_q (Value.pointer (some ⟨ob, 5, none⟩)) ?qq_1_10 (fun _ _ => ?qr_1_10)
      case qr_1_10 => exact (rfl : (Value.pointer (some ⟨ob, 5, none⟩)) = (Value.pointer (some ⟨ob, 5, none⟩)))
      with_reducible refine quietAt_field 83 (.tmp 3) 5 ?h0_1_10 ⟨ob, 0, none⟩ ⟨ob, 5, none⟩ ?h1_1_10 ?h2_1_10
      case h0_1_10 => rfl
      case h1_1_10 => exact e3
      case h2_1_10 => kernel_rfl
    · intro A u hu hpu hsz hout hdeps
      have e178 : A.eval (.tmp 178) = (.pointer (some ⟨ob, 5, none⟩)) := by have h := depL hdeps 10 (by kernel_rfl) 178 (by kernel_rfl); exact h
      refine ifw_none rfl ?_
      with_reducible refine shown_q (Value.int .i64 nv) ?qq_1_11 (fun _ _ => ?qr_1_11)
      case qr_1_11 => exact (rfl : (Value.int .i64 nv) = (Value.int .i64 nv))
      with_reducible refine quietAt_ld 3 (.tmp 178) (Value.pointer (some ⟨ob, 5, none⟩)) (Value.int .i64 nv) ?h0_1_11 ?h1_1_11 ?h2_1_11
      case h0_1_11 => rfl
      case h1_1_11 => exact e178
      case h2_1_11 => exact ld3 ob 5 nv u (HY9.out u hu).1
    · intro A u10 listed hh hall
      have hA := hh.frame
      have HU := hid hh.grown
      obtain ⟨x168, hx168⟩ : ∃ x, A.eval (.tmp 168) = x := ⟨_, rfl⟩
      have f168 : (fun v _ => v = (Value.pointer (some ⟨sb, 0, none⟩))) x168 u10 := by rw [← hx168]; exact hh.got 0 _ 168 rfl rfl (hall 0 (by decide))
      obtain ⟨x169, hx169⟩ : ∃ x, A.eval (.tmp 169) = x := ⟨_, rfl⟩
      have f169 : (fun v _ => v = (Value.int .i64 (k : Nat))) x169 u10 := by rw [← hx169]; exact hh.got 1 _ 169 rfl rfl (hall 1 (by decide))
      obtain ⟨x170, hx170⟩ : ∃ x, A.eval (.tmp 170) = x := ⟨_, rfl⟩
      have f170 : (fun v _ => v = (Value.pointer (some ⟨sb, 0, none⟩))) x170 u10 := by rw [← hx170]; exact hh.got 2 _ 170 rfl rfl (hall 2 (by decide))
      obtain ⟨x171, hx171⟩ : ∃ x, A.eval (.tmp 171) = x := ⟨_, rfl⟩
      have f171 : (fun v _ => v = (Value.int .i64 (k : Nat))) x171 u10 := by rw [← hx171]; exact hh.got 3 _ 171 rfl rfl (hall 3 (by decide))
      obtain ⟨x172, hx172⟩ : ∃ x, A.eval (.tmp 172) = x := ⟨_, rfl⟩
      have f172 : (fun v _ => v = (Value.int .i64 (k1 : Nat))) x172 u10 := by rw [← hx172]; exact hh.got 4 _ 172 rfl rfl (hall 4 (by decide))
      obtain ⟨x173, hx173⟩ : ∃ x, A.eval (.tmp 173) = x := ⟨_, rfl⟩
      have f173 : (fun v _ => v = (Value.pointer (some ⟨sb, 0, none⟩))) x173 u10 := by rw [← hx173]; exact hh.got 5 _ 173 rfl rfl (hall 5 (by decide))
      obtain ⟨x174, hx174⟩ : ∃ x, A.eval (.tmp 174) = x := ⟨_, rfl⟩
      have f174 : (fun v _ => v = (Value.pointer (some ⟨sb, 2, none⟩))) x174 u10 := by rw [← hx174]; exact hh.got 6 _ 174 rfl rfl (hall 6 (by decide))
      obtain ⟨x175, hx175⟩ : ∃ x, A.eval (.tmp 175) = x := ⟨_, rfl⟩
      have f175 : (fun v _ => v = (Value.pointer (some ⟨sb, 2 + k1, none⟩))) x175 u10 := by rw [← hx175]; exact hh.got 7 _ 175 rfl rfl (hall 7 (by decide))
      obtain ⟨x176, hx176⟩ : ∃ x, A.eval (.tmp 176) = x := ⟨_, rfl⟩
      have f176 : (fun v _ => v = (Value.pointer (some ⟨cJ, 0, none⟩))) x176 u10 := by rw [← hx176]; exact hh.got 8 _ 176 rfl rfl (hall 8 (by decide))
      obtain ⟨x177, hx177⟩ : ∃ x, A.eval (.tmp 177) = x := ⟨_, rfl⟩
      have f177 : (fun v u => ∃ ta tc, v = Value.slice ta n tc ∧ ∃ g, ArF u (fun _ => True) ta g 0 L) x177 u10 := by rw [← hx177]; exact hh.got 9 _ 177 rfl rfl (hall 9 (by decide))
      obtain ⟨x178, hx178⟩ : ∃ x, A.eval (.tmp 178) = x := ⟨_, rfl⟩
      have f178 : (fun v _ => v = (Value.pointer (some ⟨ob, 5, none⟩))) x178 u10 := by rw [← hx178]; exact hh.got 10 _ 178 rfl rfl (hall 10 (by decide))
      obtain ⟨x179, hx179⟩ : ∃ x, A.eval (.tmp 179) = x := ⟨_, rfl⟩
      have f179 : (fun v _ => v = (Value.int .i64 nv)) x179 u10 := by rw [← hx179]; exact hh.got 11 _ 179 rfl rfl (hall 11 (by decide))
      obtain ⟨x180, hx180⟩ : ∃ x, A.eval (.tmp 180) = x := ⟨_, rfl⟩
      obtain ⟨x4, hx4⟩ : ∃ x, A.eval (.tmp 4) = x := ⟨_, rfl⟩
      dsimp only [wrote, List.foldl] at hA
      rw [hx168, hx169, hx170, hx171, hx172, hx173, hx174, hx175, hx176, hx177, hx178, hx179, hx180, hx4] at hA
      clear hh hall hx168 hx169 hx170 hx171 hx172 hx173 hx174 hx175 hx176 hx177 hx178 hx179 hx180 hx4
      replace f168 := (f168 : x168 = (.pointer (some ⟨sb, 0, none⟩)))
      subst f168
      replace f169 := (f169 : x169 = (.int .i64 (k : Nat)))
      subst f169
      replace f170 := (f170 : x170 = (.pointer (some ⟨sb, 0, none⟩)))
      subst f170
      replace f171 := (f171 : x171 = (.int .i64 (k : Nat)))
      subst f171
      replace f172 := (f172 : x172 = (.int .i64 (k1 : Nat)))
      subst f172
      replace f173 := (f173 : x173 = (.pointer (some ⟨sb, 0, none⟩)))
      subst f173
      replace f174 := (f174 : x174 = (.pointer (some ⟨sb, 2, none⟩)))
      subst f174
      replace f175 := (f175 : x175 = (.pointer (some ⟨sb, 2 + k1, none⟩)))
      subst f175
      replace f176 := (f176 : x176 = (.pointer (some ⟨cJ, 0, none⟩)))
      subst f176
      obtain ⟨ta, tc, e177, tg, hM⟩ := f177
      subst e177
      replace f178 := (f178 : x178 = (.pointer (some ⟨ob, 5, none⟩)))
      subst f178
      replace f179 := (f179 : x179 = (.int .i64 nv))
      subst f179
      subst hA
      show wpList _ _ _ [_, _] _ _
      simp only [Act.put, List.setIfInBounds_toArray, List.set_cons_succ, List.set_cons_zero]
      have HF := hid hM
      have HM10 := hid (HM9.out.keep HU.out)
      clear hM HU HM9
      go_wp2_with (go_at_call 35; (with_reducible refine (H35.out _ _ _ _ _ HM10.out HF.out).mono ?_); rintro e v2 ⟨rfl, hp⟩; have HPE := hid hp; clear hp)
      go_ret
      exact ⟨rfl, HPE.out⟩
end Go.Proofs.YtlgjmdianmijeaaGreat
