/- fits, put. -/
import Derived.Test.YtpbiofnncdneoaaGreatDoorX02
import Derived.Deep.Cut
import Derived.Test.YtpbiofnncdneoaaGreatDoorProg
import Derived.Conc.RwLib
import Derived.Conc.MuData
import Derived.KernelRfl
namespace Go.Proofs.YtpbiofnncdneoaaGreatDoor
open Go Go.RowKit
open Go.RowKit (wrap32 wrap64)

section
variable {P : Program} {C : World → Prop} {o : Oper} {a : Act} {u : World}
end
theorem ld3 (b i : Nat) (n : Int) (u : World) (h : u.cell? ⟨b, i, none⟩ = some (.int .i64 n)) : (Instr.loadAt 3 (.pointer (some ⟨b, i, none⟩))).run Tryz.prog u = .ok (.int .i64 n) u := by go_simp
theorem ld64 (b i m : Nat) (u : World) (h : u.cell? ⟨b, i, none⟩ = some (.map (some m))) : (Instr.loadAt 80 (.pointer (some ⟨b, i, none⟩))).run Tryz.prog u = .ok (.map (some m)) u := by go_simp
variable {w w' : World} {B b m : Nat} {lk room : Int} {off : Bool} {wr ar kp : Int} {F : List Fl}
/-- Is there room? -/
def fitsF (room : Int) (F : List Fl) (s : ByteArray) (n : Nat) : Bool := (hasF F s || decide (F.length < 64)) && decide ((n : Int) ≤ room - (usedF F : Nat))
set_option maxRecDepth 100000 in
set_option maxHeartbeats 1600000 in
theorem fits_any (h : Dk w B b m lk room off wr ar kp F) (s : ByteArray) (n : Nat) (hU : usedF F ≤ 1099511627776) (hr : 0 ≤ room ∧ room ≤ 1099511627776) : Calls Tryz.prog 108 #[.pointer (some ⟨b, 0, none⟩), .string s, .int .i64 (n : Nat)] w fun e w' => e = .returned (.bool (fitsF room F s n)) ∧ w.grownBy w' none := by
 have HHs : Hid (Calls Tryz.prog 147 #[.pointer (some ⟨b, 0, none⟩), .string s] w fun e w' => e = .returned (.bool (hasF F s)) ∧ w' = w) := has_any h s
 have HUs : Hid (∀ u, w.grownBy u none → Calls Tryz.prog 152 #[.pointer (some ⟨b, 0, none⟩)] u fun e w' => ∃ v, e = .returned v ∧ u.grownBy w' none ∧ v = Value.int .i64 (usedF F : Nat)) := fun u hu => (used_any (h.keep hu) hU).mono fun e w' ⟨h1, h2⟩ => ⟨_, h1, h2, rfl⟩
 have HY2 : Hid (∀ u, w.grownBy u none → u.cell? ⟨b, 2, none⟩ = some (.int .i64 room)) := hid (fun u hu => (h.keep hu).c.2.1)
 have y3 := h.c.2.2.1
 have hlen : ∀ ty, (Builtin.len_ #[80] ty #[.map (some m)]).run Tryz.prog w = .ok (.int .i64 (F.length : Nat)) w := fun ty => run_lenM h.map ty
 unfold fitsF
 obtain ⟨H, hH⟩ : ∃ x, hasF F s = x := ⟨_, rfl⟩
 obtain ⟨L, hL⟩ : ∃ x, F.length = x := ⟨_, rfl⟩
 obtain ⟨U, hUU⟩ : ∃ x, usedF F = x := ⟨_, rfl⟩
 rw [hUU] at HUs hU ⊢
 rw [hH] at HHs ⊢
 rw [hL] at hlen ⊢
 obtain ⟨D, hD⟩ : ∃ x, decide ((n : Int) ≤ room - (U : Nat)) = x := ⟨_, rfl⟩
 have HSb : Hid (∀ (x y : Operand) (u : World), (do eqGuard .sub 3 x y (.int .i64 room) (.int .i64 (U : Nat)); binOp .sub 3 (.int .i64 room) (.int .i64 (U : Nat)) : Sem Value).run Tryz.prog u = .ok (.int .i64 (room - (U : Nat))) u) := hid (fun x y u => by
  have e : IntKind.i64.wrap (room - (U : Int)) = room - (U : Int) := by rw [IntKind.wrap_i64]; omega
  simp [eqGuard, binOp, Op.intArith, e])
 have HLq : Hid (∀ (x y : Operand) (u : World), (do eqGuard .leq 3 x y (.int .i64 (n : Nat)) (.int .i64 (room - (U : Nat))); binOp .leq 3 (.int .i64 (n : Nat)) (.int .i64 (room - (U : Nat))) : Sem Value).run Tryz.prog u = .ok (.bool D) u) := hid (fun x y u => by rw [← hD]; go_simp)
 rw [hD]
 clear hH hL hUU hD h hU hr
 cases H with
 | true =>
  rw [Bool.true_or, Bool.true_and]
  clear y3 hlen
  go_enter Tryz.func108, Tryz.ntmps108
  go_upto_region 3 with (go_at_call 147; refine HHs.out.mono ?_; rintro e w2 ⟨rfl, rfl⟩)
  have HG2 := hid (grefl w2 none)
  refine wp_region_listX (by kernel_rfl) [fun v _ => v = (Value.int .i64 (n : Nat)), fun v _ => v = (Value.pointer (some ⟨b, 0, none⟩)), fun v _ => v = (Value.pointer (some ⟨b, 0, none⟩)), fun v _ => v = (Value.pointer (some ⟨b, 2, none⟩)), fun v _ => v = (Value.int .i64 room), fun v _ => v = (Value.pointer (some ⟨b, 0, none⟩)), fun v _ => v = Value.int .i64 (U : Nat), fun v _ => v = (Value.int .i64 (room - (U : Nat))), fun v _ => v = (Value.bool D), fun v _ => v = (Value.bool D)] (none) (fun _ => none) 10 (by kernel_rfl) (by kernel_rfl) (by kernel_rfl) (by kernel_rfl) (by decide) noRow_one (fun _ => .inl rfl) ⟨fun i v u u' hki h hg => h, fun i v u u' hki h hg => h, fun i v u u' hki h hg => h, fun i v u u' hki h hg => h, fun i v u u' hki h hg => h, fun i v u u' hki h hg => h, fun i v u u' hki h hg => h, fun i v u u' hki h hg => h, fun i v u u' hki h hg => h, fun i v u u' hki h hg => h, trivial⟩ ⟨?_, ?_, ?_, ?_, ?_, ?_, ?_, ?_, ?_, ?_, trivial⟩ ?_
  ·intro A u hu hpu hsz hout hdeps
   have e2 : A.eval (.tmp 2) = (.int .i64 (n : Nat)) := (hout 2 (by kernel_rfl)).trans rfl
   refine ifw_none rfl ?_
   with_reducible refine shown_q (Value.int .i64 (n : Nat)) ?qq_1f1_0 (fun _ _ => ?qr_1f1_0)
   case qr_1f1_0 => exact (rfl : (Value.int .i64 (n : Nat)) = (Value.int .i64 (n : Nat)))
   with_reducible refine quietAt_mv (.tmp 2) (Value.int .i64 (n : Nat)) ?h0_1f1_0 ?h1_1f1_0
   case h0_1f1_0 => rfl
   case h1_1f1_0 => exact e2
  ·intro A u hu hpu hsz hout hdeps
   have e0 : A.eval (.tmp 0) = (.pointer (some ⟨b, 0, none⟩)) := (hout 0 (by kernel_rfl)).trans rfl
   refine ifw_none rfl ?_
   with_reducible refine shown_q (Value.pointer (some ⟨b, 0, none⟩)) ?qq_1f1_1 (fun _ _ => ?qr_1f1_1)
   case qr_1f1_1 => exact (rfl : (Value.pointer (some ⟨b, 0, none⟩)) = (Value.pointer (some ⟨b, 0, none⟩)))
   with_reducible refine quietAt_mv (.tmp 0) (Value.pointer (some ⟨b, 0, none⟩)) ?h0_1f1_1 ?h1_1f1_1
   case h0_1f1_1 => rfl
   case h1_1f1_1 => exact e0
  ·intro A u hu hpu hsz hout hdeps
   have e20 : A.eval (.tmp 20) = (.pointer (some ⟨b, 0, none⟩)) := by have h := depL hdeps 1 (by kernel_rfl) 20 (by kernel_rfl); exact h
   refine ifw_none rfl ?_
   with_reducible refine shown_q (Value.pointer (some ⟨b, 0, none⟩)) ?qq_1f1_2 (fun _ _ => ?qr_1f1_2)
   case qr_1f1_2 => exact (rfl : (Value.pointer (some ⟨b, 0, none⟩)) = (Value.pointer (some ⟨b, 0, none⟩)))
   with_reducible refine quietAt_nil (.tmp 20) ?h0_1f1_2 ⟨b, 0, none⟩ ?h1_1f1_2
   case h0_1f1_2 => rfl
   case h1_1f1_2 => exact e20
  ·intro A u hu hpu hsz hout hdeps
   have e21 : A.eval (.tmp 21) = (.pointer (some ⟨b, 0, none⟩)) := by have h := depL hdeps 2 (by kernel_rfl) 21 (by kernel_rfl); exact h
   refine ifw_none rfl ?_
   with_reducible refine shown_q (Value.pointer (some ⟨b, 2, none⟩)) ?qq_1f1_3 (fun _ _ => ?qr_1f1_3)
   case qr_1f1_3 => exact (rfl : (Value.pointer (some ⟨b, 2, none⟩)) = (Value.pointer (some ⟨b, 2, none⟩)))
   with_reducible refine quietAt_field 89 (.tmp 21) 1 ?h0_1f1_3 ⟨b, 0, none⟩ ⟨b, 2, none⟩ ?h1_1f1_3 ?h2_1f1_3
   case h0_1f1_3 => rfl
   case h1_1f1_3 => exact e21
   case h2_1f1_3 => kernel_rfl
  ·intro A u hu hpu hsz hout hdeps
   have e22 : A.eval (.tmp 22) = (.pointer (some ⟨b, 2, none⟩)) := by have h := depL hdeps 3 (by kernel_rfl) 22 (by kernel_rfl); exact h
   refine ifw_none rfl ?_
   with_reducible refine shown_q (Value.int .i64 room) ?qq_1f1_4 (fun _ _ => ?qr_1f1_4)
   case qr_1f1_4 => exact (rfl : (Value.int .i64 room) = (Value.int .i64 room))
   with_reducible refine quietAt_ld 3 (.tmp 22) (Value.pointer (some ⟨b, 2, none⟩)) (Value.int .i64 room) ?h0_1f1_4 ?h1_1f1_4 ?h2_1f1_4
   case h0_1f1_4 => rfl
   case h1_1f1_4 => exact e22
   case h2_1f1_4 => exact ld3 b 2 room u (HY2.out u (gtrans HG2.out hu))
  ·intro A u hu hpu hsz hout hdeps
   have e0 : A.eval (.tmp 0) = (.pointer (some ⟨b, 0, none⟩)) := (hout 0 (by kernel_rfl)).trans rfl
   refine ifw_none rfl ?_
   with_reducible refine shown_q (Value.pointer (some ⟨b, 0, none⟩)) ?qq_1f1_5 (fun _ _ => ?qr_1f1_5)
   case qr_1f1_5 => exact (rfl : (Value.pointer (some ⟨b, 0, none⟩)) = (Value.pointer (some ⟨b, 0, none⟩)))
   with_reducible refine quietAt_mv (.tmp 0) (Value.pointer (some ⟨b, 0, none⟩)) ?h0_1f1_5 ?h1_1f1_5
   case h0_1f1_5 => rfl
   case h1_1f1_5 => exact e0
  ·intro A u hu hpu hsz hout hdeps
   have e24 : A.eval (.tmp 24) = (.pointer (some ⟨b, 0, none⟩)) := by have h := depL hdeps 5 (by kernel_rfl) 24 (by kernel_rfl); exact h
   refine ifw_none rfl ?_
   with_reducible refine shown_call 152 Tryz.f152 ?h0_1f1_6 ?h1_1f1_6 ?h2_1f1_6 #[.tmp 24] #[26] ?h3_1f1_6 #[(Value.pointer (some ⟨b, 0, none⟩))] ?h4_1f1_6 ?h5_1f1_6
   case h0_1f1_6 => exact Tryz.func152
   case h1_1f1_6 => kernel_rfl
   case h2_1f1_6 => kernel_rfl
   case h3_1f1_6 => rfl
   case h4_1f1_6 => exact map1 _ _ _ e24
   case h5_1f1_6 => exact HUs.out u (gtrans HG2.out hu)
  ·intro A u hu hpu hsz hout hdeps
   have e23 : A.eval (.tmp 23) = (.int .i64 room) := by have h := depL hdeps 4 (by kernel_rfl) 23 (by kernel_rfl); exact h
   have f25 : (fun v _ => v = Value.int .i64 (U : Nat)) (A.eval (.tmp 25)) u := by have h := depL hdeps 6 (by kernel_rfl) 25 (by kernel_rfl); exact h
   have e25 := (f25 : _ = Value.int .i64 (U : Nat))
   refine ifw_none rfl ?_
   with_reducible refine shown_q (Value.int .i64 (room - (U : Nat))) ?qq_1f1_7 (fun _ _ => ?qr_1f1_7)
   case qr_1f1_7 => exact (rfl : (Value.int .i64 (room - (U : Nat))) = (Value.int .i64 (room - (U : Nat))))
   with_reducible refine quietAt_bin .sub 3 (.tmp 23) (.tmp 25) 3 (Value.int .i64 room) (Value.int .i64 (U : Nat)) (Value.int .i64 (room - (U : Nat))) ?h0_1f1_7 ?h1_1f1_7 ?h2_1f1_7 ?h3_1f1_7
   case h0_1f1_7 => rfl
   case h1_1f1_7 => exact e23
   case h2_1f1_7 => exact e25
   case h3_1f1_7 => exact HSb.out _ _ u
  ·intro A u hu hpu hsz hout hdeps
   have e19 : A.eval (.tmp 19) = (.int .i64 (n : Nat)) := by have h := depL hdeps 0 (by kernel_rfl) 19 (by kernel_rfl); exact h
   have e26 : A.eval (.tmp 26) = (.int .i64 (room - (U : Nat))) := by have h := depL hdeps 7 (by kernel_rfl) 26 (by kernel_rfl); exact h
   refine ifw_none rfl ?_
   with_reducible refine shown_q (Value.bool D) ?qq_1f1_8 (fun _ _ => ?qr_1f1_8)
   case qr_1f1_8 => exact (rfl : (Value.bool D) = (Value.bool D))
   with_reducible refine quietAt_bin .leq 3 (.tmp 19) (.tmp 26) 3 (Value.int .i64 (n : Nat)) (Value.int .i64 (room - (U : Nat))) (Value.bool D) ?h0_1f1_8 ?h1_1f1_8 ?h2_1f1_8 ?h3_1f1_8
   case h0_1f1_8 => rfl
   case h1_1f1_8 => exact e19
   case h2_1f1_8 => exact e26
   case h3_1f1_8 => exact HLq.out _ _ u
  ·intro A u hu hpu hsz hout hdeps
   have e27 : A.eval (.tmp 27) = (.bool D) := by have h := depL hdeps 8 (by kernel_rfl) 27 (by kernel_rfl); exact h
   refine ifw_none rfl ?_
   with_reducible refine shown_q (Value.bool D) ?qq_1f1_9 (fun _ _ => ?qr_1f1_9)
   case qr_1f1_9 => exact (rfl : (Value.bool D) = (Value.bool D))
   with_reducible refine quietAt_as (.tmp 27) (Value.bool D) ?h0_1f1_9 ?h1_1f1_9
   case h0_1f1_9 => rfl
   case h1_1f1_9 => exact e27
  ·intro A u8 listed hh hall
   have hA := hh.frame
   have HU := hid hh.grown
   obtain ⟨x19, hx19⟩ : ∃ x, A.eval (.tmp 19) = x := ⟨_, rfl⟩
   have f19 : (fun v _ => v = (Value.int .i64 (n : Nat))) x19 u8 := by rw [← hx19]; exact hh.got 0 _ 19 rfl rfl (hall 0 (by decide))
   obtain ⟨x20, hx20⟩ : ∃ x, A.eval (.tmp 20) = x := ⟨_, rfl⟩
   have f20 : (fun v _ => v = (Value.pointer (some ⟨b, 0, none⟩))) x20 u8 := by rw [← hx20]; exact hh.got 1 _ 20 rfl rfl (hall 1 (by decide))
   obtain ⟨x21, hx21⟩ : ∃ x, A.eval (.tmp 21) = x := ⟨_, rfl⟩
   have f21 : (fun v _ => v = (Value.pointer (some ⟨b, 0, none⟩))) x21 u8 := by rw [← hx21]; exact hh.got 2 _ 21 rfl rfl (hall 2 (by decide))
   obtain ⟨x22, hx22⟩ : ∃ x, A.eval (.tmp 22) = x := ⟨_, rfl⟩
   have f22 : (fun v _ => v = (Value.pointer (some ⟨b, 2, none⟩))) x22 u8 := by rw [← hx22]; exact hh.got 3 _ 22 rfl rfl (hall 3 (by decide))
   obtain ⟨x23, hx23⟩ : ∃ x, A.eval (.tmp 23) = x := ⟨_, rfl⟩
   have f23 : (fun v _ => v = (Value.int .i64 room)) x23 u8 := by rw [← hx23]; exact hh.got 4 _ 23 rfl rfl (hall 4 (by decide))
   obtain ⟨x24, hx24⟩ : ∃ x, A.eval (.tmp 24) = x := ⟨_, rfl⟩
   have f24 : (fun v _ => v = (Value.pointer (some ⟨b, 0, none⟩))) x24 u8 := by rw [← hx24]; exact hh.got 5 _ 24 rfl rfl (hall 5 (by decide))
   obtain ⟨x25, hx25⟩ : ∃ x, A.eval (.tmp 25) = x := ⟨_, rfl⟩
   have f25 : (fun v _ => v = Value.int .i64 (U : Nat)) x25 u8 := by rw [← hx25]; exact hh.got 6 _ 25 rfl rfl (hall 6 (by decide))
   obtain ⟨x26, hx26⟩ : ∃ x, A.eval (.tmp 26) = x := ⟨_, rfl⟩
   have f26 : (fun v _ => v = (Value.int .i64 (room - (U : Nat)))) x26 u8 := by rw [← hx26]; exact hh.got 7 _ 26 rfl rfl (hall 7 (by decide))
   obtain ⟨x27, hx27⟩ : ∃ x, A.eval (.tmp 27) = x := ⟨_, rfl⟩
   have f27 : (fun v _ => v = (Value.bool D)) x27 u8 := by rw [← hx27]; exact hh.got 8 _ 27 rfl rfl (hall 8 (by decide))
   obtain ⟨x6, hx6⟩ : ∃ x, A.eval (.tmp 6) = x := ⟨_, rfl⟩
   have f6 : (fun v _ => v = (Value.bool D)) x6 u8 := by rw [← hx6]; exact hh.got 9 _ 6 rfl rfl (hall 9 (by decide))
   dsimp only [wrote, List.foldl] at hA
   rw [hx19, hx20, hx21, hx22, hx23, hx24, hx25, hx26, hx27, hx6] at hA
   clear hh hall hx19 hx20 hx21 hx22 hx23 hx24 hx25 hx26 hx27 hx6
   replace f19 := (f19 : x19 = (.int .i64 (n : Nat)))
   subst f19
   replace f20 := (f20 : x20 = (.pointer (some ⟨b, 0, none⟩)))
   subst f20
   replace f21 := (f21 : x21 = (.pointer (some ⟨b, 0, none⟩)))
   subst f21
   replace f22 := (f22 : x22 = (.pointer (some ⟨b, 2, none⟩)))
   subst f22
   replace f23 := (f23 : x23 = (.int .i64 room))
   subst f23
   replace f24 := (f24 : x24 = (.pointer (some ⟨b, 0, none⟩)))
   subst f24
   have e25 := (f25 : _ = Value.int .i64 (U : Nat))
   subst e25
   replace f26 := (f26 : x26 = (.int .i64 (room - (U : Nat))))
   subst f26
   replace f27 := (f27 : x27 = (.bool D))
   subst f27
   replace f6 := (f6 : x6 = (.bool D))
   subst f6
   subst hA
   show wpList _ _ _ [] _ _
   unfold wpList
   simp only [Act.put, List.setIfInBounds_toArray, List.set_cons_succ, List.set_cons_zero]
   go_wp2_with fail
   go_ret
   exact ⟨rfl, gtrans HG2.out HU.out⟩
 | false =>
  by_cases h64 : L < 64
  ·rw [decide_eq_true h64, Bool.or_true, Bool.true_and]
   have h64' : ¬ (64 : Int) ≤ (L : Int) := by omega
   clear h64
   go_enter Tryz.func108, Tryz.ntmps108
   go_upto_region 3 with (go_at_call 147; refine HHs.out.mono ?_; rintro e w2 ⟨rfl, rfl⟩)
   have HG2 := hid (grefl w2 none)
   refine wp_region_listX (by kernel_rfl) [fun v _ => v = (Value.int .i64 (n : Nat)), fun v _ => v = (Value.pointer (some ⟨b, 0, none⟩)), fun v _ => v = (Value.pointer (some ⟨b, 0, none⟩)), fun v _ => v = (Value.pointer (some ⟨b, 2, none⟩)), fun v _ => v = (Value.int .i64 room), fun v _ => v = (Value.pointer (some ⟨b, 0, none⟩)), fun v _ => v = Value.int .i64 (U : Nat), fun v _ => v = (Value.int .i64 (room - (U : Nat))), fun v _ => v = (Value.bool D), fun v _ => v = (Value.bool D)] (none) (fun _ => none) 10 (by kernel_rfl) (by kernel_rfl) (by kernel_rfl) (by kernel_rfl) (by decide) noRow_one (fun _ => .inl rfl) ⟨fun i v u u' hki h hg => h, fun i v u u' hki h hg => h, fun i v u u' hki h hg => h, fun i v u u' hki h hg => h, fun i v u u' hki h hg => h, fun i v u u' hki h hg => h, fun i v u u' hki h hg => h, fun i v u u' hki h hg => h, fun i v u u' hki h hg => h, fun i v u u' hki h hg => h, trivial⟩ ⟨?_, ?_, ?_, ?_, ?_, ?_, ?_, ?_, ?_, ?_, trivial⟩ ?_
   ·intro A u hu hpu hsz hout hdeps
    have e2 : A.eval (.tmp 2) = (.int .i64 (n : Nat)) := (hout 2 (by kernel_rfl)).trans rfl
    refine ifw_none rfl ?_
    with_reducible refine shown_q (Value.int .i64 (n : Nat)) ?qq_2f2_0 (fun _ _ => ?qr_2f2_0)
    case qr_2f2_0 => exact (rfl : (Value.int .i64 (n : Nat)) = (Value.int .i64 (n : Nat)))
    with_reducible refine quietAt_mv (.tmp 2) (Value.int .i64 (n : Nat)) ?h0_2f2_0 ?h1_2f2_0
    case h0_2f2_0 => rfl
    case h1_2f2_0 => exact e2
   ·intro A u hu hpu hsz hout hdeps
    have e0 : A.eval (.tmp 0) = (.pointer (some ⟨b, 0, none⟩)) := (hout 0 (by kernel_rfl)).trans rfl
    refine ifw_none rfl ?_
    with_reducible refine shown_q (Value.pointer (some ⟨b, 0, none⟩)) ?qq_2f2_1 (fun _ _ => ?qr_2f2_1)
    case qr_2f2_1 => exact (rfl : (Value.pointer (some ⟨b, 0, none⟩)) = (Value.pointer (some ⟨b, 0, none⟩)))
    with_reducible refine quietAt_mv (.tmp 0) (Value.pointer (some ⟨b, 0, none⟩)) ?h0_2f2_1 ?h1_2f2_1
    case h0_2f2_1 => rfl
    case h1_2f2_1 => exact e0
   ·intro A u hu hpu hsz hout hdeps
    have e20 : A.eval (.tmp 20) = (.pointer (some ⟨b, 0, none⟩)) := by have h := depL hdeps 1 (by kernel_rfl) 20 (by kernel_rfl); exact h
    refine ifw_none rfl ?_
    with_reducible refine shown_q (Value.pointer (some ⟨b, 0, none⟩)) ?qq_2f2_2 (fun _ _ => ?qr_2f2_2)
    case qr_2f2_2 => exact (rfl : (Value.pointer (some ⟨b, 0, none⟩)) = (Value.pointer (some ⟨b, 0, none⟩)))
    with_reducible refine quietAt_nil (.tmp 20) ?h0_2f2_2 ⟨b, 0, none⟩ ?h1_2f2_2
    case h0_2f2_2 => rfl
    case h1_2f2_2 => exact e20
   ·intro A u hu hpu hsz hout hdeps
    have e21 : A.eval (.tmp 21) = (.pointer (some ⟨b, 0, none⟩)) := by have h := depL hdeps 2 (by kernel_rfl) 21 (by kernel_rfl); exact h
    refine ifw_none rfl ?_
    with_reducible refine shown_q (Value.pointer (some ⟨b, 2, none⟩)) ?qq_2f2_3 (fun _ _ => ?qr_2f2_3)
    case qr_2f2_3 => exact (rfl : (Value.pointer (some ⟨b, 2, none⟩)) = (Value.pointer (some ⟨b, 2, none⟩)))
    with_reducible refine quietAt_field 89 (.tmp 21) 1 ?h0_2f2_3 ⟨b, 0, none⟩ ⟨b, 2, none⟩ ?h1_2f2_3 ?h2_2f2_3
    case h0_2f2_3 => rfl
    case h1_2f2_3 => exact e21
    case h2_2f2_3 => kernel_rfl
   ·intro A u hu hpu hsz hout hdeps
    have e22 : A.eval (.tmp 22) = (.pointer (some ⟨b, 2, none⟩)) := by have h := depL hdeps 3 (by kernel_rfl) 22 (by kernel_rfl); exact h
    refine ifw_none rfl ?_
    with_reducible refine shown_q (Value.int .i64 room) ?qq_2f2_4 (fun _ _ => ?qr_2f2_4)
    case qr_2f2_4 => exact (rfl : (Value.int .i64 room) = (Value.int .i64 room))
    with_reducible refine quietAt_ld 3 (.tmp 22) (Value.pointer (some ⟨b, 2, none⟩)) (Value.int .i64 room) ?h0_2f2_4 ?h1_2f2_4 ?h2_2f2_4
    case h0_2f2_4 => rfl
    case h1_2f2_4 => exact e22
    case h2_2f2_4 => exact ld3 b 2 room u (HY2.out u (gtrans HG2.out hu))
   ·intro A u hu hpu hsz hout hdeps
    have e0 : A.eval (.tmp 0) = (.pointer (some ⟨b, 0, none⟩)) := (hout 0 (by kernel_rfl)).trans rfl
    refine ifw_none rfl ?_
    with_reducible refine shown_q (Value.pointer (some ⟨b, 0, none⟩)) ?qq_2f2_5 (fun _ _ => ?qr_2f2_5)
    case qr_2f2_5 => exact (rfl : (Value.pointer (some ⟨b, 0, none⟩)) = (Value.pointer (some ⟨b, 0, none⟩)))
    with_reducible refine quietAt_mv (.tmp 0) (Value.pointer (some ⟨b, 0, none⟩)) ?h0_2f2_5 ?h1_2f2_5
    case h0_2f2_5 => rfl
    case h1_2f2_5 => exact e0
   ·intro A u hu hpu hsz hout hdeps
    have e24 : A.eval (.tmp 24) = (.pointer (some ⟨b, 0, none⟩)) := by have h := depL hdeps 5 (by kernel_rfl) 24 (by kernel_rfl); exact h
    refine ifw_none rfl ?_
    with_reducible refine shown_call 152 Tryz.f152 ?h0_2f2_6 ?h1_2f2_6 ?h2_2f2_6 #[.tmp 24] #[26] ?h3_2f2_6 #[(Value.pointer (some ⟨b, 0, none⟩))] ?h4_2f2_6 ?h5_2f2_6
    case h0_2f2_6 => exact Tryz.func152
    case h1_2f2_6 => kernel_rfl
    case h2_2f2_6 => kernel_rfl
    case h3_2f2_6 => rfl
    case h4_2f2_6 => exact map1 _ _ _ e24
    case h5_2f2_6 => exact HUs.out u (gtrans HG2.out hu)
   ·intro A u hu hpu hsz hout hdeps
    have e23 : A.eval (.tmp 23) = (.int .i64 room) := by have h := depL hdeps 4 (by kernel_rfl) 23 (by kernel_rfl); exact h
    have f25 : (fun v _ => v = Value.int .i64 (U : Nat)) (A.eval (.tmp 25)) u := by have h := depL hdeps 6 (by kernel_rfl) 25 (by kernel_rfl); exact h
    have e25 := (f25 : _ = Value.int .i64 (U : Nat))
    refine ifw_none rfl ?_
    with_reducible refine shown_q (Value.int .i64 (room - (U : Nat))) ?qq_2f2_7 (fun _ _ => ?qr_2f2_7)
    case qr_2f2_7 => exact (rfl : (Value.int .i64 (room - (U : Nat))) = (Value.int .i64 (room - (U : Nat))))
    with_reducible refine quietAt_bin .sub 3 (.tmp 23) (.tmp 25) 3 (Value.int .i64 room) (Value.int .i64 (U : Nat)) (Value.int .i64 (room - (U : Nat))) ?h0_2f2_7 ?h1_2f2_7 ?h2_2f2_7 ?h3_2f2_7
    case h0_2f2_7 => rfl
    case h1_2f2_7 => exact e23
    case h2_2f2_7 => exact e25
    case h3_2f2_7 => exact HSb.out _ _ u
   ·intro A u hu hpu hsz hout hdeps
    have e19 : A.eval (.tmp 19) = (.int .i64 (n : Nat)) := by have h := depL hdeps 0 (by kernel_rfl) 19 (by kernel_rfl); exact h
    have e26 : A.eval (.tmp 26) = (.int .i64 (room - (U : Nat))) := by have h := depL hdeps 7 (by kernel_rfl) 26 (by kernel_rfl); exact h
    refine ifw_none rfl ?_
    with_reducible refine shown_q (Value.bool D) ?qq_2f2_8 (fun _ _ => ?qr_2f2_8)
    case qr_2f2_8 => exact (rfl : (Value.bool D) = (Value.bool D))
    with_reducible refine quietAt_bin .leq 3 (.tmp 19) (.tmp 26) 3 (Value.int .i64 (n : Nat)) (Value.int .i64 (room - (U : Nat))) (Value.bool D) ?h0_2f2_8 ?h1_2f2_8 ?h2_2f2_8 ?h3_2f2_8
    case h0_2f2_8 => rfl
    case h1_2f2_8 => exact e19
    case h2_2f2_8 => exact e26
    case h3_2f2_8 => exact HLq.out _ _ u
   ·intro A u hu hpu hsz hout hdeps
    have e27 : A.eval (.tmp 27) = (.bool D) := by have h := depL hdeps 8 (by kernel_rfl) 27 (by kernel_rfl); exact h
    refine ifw_none rfl ?_
    with_reducible refine shown_q (Value.bool D) ?qq_2f2_9 (fun _ _ => ?qr_2f2_9)
    case qr_2f2_9 => exact (rfl : (Value.bool D) = (Value.bool D))
    with_reducible refine quietAt_as (.tmp 27) (Value.bool D) ?h0_2f2_9 ?h1_2f2_9
    case h0_2f2_9 => rfl
    case h1_2f2_9 => exact e27
   ·intro A u8 listed hh hall
    have hA := hh.frame
    have HU := hid hh.grown
    obtain ⟨x19, hx19⟩ : ∃ x, A.eval (.tmp 19) = x := ⟨_, rfl⟩
    have f19 : (fun v _ => v = (Value.int .i64 (n : Nat))) x19 u8 := by rw [← hx19]; exact hh.got 0 _ 19 rfl rfl (hall 0 (by decide))
    obtain ⟨x20, hx20⟩ : ∃ x, A.eval (.tmp 20) = x := ⟨_, rfl⟩
    have f20 : (fun v _ => v = (Value.pointer (some ⟨b, 0, none⟩))) x20 u8 := by rw [← hx20]; exact hh.got 1 _ 20 rfl rfl (hall 1 (by decide))
    obtain ⟨x21, hx21⟩ : ∃ x, A.eval (.tmp 21) = x := ⟨_, rfl⟩
    have f21 : (fun v _ => v = (Value.pointer (some ⟨b, 0, none⟩))) x21 u8 := by rw [← hx21]; exact hh.got 2 _ 21 rfl rfl (hall 2 (by decide))
    obtain ⟨x22, hx22⟩ : ∃ x, A.eval (.tmp 22) = x := ⟨_, rfl⟩
    have f22 : (fun v _ => v = (Value.pointer (some ⟨b, 2, none⟩))) x22 u8 := by rw [← hx22]; exact hh.got 3 _ 22 rfl rfl (hall 3 (by decide))
    obtain ⟨x23, hx23⟩ : ∃ x, A.eval (.tmp 23) = x := ⟨_, rfl⟩
    have f23 : (fun v _ => v = (Value.int .i64 room)) x23 u8 := by rw [← hx23]; exact hh.got 4 _ 23 rfl rfl (hall 4 (by decide))
    obtain ⟨x24, hx24⟩ : ∃ x, A.eval (.tmp 24) = x := ⟨_, rfl⟩
    have f24 : (fun v _ => v = (Value.pointer (some ⟨b, 0, none⟩))) x24 u8 := by rw [← hx24]; exact hh.got 5 _ 24 rfl rfl (hall 5 (by decide))
    obtain ⟨x25, hx25⟩ : ∃ x, A.eval (.tmp 25) = x := ⟨_, rfl⟩
    have f25 : (fun v _ => v = Value.int .i64 (U : Nat)) x25 u8 := by rw [← hx25]; exact hh.got 6 _ 25 rfl rfl (hall 6 (by decide))
    obtain ⟨x26, hx26⟩ : ∃ x, A.eval (.tmp 26) = x := ⟨_, rfl⟩
    have f26 : (fun v _ => v = (Value.int .i64 (room - (U : Nat)))) x26 u8 := by rw [← hx26]; exact hh.got 7 _ 26 rfl rfl (hall 7 (by decide))
    obtain ⟨x27, hx27⟩ : ∃ x, A.eval (.tmp 27) = x := ⟨_, rfl⟩
    have f27 : (fun v _ => v = (Value.bool D)) x27 u8 := by rw [← hx27]; exact hh.got 8 _ 27 rfl rfl (hall 8 (by decide))
    obtain ⟨x6, hx6⟩ : ∃ x, A.eval (.tmp 6) = x := ⟨_, rfl⟩
    have f6 : (fun v _ => v = (Value.bool D)) x6 u8 := by rw [← hx6]; exact hh.got 9 _ 6 rfl rfl (hall 9 (by decide))
    dsimp only [wrote, List.foldl] at hA
    rw [hx19, hx20, hx21, hx22, hx23, hx24, hx25, hx26, hx27, hx6] at hA
    clear hh hall hx19 hx20 hx21 hx22 hx23 hx24 hx25 hx26 hx27 hx6
    replace f19 := (f19 : x19 = (.int .i64 (n : Nat)))
    subst f19
    replace f20 := (f20 : x20 = (.pointer (some ⟨b, 0, none⟩)))
    subst f20
    replace f21 := (f21 : x21 = (.pointer (some ⟨b, 0, none⟩)))
    subst f21
    replace f22 := (f22 : x22 = (.pointer (some ⟨b, 2, none⟩)))
    subst f22
    replace f23 := (f23 : x23 = (.int .i64 room))
    subst f23
    replace f24 := (f24 : x24 = (.pointer (some ⟨b, 0, none⟩)))
    subst f24
    have e25 := (f25 : _ = Value.int .i64 (U : Nat))
    subst e25
    replace f26 := (f26 : x26 = (.int .i64 (room - (U : Nat))))
    subst f26
    replace f27 := (f27 : x27 = (.bool D))
    subst f27
    replace f6 := (f6 : x6 = (.bool D))
    subst f6
    subst hA
    show wpList _ _ _ [] _ _
    unfold wpList
    simp only [Act.put, List.setIfInBounds_toArray, List.set_cons_succ, List.set_cons_zero]
    go_wp2_with fail
    go_ret
    exact ⟨rfl, gtrans HG2.out HU.out⟩
  ·rw [decide_eq_false h64, Bool.or_false, Bool.false_and]
   have h64' : (64 : Int) ≤ (L : Int) := by omega
   clear h64
   go_enter Tryz.func108, Tryz.ntmps108
   go_wp2_with (go_at_call 147; refine HHs.out.mono ?_; rintro e w2 ⟨rfl, rfl⟩)
   go_ret
   exact ⟨rfl, grefl _ _⟩
/-- The files of a list in which one is laid. -/
theorem mem_setF {f : Fl} : ∀ {F : List Fl} {k : ByteArray} {v : Value} {bs : List UInt8}, (F.map (·.nm)).Nodup → f ∈ setF F k v bs → f = ⟨k, v, bs⟩ ∨ (f ∈ F ∧ f.nm ≠ k)
 | [], k, v, bs, _, h => by
  have : f = ⟨k, v, bs⟩ := by simpa [setF] using h
  exact .inl this
 | g :: F, k, v, bs, hn, h => by
  unfold setF at h
  have hn' := List.nodup_cons.1 hn
  by_cases e : g.nm = k
  ·rw [if_pos e] at h
   rcases List.mem_cons.1 h with h | h
   ·exact .inl h
   ·exact .inr ⟨List.mem_cons_of_mem _ h, fun q => hn'.1 (by show g.nm ∈ _; rw [show g.nm = f.nm from e.trans q.symm]; exact List.mem_map.2 ⟨f, h, rfl⟩)⟩
  ·rw [if_neg e] at h
   rcases List.mem_cons.1 h with rfl | h
   ·exact .inr ⟨List.mem_cons_self .., e⟩
   ·rcases mem_setF hn'.2 h with h | ⟨h1, h2⟩
    ·exact .inl h
    ·exact .inr ⟨List.mem_cons_of_mem _ h1, h2⟩
theorem ap_setF {k : ByteArray} {v : Value} {bs : List UInt8} : ∀ {F : List Fl}, ApF F → (∀ f ∈ F, f.nm ≠ k → v.ownBlock = none ∨ v.ownBlock ≠ f.v.ownBlock) → (F.map (·.nm)).Nodup → ApF (setF F k v bs)
 | [], _, _, _ => by unfold setF ApF; exact List.pairwise_singleton _ _
 | g :: F, h, hv, hn => by
  have hn' := List.nodup_cons.1 hn
  obtain ⟨h1, h2⟩ := List.pairwise_cons.1 h
  unfold setF
  by_cases e : g.nm = k
  ·rw [if_pos e]
   refine List.pairwise_cons.2 ⟨fun f hf => hv f (List.mem_cons_of_mem _ hf) (fun q => hn'.1 (by show g.nm ∈ _; rw [show g.nm = f.nm from e.trans q.symm]; exact List.mem_map.2 ⟨f, hf, rfl⟩)), h2⟩
  ·rw [if_neg e]
   refine List.pairwise_cons.2 ⟨fun f hf => ?_, ap_setF h2 (fun f hf => hv f (List.mem_cons_of_mem _ hf)) hn'.2⟩
   rcases mem_setF hn'.2 hf with rfl | ⟨hf, _⟩
   ·rcases hv g (List.mem_cons_self ..) e with q | q
    ·cases hg : g.v.ownBlock with
     | none => exact .inl rfl
     | some x => exact .inr (by rw [q]; simp)
    ·cases hg : g.v.ownBlock with
     | none => exact .inl rfl
     | some x => exact .inr (by rw [hg] at q; exact fun e => q e.symm)
   ·exact h1 f hf
/-- A disk one of whose files is being written. -/
structure DkW (w : World) (B b m : Nat) (lk room : Int) (off : Bool) (wr ar kp : Int) (F : List Fl) (s : ByteArray) : Prop where
 blk : Blk w b (dkc lk room m off wr ar kp) 89
 map : MapAt w m F
 own : ∀ f ∈ F, f.nm ≠ s → Out B w f.v f.bs
 apart : ApF F
 low : B ≤ b ∧ B ≤ m
theorem Dk.toW (h : Dk w B b m lk room off wr ar kp F) (s : ByteArray) : DkW w B b m lk room off wr ar kp F s := ⟨h.blk, h.map, fun f hf _ => h.own f hf, h.apart, h.low⟩
theorem DkW.keep {s : ByteArray} (h : DkW w B b m lk room off wr ar kp F s) (hg : w.grownBy w' none) : DkW w' B b m lk room off wr ar kp F s :=
 ⟨h.blk.keep hg, h.map.keep hg, fun f hf hn => (h.own f hf hn).keep hg, h.apart, h.low⟩
theorem ap_sym : ∀ {F : List Fl}, ApF F → ∀ f ∈ F, ∀ g ∈ F, f.nm ≠ g.nm → f.v.ownBlock = none ∨ f.v.ownBlock ≠ g.v.ownBlock
 | [], _, f, hf, _, _, _ => by cases hf
 | x :: F, h, f, hf, g, hg, hne => by
  obtain ⟨h1, h2⟩ := List.pairwise_cons.1 h
  rcases List.mem_cons.1 hf with e1 | hf1
  ·rcases List.mem_cons.1 hg with e2 | hg1
   ·exact absurd (by rw [e1, e2]) hne
   ·rw [e1]; exact h1 g hg1
  ·rcases List.mem_cons.1 hg with e2 | hg1
   ·rw [e2]
    rcases h1 f hf1 with q | q
    ·cases hk : f.v.ownBlock with
     | none => exact .inl rfl
     | some k => exact .inr (by rw [q]; simp)
    ·cases hk : f.v.ownBlock with
     | none => exact .inl rfl
     | some k => exact .inr (by rw [hk] at q; exact fun e => q e.symm)
   ·exact ap_sym h2 f hf1 g hg1 hne
/-- A row is written that is none of the other files'. -/
theorem Dk.wr' {v : Value} {l : List UInt8} (h : Dk w B b m lk room off wr ar kp F) (s : ByteArray) (ho : Out B w v l) (hg : w.grownBy w' v.ownBlock) (hne : ∀ f ∈ F, f.nm ≠ s → v.ownBlock = none ∨ v.ownBlock ≠ f.v.ownBlock) : DkW w' B b m lk room off wr ar kp F s := by
 refine ⟨h.blk.on hg (fun e => ?_), h.map.on hg (h.map.own ho), fun f hf hn => (h.own f hf).on hg (fun k hk e => ?_), h.apart, h.low⟩
 ·rcases ho.2 with ⟨h1, _⟩ | ⟨g, cap, cur, hv, hB, hgg, _⟩
  ·rw [h1] at e; cases e
  ·rw [hv] at e
   injection e with e
   have e' : g = b := e
   subst e'
   have h9 := h.blk
   unfold Blk at h9
   rw [hgg] at h9
   injection h9 with h9
   injection h9 with _ h9
   cases h9
 ·rcases hne f hf hn with q | q
  ·rw [q] at hk; cases hk
  ·exact q (hk.trans e.symm)
set_option maxRecDepth 100000 in
set_option maxHeartbeats 1600000 in
/-- put: bytes under a name; they are the disk's from then on. -/
theorem put_any (s : ByteArray) (h : DkW w B b m lk room off wr ar kp F s) (va : Option Addr) (vn vc : Nat) (bs : List UInt8) (hs : s.size ≤ 64) (hv : Out B w (.slice va vn vc) bs) (hne : ∀ f ∈ F, f.nm ≠ s → (Value.slice va vn vc).ownBlock = none ∨ (Value.slice va vn vc).ownBlock ≠ f.v.ownBlock) : Calls Tryz.prog 110 #[.pointer (some ⟨b, 0, none⟩), .string s, .slice va vn vc] w fun e w' => e = .returned (.tuple #[]) ∧ Dk w' B b m lk room off wr ar kp (setF F s (.slice va vn vc) bs) ∧ w.grownBy w' (some m) := by
 have HY3 : Hid (∀ u, w.grownBy u none → u.cell? ⟨b, 3, none⟩ = some (.map (some m))) := hid (fun u hu => (h.keep hu).blk.cell 3)
 have HCl : Hid (∀ u : World, Calls Tryz.prog 49 #[.string s] u fun e w' => ∃ v, e = .returned v ∧ u.grownBy w' none ∧ v = Value.string s) := fun u => (clone_any s u (by omega)).mono fun e w' ⟨h1, h2⟩ => ⟨_, h1, h2, rfl⟩
 have HMp : Hid (∀ u, w.grownBy u none → ∃ o, (Instr.mapUpdate 80 (.map (some m)) (.string s) (.slice va vn vc)).run Tryz.prog u = .ok () (World.put u m o) ∧ MapAt (World.put u m o) m (setF F s (.slice va vn vc) bs)) := hid (fun u hu => run_update (h.keep hu).map s (.slice va vn vc) bs)
 have HFin : Hid (∀ u u' : World, w.grownBy u none → u.grownBy u' (some m) → MapAt u' m (setF F s (.slice va vn vc) bs) → Ending.returned (.tuple #[]) = Ending.returned (.tuple #[]) ∧ Dk u' B b m lk room off wr ar kp (setF F s (.slice va vn vc) bs) ∧ w.grownBy u' (some m)) := hid (fun u u' h1 h2 h3 => by
  have hk := h.keep h1
  have hmo : ∀ {x : Value} {l : List UInt8}, Out B u x l → Out B u' x l := fun ho => ho.on h2 (fun k e e2 => by injection e with e; subst e; exact hk.map.own ho e2)
  refine ⟨rfl, ⟨hk.blk.on h2 (fun e => by injection e with e; exact hk.map.ne hk.blk e), h3, fun f hf => ?_, ap_setF h.apart hne h.map.nodup, h.low⟩, (gsome h1 _).andThen h2 (fun j hj => .inr hj)⟩
  rcases mem_setF h.map.nodup hf with rfl | ⟨hf, hfn⟩
  ·exact hmo (hv.keep h1)
  ·exact hmo (hk.own f hf hfn))
 clear h hs hv hne
 go_enter Tryz.func110, Tryz.ntmps110
 go_upto_region 0 with fail
 refine wp_region_listX (by kernel_rfl) [fun v _ => v = (Value.pointer (some ⟨b, 0, none⟩)), fun v _ => v = (Value.pointer (some ⟨b, 0, none⟩)), fun v _ => v = (Value.pointer (some ⟨b, 3, none⟩)), fun v _ => v = (Value.map (some m)), fun v _ => v = (Value.string s), fun v _ => v = Value.string s, fun v _ => v = (Value.slice va vn vc)] (none) (fun _ => none) 7 (by kernel_rfl) (by kernel_rfl) (by kernel_rfl) (by kernel_rfl) (by decide) noRow_one (fun _ => .inl rfl) ⟨fun i v u u' hki h hg => h, fun i v u u' hki h hg => h, fun i v u u' hki h hg => h, fun i v u u' hki h hg => h, fun i v u u' hki h hg => h, fun i v u u' hki h hg => h, fun i v u u' hki h hg => h, trivial⟩ ⟨?_, ?_, ?_, ?_, ?_, ?_, ?_, trivial⟩ ?_
 ·intro A u hu hpu hsz hout hdeps
  have e0 : A.eval (.tmp 0) = (.pointer (some ⟨b, 0, none⟩)) := (hout 0 (by kernel_rfl)).trans rfl
  refine ifw_none rfl ?_
  with_reducible refine shown_q (Value.pointer (some ⟨b, 0, none⟩)) ?qq_3p1_0 (fun _ _ => ?qr_3p1_0)
  case qr_3p1_0 => exact (rfl : (Value.pointer (some ⟨b, 0, none⟩)) = (Value.pointer (some ⟨b, 0, none⟩)))
  with_reducible refine quietAt_mv (.tmp 0) (Value.pointer (some ⟨b, 0, none⟩)) ?h0_3p1_0 ?h1_3p1_0
  case h0_3p1_0 => rfl
  case h1_3p1_0 => exact e0
 ·intro A u hu hpu hsz hout hdeps
  have e6 : A.eval (.tmp 6) = (.pointer (some ⟨b, 0, none⟩)) := by have h := depL hdeps 0 (by kernel_rfl) 6 (by kernel_rfl); exact h
  refine ifw_none rfl ?_
  with_reducible refine shown_q (Value.pointer (some ⟨b, 0, none⟩)) ?qq_3p1_1 (fun _ _ => ?qr_3p1_1)
  case qr_3p1_1 => exact (rfl : (Value.pointer (some ⟨b, 0, none⟩)) = (Value.pointer (some ⟨b, 0, none⟩)))
  with_reducible refine quietAt_nil (.tmp 6) ?h0_3p1_1 ⟨b, 0, none⟩ ?h1_3p1_1
  case h0_3p1_1 => rfl
  case h1_3p1_1 => exact e6
 ·intro A u hu hpu hsz hout hdeps
  have e7 : A.eval (.tmp 7) = (.pointer (some ⟨b, 0, none⟩)) := by have h := depL hdeps 1 (by kernel_rfl) 7 (by kernel_rfl); exact h
  refine ifw_none rfl ?_
  with_reducible refine shown_q (Value.pointer (some ⟨b, 3, none⟩)) ?qq_3p1_2 (fun _ _ => ?qr_3p1_2)
  case qr_3p1_2 => exact (rfl : (Value.pointer (some ⟨b, 3, none⟩)) = (Value.pointer (some ⟨b, 3, none⟩)))
  with_reducible refine quietAt_field 89 (.tmp 7) 2 ?h0_3p1_2 ⟨b, 0, none⟩ ⟨b, 3, none⟩ ?h1_3p1_2 ?h2_3p1_2
  case h0_3p1_2 => rfl
  case h1_3p1_2 => exact e7
  case h2_3p1_2 => kernel_rfl
 ·intro A u hu hpu hsz hout hdeps
  have e8 : A.eval (.tmp 8) = (.pointer (some ⟨b, 3, none⟩)) := by have h := depL hdeps 2 (by kernel_rfl) 8 (by kernel_rfl); exact h
  refine ifw_none rfl ?_
  with_reducible refine shown_q (Value.map (some m)) ?qq_3p1_3 (fun _ _ => ?qr_3p1_3)
  case qr_3p1_3 => exact (rfl : (Value.map (some m)) = (Value.map (some m)))
  with_reducible refine quietAt_ld 80 (.tmp 8) (Value.pointer (some ⟨b, 3, none⟩)) (Value.map (some m)) ?h0_3p1_3 ?h1_3p1_3 ?h2_3p1_3
  case h0_3p1_3 => rfl
  case h1_3p1_3 => exact e8
  case h2_3p1_3 => exact ld64 b 3 m u (HY3.out u hu)
 ·intro A u hu hpu hsz hout hdeps
  have e1 : A.eval (.tmp 1) = (.string s) := (hout 1 (by kernel_rfl)).trans rfl
  refine ifw_none rfl ?_
  with_reducible refine shown_q (Value.string s) ?qq_3p1_4 (fun _ _ => ?qr_3p1_4)
  case qr_3p1_4 => exact (rfl : (Value.string s) = (Value.string s))
  with_reducible refine quietAt_mv (.tmp 1) (Value.string s) ?h0_3p1_4 ?h1_3p1_4
  case h0_3p1_4 => rfl
  case h1_3p1_4 => exact e1
 ·intro A u hu hpu hsz hout hdeps
  have e10 : A.eval (.tmp 10) = (.string s) := by have h := depL hdeps 4 (by kernel_rfl) 10 (by kernel_rfl); exact h
  refine ifw_none rfl ?_
  with_reducible refine shown_call 49 Tryz.f49 ?h0_3p1_5 ?h1_3p1_5 ?h2_3p1_5 #[.tmp 10] #[9] ?h3_3p1_5 #[(Value.string s)] ?h4_3p1_5 ?h5_3p1_5
  case h0_3p1_5 => exact Tryz.func49
  case h1_3p1_5 => kernel_rfl
  case h2_3p1_5 => kernel_rfl
  case h3_3p1_5 => rfl
  case h4_3p1_5 => exact map1 _ _ _ e10
  case h5_3p1_5 => exact HCl.out u
 ·intro A u hu hpu hsz hout hdeps
  have e2 : A.eval (.tmp 2) = (.slice va vn vc) := (hout 2 (by kernel_rfl)).trans rfl
  refine ifw_none rfl ?_
  with_reducible refine shown_q (Value.slice va vn vc) ?qq_3p1_6 (fun _ _ => ?qr_3p1_6)
  case qr_3p1_6 => exact (rfl : (Value.slice va vn vc) = (Value.slice va vn vc))
  with_reducible refine quietAt_mv (.tmp 2) (Value.slice va vn vc) ?h0_3p1_6 ?h1_3p1_6
  case h0_3p1_6 => rfl
  case h1_3p1_6 => exact e2
 ·intro A u8 listed hh hall
  have hA := hh.frame
  have HU := hid hh.grown
  obtain ⟨x6, hx6⟩ : ∃ x, A.eval (.tmp 6) = x := ⟨_, rfl⟩
  have f6 : (fun v _ => v = (Value.pointer (some ⟨b, 0, none⟩))) x6 u8 := by rw [← hx6]; exact hh.got 0 _ 6 rfl rfl (hall 0 (by decide))
  obtain ⟨x7, hx7⟩ : ∃ x, A.eval (.tmp 7) = x := ⟨_, rfl⟩
  have f7 : (fun v _ => v = (Value.pointer (some ⟨b, 0, none⟩))) x7 u8 := by rw [← hx7]; exact hh.got 1 _ 7 rfl rfl (hall 1 (by decide))
  obtain ⟨x8, hx8⟩ : ∃ x, A.eval (.tmp 8) = x := ⟨_, rfl⟩
  have f8 : (fun v _ => v = (Value.pointer (some ⟨b, 3, none⟩))) x8 u8 := by rw [← hx8]; exact hh.got 2 _ 8 rfl rfl (hall 2 (by decide))
  obtain ⟨x9, hx9⟩ : ∃ x, A.eval (.tmp 9) = x := ⟨_, rfl⟩
  have f9 : (fun v _ => v = (Value.map (some m))) x9 u8 := by rw [← hx9]; exact hh.got 3 _ 9 rfl rfl (hall 3 (by decide))
  obtain ⟨x10, hx10⟩ : ∃ x, A.eval (.tmp 10) = x := ⟨_, rfl⟩
  have f10 : (fun v _ => v = (Value.string s)) x10 u8 := by rw [← hx10]; exact hh.got 4 _ 10 rfl rfl (hall 4 (by decide))
  obtain ⟨x11, hx11⟩ : ∃ x, A.eval (.tmp 11) = x := ⟨_, rfl⟩
  have f11 : (fun v _ => v = Value.string s) x11 u8 := by rw [← hx11]; exact hh.got 5 _ 11 rfl rfl (hall 5 (by decide))
  obtain ⟨x12, hx12⟩ : ∃ x, A.eval (.tmp 12) = x := ⟨_, rfl⟩
  have f12 : (fun v _ => v = (Value.slice va vn vc)) x12 u8 := by rw [← hx12]; exact hh.got 6 _ 12 rfl rfl (hall 6 (by decide))
  dsimp only [wrote, List.foldl] at hA
  rw [hx6, hx7, hx8, hx9, hx10, hx11, hx12] at hA
  clear hh hall hx6 hx7 hx8 hx9 hx10 hx11 hx12
  replace f6 := (f6 : x6 = (.pointer (some ⟨b, 0, none⟩)))
  subst f6
  replace f7 := (f7 : x7 = (.pointer (some ⟨b, 0, none⟩)))
  subst f7
  replace f8 := (f8 : x8 = (.pointer (some ⟨b, 3, none⟩)))
  subst f8
  replace f9 := (f9 : x9 = (.map (some m)))
  subst f9
  replace f10 := (f10 : x10 = (.string s))
  subst f10
  have e11 := (f11 : _ = Value.string s)
  subst e11
  replace f12 := (f12 : x12 = (.slice va vn vc))
  subst f12
  subst hA
  show wpList _ _ _ [_] _ _
  simp only [Act.put, List.setIfInBounds_toArray, List.set_cons_succ, List.set_cons_zero]
  obtain ⟨o, hrun, hM⟩ := HMp.out u8 HU.out
  obtain ⟨w9, hw9⟩ : ∃ x, World.put u8 m o = x := ⟨_, rfl⟩
  rw [hw9] at hrun hM
  have HM := hid hM
  have HG9 : Hid (u8.grownBy w9 (some m)) := hid (by rw [← hw9]; exact put_grown _ _ _)
  clear hM hw9
  go_wp2_with fail
  go_end0
  exact ⟨rfl, (HFin.out u8 w9 HU.out HG9.out HM.out).2⟩
end Go.Proofs.YtpbiofnncdneoaaGreatDoor

namespace Go.Proofs.YtpbiofnncdneoaaGreatDoor
open Go.Proofs
abbrev muLink : Go.Conc.Locks.MuLink := { lock := 52, unlock := 53, ilock := 111, iunlock := 112, lockSlow := 157, unlockSlow := 160, disable := 153, enable := 155, acquire := 156, relMerge := 158, cas32 := 154, add32 := 159, tMutex := 87, tIMutex := 85, tPMutex := 157, tPIMutex := 255, tPI32 := 257, tUP := 259, tNoCopy := 82, tU32 := 83 }
theorem muLib : Go.Conc.Locks.MuLib Tryz.prog muLink :=
 ⟨Tryz.func52, Tryz.func53, Tryz.func111, Tryz.func112, Tryz.func153, Tryz.func155, Tryz.func156, Tryz.func158, Tryz.func154, Tryz.func159, Tryz.underlying85, Tryz.runUnderlying85, Tryz.sizeOf85, Tryz.isAgg85, Tryz.zeroValue85, Tryz.underlying87, Tryz.runUnderlying87, Tryz.sizeOf87, Tryz.isAgg87, Tryz.zeroValue87, Tryz.underlying157, Tryz.runUnderlying157, Tryz.sizeOf157, Tryz.isAgg157, Tryz.zeroValue157, Tryz.underlying255, Tryz.runUnderlying255, Tryz.sizeOf255, Tryz.isAgg255, Tryz.zeroValue255, Tryz.underlying257, Tryz.runUnderlying257, Tryz.sizeOf257, Tryz.isAgg257, Tryz.zeroValue257, Tryz.underlying259, Tryz.runUnderlying259, Tryz.sizeOf259, Tryz.isAgg259, Tryz.zeroValue259, Tryz.underlying82, Tryz.runUnderlying82, Tryz.sizeOf82, Tryz.isAgg82, Tryz.zeroValue82, Tryz.underlying21, Tryz.runUnderlying21, Tryz.sizeOf21, Tryz.isAgg21, Tryz.zeroValue21, (by kernel_rfl)⟩
end Go.Proofs.YtpbiofnncdneoaaGreatDoor
