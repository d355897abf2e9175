/- EqFile, EqFiles of like files; others. -/
import Derived.Test.YtpbiofnncdneoaaGreatDoorX07
import Derived.Lib.SmallJoins
namespace Go.Proofs.YtpbiofnncdneoaaGreatDoor
open Go Go.RowKit Go.MapKept Go.MuLone
open Go.RowKit (wrap32 wrap64)

theorem idx34 (b o n c i : Nat) (h : i < n) (u : World) : (Instr.indexAt 110 (.slice (some ⟨b, o, none⟩) n c) (.int .i64 (i : Nat))).run Tryz.prog u = .ok (.pointer (some ⟨b, o + i * 2, none⟩)) u := by
 have h' : (i : Int) < (n : Int) := by omega
 go_simp
theorem gdrewN (w : World) (k : Nat) (row : Option Nat) : w.grownBy (w.drewN k) row := ⟨rfl, rfl, rfl, Nat.le_refl _, fun _ _ _ => rfl⟩
theorem two_range {w : World} {b o : Nat} {x y : Value} (h1 : w.cell? ⟨b, o, none⟩ = some x) (h2 : w.cell? ⟨b, o + 1, none⟩ = some y) : w.rangeAt b o [x, y] := fun j v hv => by
 rcases (show j = 0 ∨ j = 1 ∨ 2 ≤ j by omega) with rfl | rfl | h3
 ·have := Option.some.inj hv; subst this; exact h1
 ·have := Option.some.inj hv; subst this; exact h2
 ·have : ([x, y] : List Value)[j]? = none := by simp; omega
  rw [this] at hv; cases hv
set_option maxRecDepth 100000 in
set_option maxHeartbeats 4000000 in
theorem eqFile_same (w : World) (s : ByteArray) (ba ca : Option Addr) (bn bc cc : Nat) (F G : Nat → Prop) (l : List UInt8) (hx : Rd w F (.slice ba bn bc) l) (hy : Rd w G (.slice ca bn cc) l) (hl : l.length ≤ 140737488355328) :
  Calls Tryz.prog 62 #[.agg [Value.string s, .slice ba bn bc].toArray, .agg [Value.string s, .slice ca bn cc].toArray] w fun e w' => e = .returned (.bool true) ∧ w.grownBy w' none := by
 have HE : Hid (∀ u, w.grownBy u none → Calls Tryz.prog 121 #[.slice ba bn bc, .slice ca bn cc] u fun e w' => e = .returned (.bool true) ∧ u.grownBy w' none) := hid (fun u hu => (eq_any u _ _ F G l l (hx.keep hu) (hy.keep hu) hl).mono fun e w' ⟨h1, k, h2⟩ => ⟨by rw [h1]; simp, by rw [h2]; exact gdrewN _ _ _⟩)
 have hss : (s.toList == s.toList) = true := by simp
 clear hx hy
 go_enter Tryz.func62, Tryz.ntmps62
 go_wp2_with (first
  | ((with_reducible refine wpList_box_row (by with_unfolding_all rfl) 117 _ (by with_unfolding_all rfl) [Value.string s, .slice ba bn bc] (by with_unfolding_all rfl) ?_); intro w1 B1 s1 g1; have HB1 := hid B1; have HG1 := hid g1; clear B1 s1 g1)
  | ((with_reducible refine wpList_box_row (by with_unfolding_all rfl) 117 _ (by with_unfolding_all rfl) [Value.string s, .slice ca bn cc] (by with_unfolding_all rfl) ?_); intro w2 B2 s2 g2; have HB2 := hid B2; have HG2 := hid g2; have c1 := (HB1.out.keep g2).cell 0; have c2 := (HB1.out.keep g2).cell 1; have c3 := B2.cell 0; have c4 := B2.cell 1; clear B2 s2 g2)
  | (go_at_call 121; refine (HE.out _ (gtrans HG1.out HG2.out)).mono ?_; rintro e w3 ⟨rfl, hg⟩; have HG3 := hid hg; clear hg))
 go_ret
 exact ⟨rfl, gtrans HG1.out (gtrans HG2.out HG3.out)⟩
set_option maxRecDepth 100000 in
set_option maxHeartbeats 4000000 in
theorem eqFiles_same (w : World) (Fa Fb : Nat → Prop) (a a' : Option Addr) (fa fo fc fb go gc : Nat) (L : Cn) (hA : ArF w Fa a fa fo L) (hB : ArF w Fb a' fb go L) (hL : L.length ≤ 1000000) (hb : ∀ p ∈ L, p.2.length ≤ 140737488355328) :
  Calls Tryz.prog 32 #[.slice a L.length fc, .slice a' L.length gc] w fun e w' => e = .returned (.bool true) ∧ w.grownBy w' none := by
 have HAa : Hid (∀ u, w.grownBy u none → ArF u Fa a fa fo L) := hid (fun u hu => hA.keep hu)
 have HAb : Hid (∀ u, w.grownBy u none → ArF u Fb a' fb go L) := hid (fun u hu => hB.keep hu)
 have HBl := hid hb
 obtain ⟨n, HN⟩ : ∃ n, Hid (L.length = n) := ⟨_, hid rfl⟩
 rw [HN.out] at hL ⊢
 clear hA hB hb
 go_enter Tryz.func32, Tryz.ntmps32
 go_wp2_with fail
 go_loopw [5] (fun iv wr => ∃ i : Nat, iv = .int .i64 i ∧ i ≤ n ∧ Hid (w.grownBy wr none)) (fun iv _ => n - (intOf iv).toNat)
 case atStart => exact ⟨0, rfl, by omega, hid (grefl _ _)⟩
 case round =>
  obtain ⟨i, rfl, hi, HG⟩ := hrel
  obtain ⟨w0, hw0⟩ : ∃ x : World, x = wr := ⟨_, rfl⟩
  rw [← hw0] at HG ⊢
  clear hw0
  by_cases hlt : i < n
  ·as_aux_lemma =>
   have hlt' : (i : Int) < (n : Int) := by omega
   have hiL : i < L.length := by rw [HN.out]; exact hlt
   obtain ⟨rfl, -⟩ := (HAa.out w0 HG.out).at_ (by omega)
   obtain ⟨rfl, -⟩ := (HAb.out w0 HG.out).at_ (by omega)
   obtain ⟨q, Hq⟩ : ∃ x, Hid (L[i] = x) := ⟨_, hid rfl⟩
   obtain ⟨s, l⟩ := q
   have HC : Hid (w0.cell? ⟨fa, fo + i * 2, none⟩ = some (.string s) ∧ ∃ v, w0.cell? ⟨fa, fo + i * 2 + 1, none⟩ = some v ∧ Rd w0 Fa v l) := hid (by have := (HAa.out w0 HG.out).each i hiL; rw [Hq.out] at this; exact this)
   obtain ⟨v, hv1, hv2⟩ := HC.out.2
   have HV := hid hv2
   obtain ⟨ba, -, -, bc, rfl, -⟩ := hv2
   obtain ⟨bn, HBn⟩ : ∃ x, Hid (l.length = x) := ⟨_, hid rfl⟩
   rw [HBn.out] at HV hv1
   have HD : Hid (w0.cell? ⟨fb, go + i * 2, none⟩ = some (.string s) ∧ ∃ v, w0.cell? ⟨fb, go + i * 2 + 1, none⟩ = some v ∧ Rd w0 Fb v l) := hid (by have := (HAb.out w0 HG.out).each i hiL; rw [Hq.out] at this; exact this)
   obtain ⟨v', hu1, hu2⟩ := HD.out.2
   have HV' := hid hu2
   obtain ⟨ca, -, -, cc, rfl, -⟩ := hu2
   rw [HBn.out] at HV' hu1
   have HLl : Hid (l.length ≤ 140737488355328) := hid (HBl.out (s, l) (by rw [← Hq.out]; exact List.getElem_mem _))
   have HRA : Hid (∀ u, w0.grownBy u none → u.rangeAt fa (fo + i * 2) [.string s, .slice ba bn bc]) := hid (fun u hu => by
    have hb := ((HAa.out w0 HG.out).at_ (by omega)).2.1
    exact two_range ((cell_at hu hb (by simp)).trans HC.out.1) ((cell_at hu hb (by simp)).trans hv1))
   have HRB : Hid (∀ u, w0.grownBy u none → u.rangeAt fb (go + i * 2) [.string s, .slice ca bn cc]) := hid (fun u hu => by
    have hb := ((HAb.out w0 HG.out).at_ (by omega)).2.1
    exact two_range ((cell_at hu hb (by simp)).trans HD.out.1) ((cell_at hu hb (by simp)).trans hu1))
   have HEq : Hid (∀ u, w0.grownBy u none → Calls Tryz.prog 62 #[.agg [Value.string s, .slice ba bn bc].toArray, .agg [Value.string s, .slice ca bn cc].toArray] u fun e w' => ∃ v, e = .returned v ∧ u.grownBy w' none ∧ v = Value.bool true) := hid (fun u hu => (eqFile_same u s ba ca bn bc cc Fa Fb l (HV.out.keep hu) (HV'.out.keep hu) HLl.out).mono fun e w' ⟨h1, h2⟩ => ⟨_, h1, h2, rfl⟩)
   clear hv1 hu1 HC HD Hq
   go_upto_region 6 with fail
   refine wp_region_listX (by kernel_rfl) [fun v _ => v = (Value.slice (some ⟨fa, fo, none⟩) n fc), fun v _ => v = (Value.int .i64 (i : Nat)), fun v _ => v = (Value.pointer (some ⟨fa, fo + i * 2, none⟩)), fun v _ => v = (Value.agg [Value.string s, Value.slice ba bn bc].toArray), fun v _ => v = (Value.slice (some ⟨fb, go, none⟩) n gc), fun v _ => v = (Value.int .i64 (i : Nat)), fun v _ => v = (Value.pointer (some ⟨fb, go + i * 2, none⟩)), fun v _ => v = (Value.agg [Value.string s, Value.slice ca bn cc].toArray), fun v _ => v = Value.bool true, fun v _ => v = (Value.bool false)] (none) (fun _ => none) 10 (by kernel_rfl) (by kernel_rfl) (by kernel_rfl) (by kernel_rfl) (by decide) noRow_one (fun _ => .inl rfl) ⟨fun i v u u' hki h hg => h, fun i v u u' hki h hg => h, fun i v u u' hki h hg => h, fun i v u u' hki h hg => h, fun i v u u' hki h hg => h, fun i v u u' hki h hg => h, fun i v u u' hki h hg => h, fun i v u u' hki h hg => h, fun i v u u' hki h hg => h, fun i v u u' hki h hg => h, trivial⟩ ⟨?_, ?_, ?_, ?_, ?_, ?_, ?_, ?_, ?_, ?_, trivial⟩ ?_
   ·intro A u hu hpu hsz hout hdeps
    have e0 : A.eval (.tmp 0) = (.slice (some ⟨fa, fo, none⟩) n fc) := (hout 0 (by kernel_rfl)).trans rfl
    refine ifw_none rfl ?_
    with_reducible refine shown_q (Value.slice (some ⟨fa, fo, none⟩) n fc) ?qq_1_0 (fun _ _ => ?qr_1_0)
    case qr_1_0 => exact (rfl : (Value.slice (some ⟨fa, fo, none⟩) n fc) = (Value.slice (some ⟨fa, fo, none⟩) n fc))
    with_reducible refine quietAt_mv (.tmp 0) (Value.slice (some ⟨fa, fo, none⟩) n fc) ?h0_1_0 ?h1_1_0
    case h0_1_0 => rfl
    case h1_1_0 => exact e0
   ·intro A u hu hpu hsz hout hdeps
    have e5 : A.eval (.tmp 5) = (.int .i64 (i : Nat)) := (hout 5 (by kernel_rfl)).trans rfl
    refine ifw_none rfl ?_
    with_reducible refine shown_q (Value.int .i64 (i : Nat)) ?qq_1_1 (fun _ _ => ?qr_1_1)
    case qr_1_1 => exact (rfl : (Value.int .i64 (i : Nat)) = (Value.int .i64 (i : Nat)))
    with_reducible refine quietAt_mv (.tmp 5) (Value.int .i64 (i : Nat)) ?h0_1_1 ?h1_1_1
    case h0_1_1 => rfl
    case h1_1_1 => exact e5
   ·intro A u hu hpu hsz hout hdeps
    have e17 : A.eval (.tmp 17) = (.slice (some ⟨fa, fo, none⟩) n fc) := by have h := depL hdeps 0 (by kernel_rfl) 17 (by kernel_rfl); exact h
    have e18 : A.eval (.tmp 18) = (.int .i64 (i : Nat)) := by have h := depL hdeps 1 (by kernel_rfl) 18 (by kernel_rfl); exact h
    refine ifw_none rfl ?_
    with_reducible refine shown_q (Value.pointer (some ⟨fa, fo + i * 2, none⟩)) ?qq_1_2 (fun _ _ => ?qr_1_2)
    case qr_1_2 => exact (rfl : (Value.pointer (some ⟨fa, fo + i * 2, none⟩)) = (Value.pointer (some ⟨fa, fo + i * 2, none⟩)))
    with_reducible refine quietAt_idx 110 (.tmp 17) (.tmp 18) (Value.slice (some ⟨fa, fo, none⟩) n fc) (Value.int .i64 (i : Nat)) (Value.pointer (some ⟨fa, fo + i * 2, none⟩)) ?h0_1_2 ?h1_1_2 ?h2_1_2 ?h3_1_2
    case h0_1_2 => rfl
    case h1_1_2 => exact e17
    case h2_1_2 => exact e18
    case h3_1_2 => exact idx34 fa fo n fc i hlt u
   ·intro A u hu hpu hsz hout hdeps
    have e19 : A.eval (.tmp 19) = (.pointer (some ⟨fa, fo + i * 2, none⟩)) := by have h := depL hdeps 2 (by kernel_rfl) 19 (by kernel_rfl); exact h
    refine ifw_none rfl ?_
    with_reducible refine shown_q (Value.agg [Value.string s, Value.slice ba bn bc].toArray) ?qq_1_3 (fun _ _ => ?qr_1_3)
    case qr_1_3 => exact (rfl : (Value.agg [Value.string s, Value.slice ba bn bc].toArray) = (Value.agg [Value.string s, Value.slice ba bn bc].toArray))
    with_reducible refine quietAt_load 117 (.tmp 19) ?h0_1_3 fa (fo + i * 2) [Value.string s, Value.slice ba bn bc] (.struct (Tryz.prog.fieldsOf 117)) ?h1_1_3 ?h2_1_3 ?h3_1_3 ?h4_1_3 ?h5_1_3
    case h0_1_3 => rfl
    case h1_1_3 => exact e19
    case h2_1_3 => exact (HRA.out u hu)
    case h3_1_3 => exact Tryz.underlying117
    case h4_1_3 => rfl
    case h5_1_3 => exact Tryz.size117
   ·intro A u hu hpu hsz hout hdeps
    have e1 : A.eval (.tmp 1) = (.slice (some ⟨fb, go, none⟩) n gc) := (hout 1 (by kernel_rfl)).trans rfl
    refine ifw_none rfl ?_
    with_reducible refine shown_q (Value.slice (some ⟨fb, go, none⟩) n gc) ?qq_1_4 (fun _ _ => ?qr_1_4)
    case qr_1_4 => exact (rfl : (Value.slice (some ⟨fb, go, none⟩) n gc) = (Value.slice (some ⟨fb, go, none⟩) n gc))
    with_reducible refine quietAt_mv (.tmp 1) (Value.slice (some ⟨fb, go, none⟩) n gc) ?h0_1_4 ?h1_1_4
    case h0_1_4 => rfl
    case h1_1_4 => exact e1
   ·intro A u hu hpu hsz hout hdeps
    have e5 : A.eval (.tmp 5) = (.int .i64 (i : Nat)) := (hout 5 (by kernel_rfl)).trans rfl
    refine ifw_none rfl ?_
    with_reducible refine shown_q (Value.int .i64 (i : Nat)) ?qq_1_5 (fun _ _ => ?qr_1_5)
    case qr_1_5 => exact (rfl : (Value.int .i64 (i : Nat)) = (Value.int .i64 (i : Nat)))
    with_reducible refine quietAt_mv (.tmp 5) (Value.int .i64 (i : Nat)) ?h0_1_5 ?h1_1_5
    case h0_1_5 => rfl
    case h1_1_5 => exact e5
   ·intro A u hu hpu hsz hout hdeps
    have e21 : A.eval (.tmp 21) = (.slice (some ⟨fb, go, none⟩) n gc) := by have h := depL hdeps 4 (by kernel_rfl) 21 (by kernel_rfl); exact h
    have e22 : A.eval (.tmp 22) = (.int .i64 (i : Nat)) := by have h := depL hdeps 5 (by kernel_rfl) 22 (by kernel_rfl); exact h
    refine ifw_none rfl ?_
    with_reducible refine shown_q (Value.pointer (some ⟨fb, go + i * 2, none⟩)) ?qq_1_6 (fun _ _ => ?qr_1_6)
    case qr_1_6 => exact (rfl : (Value.pointer (some ⟨fb, go + i * 2, none⟩)) = (Value.pointer (some ⟨fb, go + i * 2, none⟩)))
    with_reducible refine quietAt_idx 110 (.tmp 21) (.tmp 22) (Value.slice (some ⟨fb, go, none⟩) n gc) (Value.int .i64 (i : Nat)) (Value.pointer (some ⟨fb, go + i * 2, none⟩)) ?h0_1_6 ?h1_1_6 ?h2_1_6 ?h3_1_6
    case h0_1_6 => rfl
    case h1_1_6 => exact e21
    case h2_1_6 => exact e22
    case h3_1_6 => exact idx34 fb go n gc i hlt u
   ·intro A u hu hpu hsz hout hdeps
    have e23 : A.eval (.tmp 23) = (.pointer (some ⟨fb, go + i * 2, none⟩)) := by have h := depL hdeps 6 (by kernel_rfl) 23 (by kernel_rfl); exact h
    refine ifw_none rfl ?_
    with_reducible refine shown_q (Value.agg [Value.string s, Value.slice ca bn cc].toArray) ?qq_1_7 (fun _ _ => ?qr_1_7)
    case qr_1_7 => exact (rfl : (Value.agg [Value.string s, Value.slice ca bn cc].toArray) = (Value.agg [Value.string s, Value.slice ca bn cc].toArray))
    with_reducible refine quietAt_load 117 (.tmp 23) ?h0_1_7 fb (go + i * 2) [Value.string s, Value.slice ca bn cc] (.struct (Tryz.prog.fieldsOf 117)) ?h1_1_7 ?h2_1_7 ?h3_1_7 ?h4_1_7 ?h5_1_7
    case h0_1_7 => rfl
    case h1_1_7 => exact e23
    case h2_1_7 => exact (HRB.out u hu)
    case h3_1_7 => exact Tryz.underlying117
    case h4_1_7 => rfl
    case h5_1_7 => exact Tryz.size117
   ·intro A u hu hpu hsz hout hdeps
    have e20 : A.eval (.tmp 20) = (.agg [Value.string s, .slice ba bn bc].toArray) := by have h := depL hdeps 3 (by kernel_rfl) 20 (by kernel_rfl); exact h
    have e24 : A.eval (.tmp 24) = (.agg [Value.string s, .slice ca bn cc].toArray) := by have h := depL hdeps 7 (by kernel_rfl) 24 (by kernel_rfl); exact h
    refine ifw_none rfl ?_
    with_reducible refine shown_call 62 Tryz.f62 ?h0_1_8 ?h1_1_8 ?h2_1_8 #[.tmp 20, .tmp 24] #[117, 117] ?h3_1_8 #[(Value.agg [Value.string s, Value.slice ba bn bc].toArray), (Value.agg [Value.string s, Value.slice ca bn cc].toArray)] ?h4_1_8 ?h5_1_8
    case h0_1_8 => exact Tryz.func62
    case h1_1_8 => kernel_rfl
    case h2_1_8 => kernel_rfl
    case h3_1_8 => rfl
    case h4_1_8 => exact map2 _ _ _ _ _ e20 e24
    case h5_1_8 => exact HEq.out u hu
   ·intro A u hu hpu hsz hout hdeps
    have f25 : (fun v _ => v = Value.bool true) (A.eval (.tmp 25)) u := by have h := depL hdeps 8 (by kernel_rfl) 25 (by kernel_rfl); exact h
    have e25 := (f25 : _ = Value.bool true)
    refine ifw_none rfl ?_
    with_reducible refine shown_q (Value.bool false) ?qq_1_9 (fun _ _ => ?qr_1_9)
    case qr_1_9 => exact (rfl : (Value.bool false) = (Value.bool false))
    with_reducible refine quietAt_un .not 4 (.tmp 25) (Value.bool true) (Value.bool false) ?h0_1_9 ?h1_1_9 ?h2_1_9
    case h0_1_9 => rfl
    case h1_1_9 => exact e25
    case h2_1_9 => rfl
   ·intro A u8 listed hh hall
    have hA := hh.frame
    have HU := hid hh.grown
    obtain ⟨x17, hx17⟩ : ∃ x, A.eval (.tmp 17) = x := ⟨_, rfl⟩
    have f17 : (fun v _ => v = (Value.slice (some ⟨fa, fo, none⟩) n fc)) x17 u8 := by rw [← hx17]; exact hh.got 0 _ 17 rfl rfl (hall 0 (by decide))
    obtain ⟨x18, hx18⟩ : ∃ x, A.eval (.tmp 18) = x := ⟨_, rfl⟩
    have f18 : (fun v _ => v = (Value.int .i64 (i : Nat))) x18 u8 := by rw [← hx18]; exact hh.got 1 _ 18 rfl rfl (hall 1 (by decide))
    obtain ⟨x19, hx19⟩ : ∃ x, A.eval (.tmp 19) = x := ⟨_, rfl⟩
    have f19 : (fun v _ => v = (Value.pointer (some ⟨fa, fo + i * 2, none⟩))) x19 u8 := by rw [← hx19]; exact hh.got 2 _ 19 rfl rfl (hall 2 (by decide))
    obtain ⟨x20, hx20⟩ : ∃ x, A.eval (.tmp 20) = x := ⟨_, rfl⟩
    have f20 : (fun v _ => v = (Value.agg [Value.string s, Value.slice ba bn bc].toArray)) x20 u8 := by rw [← hx20]; exact hh.got 3 _ 20 rfl rfl (hall 3 (by decide))
    obtain ⟨x21, hx21⟩ : ∃ x, A.eval (.tmp 21) = x := ⟨_, rfl⟩
    have f21 : (fun v _ => v = (Value.slice (some ⟨fb, go, none⟩) n gc)) x21 u8 := by rw [← hx21]; exact hh.got 4 _ 21 rfl rfl (hall 4 (by decide))
    obtain ⟨x22, hx22⟩ : ∃ x, A.eval (.tmp 22) = x := ⟨_, rfl⟩
    have f22 : (fun v _ => v = (Value.int .i64 (i : Nat))) x22 u8 := by rw [← hx22]; exact hh.got 5 _ 22 rfl rfl (hall 5 (by decide))
    obtain ⟨x23, hx23⟩ : ∃ x, A.eval (.tmp 23) = x := ⟨_, rfl⟩
    have f23 : (fun v _ => v = (Value.pointer (some ⟨fb, go + i * 2, none⟩))) x23 u8 := by rw [← hx23]; exact hh.got 6 _ 23 rfl rfl (hall 6 (by decide))
    obtain ⟨x24, hx24⟩ : ∃ x, A.eval (.tmp 24) = x := ⟨_, rfl⟩
    have f24 : (fun v _ => v = (Value.agg [Value.string s, Value.slice ca bn cc].toArray)) x24 u8 := by rw [← hx24]; exact hh.got 7 _ 24 rfl rfl (hall 7 (by decide))
    obtain ⟨x25, hx25⟩ : ∃ x, A.eval (.tmp 25) = x := ⟨_, rfl⟩
    have f25 : (fun v _ => v = Value.bool true) x25 u8 := by rw [← hx25]; exact hh.got 8 _ 25 rfl rfl (hall 8 (by decide))
    obtain ⟨x26, hx26⟩ : ∃ x, A.eval (.tmp 26) = x := ⟨_, rfl⟩
    have f26 : (fun v _ => v = (Value.bool false)) x26 u8 := by rw [← hx26]; exact hh.got 9 _ 26 rfl rfl (hall 9 (by decide))
    dsimp only [wrote, List.foldl] at hA
    rw [hx17, hx18, hx19, hx20, hx21, hx22, hx23, hx24, hx25, hx26] at hA
    clear hh hall hx17 hx18 hx19 hx20 hx21 hx22 hx23 hx24 hx25 hx26
    replace f17 := (f17 : x17 = (.slice (some ⟨fa, fo, none⟩) n fc))
    subst f17
    replace f18 := (f18 : x18 = (.int .i64 (i : Nat)))
    subst f18
    replace f19 := (f19 : x19 = (.pointer (some ⟨fa, fo + i * 2, none⟩)))
    subst f19
    replace f20 := (f20 : x20 = (.agg [Value.string s, .slice ba bn bc].toArray))
    subst f20
    replace f21 := (f21 : x21 = (.slice (some ⟨fb, go, none⟩) n gc))
    subst f21
    replace f22 := (f22 : x22 = (.int .i64 (i : Nat)))
    subst f22
    replace f23 := (f23 : x23 = (.pointer (some ⟨fb, go + i * 2, none⟩)))
    subst f23
    replace f24 := (f24 : x24 = (.agg [Value.string s, .slice ca bn cc].toArray))
    subst f24
    have e25 := (f25 : _ = Value.bool true)
    subst e25
    replace f26 := (f26 : x26 = (.bool false))
    subst f26
    subst hA
    show wpList _ _ _ [] _ _
    unfold wpList
    simp only [Act.put, List.setIfInBounds_toArray, List.set_cons_succ, List.set_cons_zero]
    go_wp2_with fail
    go_roundw
    case rel => exact ⟨i + 1, by go_num, by omega, hid (gtrans HG.out HU.out)⟩
    case measure => simp [intOf]; omega
  ·as_aux_lemma =>
   have hge : ¬ (i : Int) < (n : Int) := by omega
   go_wp2_with fail
   go_ret
   exact ⟨rfl, HG.out⟩
end Go.Proofs.YtpbiofnncdneoaaGreatDoor

namespace Go.Proofs.YtpbiofnncdneoaaGreatDoor
open Go Go.RowKit Go.MapKept Go.MuLone
open Go.RowKit (wrap32 wrap64)

def NdC (C : Cn) : Prop := (C.map (·.1)).Nodup
theorem get_set : ∀ (C : Cn) (s : ByteArray) (l : List UInt8) (t : ByteArray), getC (setC C s l) t = if t = s then some l else getC C t
 | [], s, l, t => by
  unfold setC getC
  by_cases e : t = s
  ·rw [if_pos e, if_pos e.symm]
  ·rw [if_neg e, if_neg (fun q => e q.symm)]; rfl
 | p :: C, s, l, t => by
  unfold setC
  by_cases e : p.1 = s
  ·rw [if_pos e]
   unfold getC
   by_cases q : t = s
   ·rw [if_pos q, if_pos q.symm]
   ·rw [if_neg q, if_neg (fun z => q z.symm), if_neg (fun z => q (by rw [← z, e]))]
  ·rw [if_neg e]
   unfold getC
   rw [get_set C s l t]
   by_cases q : p.1 = t
   ·rw [if_pos q, if_pos q, if_neg (fun z => e (q.trans z))]
   ·rw [if_neg q, if_neg q]
theorem get_none : ∀ {C : Cn} {s : ByteArray}, s ∉ C.map (·.1) → getC C s = none
 | [], s, _ => rfl
 | p :: C, s, h => by
  simp only [List.map_cons, List.mem_cons, not_or] at h
  unfold getC
  rw [if_neg (fun e => h.1 e.symm)]
  exact get_none h.2
theorem get_del : ∀ (C : Cn) (s t : ByteArray), NdC C → getC (delC C s) t = if t = s then none else getC C t
 | [], s, t, _ => by unfold delC getC; split <;> rfl
 | p :: C, s, t, h => by
  have h' : p.1 ∉ C.map (·.1) ∧ (C.map (·.1)).Nodup := List.nodup_cons.1 h
  unfold delC
  by_cases e : p.1 = s
  ·rw [if_pos e]
   by_cases q : t = s
   ·rw [if_pos q, q, ← e]; exact get_none h'.1
   ·rw [if_neg q]
    conv => rhs; unfold getC
    rw [if_neg (fun z => q (by rw [← z, e]))]
  ·rw [if_neg e]
   unfold getC
   rw [get_del C s t h'.2]
   by_cases q : p.1 = t
   ·rw [if_pos q, if_pos q, if_neg (fun z => e (q.trans z))]
   ·rw [if_neg q, if_neg q]
theorem get_mem : ∀ {C : Cn} {p : ByteArray × List UInt8}, NdC C → p ∈ C → getC C p.1 = some p.2
 | [], p, _, h => by cases h
 | q :: C, p, hn, h => by
  have h' : q.1 ∉ C.map (·.1) ∧ (C.map (·.1)).Nodup := List.nodup_cons.1 hn
  unfold getC
  rcases List.mem_cons.1 h with rfl | h
  ·rw [if_pos rfl]
  ·rw [if_neg (fun e => h'.1 (by rw [e]; exact List.mem_map.2 ⟨p, h, rfl⟩))]
   exact get_mem h'.2 h
theorem mem_get : ∀ {C : Cn} {s : ByteArray} {l : List UInt8}, getC C s = some l → (s, l) ∈ C
 | [], s, l, h => by cases h
 | q :: C, s, l, h => by
  unfold getC at h
  by_cases e : q.1 = s
  ·rw [if_pos e] at h
   injection h with h
   rw [← e, ← h]
   exact List.mem_cons_self ..
  ·rw [if_neg e] at h
   exact List.mem_cons_of_mem _ (mem_get h)
theorem ba_back (s : ByteArray) : (⟨s.data.toList.toArray⟩ : ByteArray) = s := by cases s; rfl
theorem srt_names (C : Cn) : ((srtC C).map (·.1)).Perm (C.map (·.1)) := by
 have h1 : (srtC C).map (·.1) = (srtL (C.map (fun p => p.1.data.toList))).map (fun n => (⟨n.toArray⟩ : ByteArray)) := by
  unfold srtC
  rw [List.map_map]
  rfl
 rw [h1]
 have h2 : ((srtL (C.map (fun p => p.1.data.toList))).map (fun n => (⟨n.toArray⟩ : ByteArray))).Perm ((C.map (fun p => p.1.data.toList)).map (fun n => (⟨n.toArray⟩ : ByteArray))) := (List.mergeSort_perm _ leB).map _
 refine h2.trans (List.Perm.of_eq ?_)
 rw [List.map_map]
 refine List.map_congr_left fun p _ => ?_
 exact ba_back p.1
theorem srt_nd {C : Cn} (h : NdC C) : NdC (srtC C) := (srt_names C).nodup_iff.2 h
theorem srt_mem {C : Cn} {p : ByteArray × List UInt8} (hn : NdC C) (h : p ∈ srtC C) : getC C p.1 = some p.2 := by
 unfold srtC at h
 obtain ⟨n, h1, h2⟩ := List.mem_map.1 h
 have h3 : n ∈ C.map (fun p => p.1.data.toList) := (List.mergeSort_perm _ leB).mem_iff.1 h1
 obtain ⟨q, hq, he⟩ := List.mem_map.1 h3
 have h4 : (⟨n.toArray⟩ : ByteArray) = q.1 := by rw [← he]
 rw [← h2]
 show getC C ⟨n.toArray⟩ = some ((getC C ⟨n.toArray⟩).getD [])
 rw [h4, get_mem hn hq]
 rfl
theorem get_srt {C : Cn} (hn : NdC C) (s : ByteArray) : getC (srtC C) s = getC C s := by
 by_cases h : s ∈ C.map (·.1)
 ·obtain ⟨p, hp, rfl⟩ := List.mem_map.1 h
  have h1 : p.1 ∈ (srtC C).map (·.1) := (srt_names C).mem_iff.2 (List.mem_map.2 ⟨p, hp, rfl⟩)
  obtain ⟨q, hq, he⟩ := List.mem_map.1 h1
  have he' : q.1 = p.1 := he
  have h2 := srt_mem hn hq
  have h3 := get_mem (srt_nd hn) hq
  rw [he'] at h2 h3
  rw [h2, h3]
 ·rw [get_none h, get_none (fun q => h ((srt_names C).mem_iff.1 q))]
theorem srt_ext {C D : Cn} (h1 : (C.map (·.1)).Perm (D.map (·.1))) (h2 : ∀ s, getC C s = getC D s) : srtC C = srtC D := by
 have h3 : srtL (C.map (fun p => p.1.data.toList)) = srtL (D.map (fun p => p.1.data.toList)) := by
  refine mergeSort_of_perm ?_
  have := h1.map (fun s : ByteArray => s.data.toList)
  rw [List.map_map, List.map_map] at this
  exact this
 unfold srtC
 rw [h3]
 refine List.map_congr_left fun n _ => ?_
 rw [h2]
theorem del_names : ∀ (C : Cn) (s : ByteArray), (getC C s).isSome = true → (C.map (·.1)).Perm (s :: (delC C s).map (·.1))
 | [], s, h => by cases h
 | p :: C, s, h => by
  unfold delC
  unfold getC at h
  by_cases e : p.1 = s
  ·rw [if_pos e, List.map_cons, e]
  ·rw [if_neg e] at h ⊢
   rw [List.map_cons, List.map_cons]
   exact ((del_names C s h).cons p.1).trans (List.Perm.swap ..)
theorem set_new : ∀ (C : Cn) (s : ByteArray) (l : List UInt8), getC C s = none → setC C s l = C ++ [(s, l)]
 | [], s, l, _ => rfl
 | p :: C, s, l, h => by
  unfold getC at h
  by_cases e : p.1 = s
  ·rw [if_pos e] at h; cases h
  ·rw [if_neg e] at h
   unfold setC
   rw [if_neg e, set_new C s l h]
   rfl
variable {w w' : World} {B b : Nat} {A : Ab} {P : Nat → Prop}
theorem DkP.nd (h : DkP w B b A P) : NdC A.C := by
 obtain ⟨_, m, F, h2, h3, _⟩ := h
 have := h2.map.nodup
 unfold NdC
 rw [← h3]
 unfold cont
 rw [List.map_map]
 exact this
end Go.Proofs.YtpbiofnncdneoaaGreatDoor

namespace Go.Proofs.YtpbiofnncdneoaaGreatDoor
open Go Go.RowKit Go.MapKept Go.MuLone
open Go.RowKit (wrap32 wrap64)

theorem out_ne {B : Nat} {w : World} {v : Value} {l : List UInt8} {g : Nat} {cs : List Value} {t : TypeId} (h : Out B w v l) (hb : Blk w g cs t) (ht : t ≠ 5) : v.ownBlock ≠ some g := fun e => by
 rcases h.2 with ⟨h1, _⟩ | ⟨g', cap, cur, hv, hB, hgg, _⟩
 ·rw [h1] at e; cases e
 ·rw [hv] at e
  injection e with e
  have e' : g' = g := e
  subst e'
  unfold Blk at hb
  rw [hgg] at hb
  injection hb with hb
  injection hb with _ hb
  exact ht hb.symm
variable {w w' : World} {B b m : Nat} {lk room : Int} {off : Bool} {wr ar kp : Int} {F : List Fl}
/-- Over: a row of the caller's own is written over. -/
theorem Out.set {B : Nat} {w : World} {g n c : Nat} {l : List UInt8} (h : Out B w (.slice (some ⟨g, 0, none⟩) n c) l) (i : Nat) (x : UInt8) : Out B (w.setCell ⟨g, i, none⟩ (.int .u8 x.toNat)) (.slice (some ⟨g, 0, none⟩) n c) (l.set i x) := by
 rcases h.2 with ⟨e, _⟩ | ⟨g', cap, cur, e, hb, hg, hle, hm, hs, ht⟩
 ·cases e
 ·injection e with e1 e2 e3
  injection e1 with e1
  injection e1 with e1 _ _
  subst e1
  subst e3
  refine ⟨by rw [byteCells_length, Nat.mul_one], .inr ⟨g, c, cur.setIfInBounds i (.int .u8 x.toNat), by rw [List.length_set, e2], hb, ?_, by rw [List.length_set]; exact hle, hm, by simpa using hs, ?_⟩⟩
  ·exact Go.Joins.block_setCell hg _
  ·rw [Array.toList_setIfInBounds, List.length_set]
   rw [List.take_set, ht]
   unfold Lib.byteCells
   rw [List.map_set]
theorem gtr_own {w w1 w2 : World} {g : Option Nat} (h : w.grownBy w1 g) (k : w1.grownBy w2 g) : w.grownBy w2 g := gtrans h k
set_option maxRecDepth 100000 in
set_option maxHeartbeats 800000 in
theorem over_any (w : World) (B : Nat) (v : Value) (l : List UInt8) (hv : Out B w v l) (hl : l.length ≤ 140737488355328) :
  Calls Tryz.prog 26 #[v] w fun e w' => e = .returned (.tuple #[]) ∧ w.grownBy w' v.ownBlock ∧ ∃ l', Out B w' v l' ∧ l'.length = l.length := by
 by_cases h0 : l = []
 ·subst h0
  obtain ⟨a, c, rfl⟩ := hv.len
  have HV := hid hv
  clear hv hl
  go_enter Tryz.func26, Tryz.ntmps26
  go_upto_region 1 with fail
  go_loopw [2] (fun iv wr => iv = .int .i64 0 ∧ Hid (wr = w)) (fun _ _ => 0)
  case atStart => exact ⟨rfl, hid rfl⟩
  case round =>
   obtain ⟨rfl, HW⟩ := hrel
   have hw := HW.out
   subst hw
   go_wp2_with fail
   go_end0
   first | exact ⟨rfl, grefl _ _, HV.out⟩ | exact ⟨rfl, grefl _ _, [], HV.out, rfl⟩
 ·obtain ⟨g, c, e⟩ : ∃ g c, v = .slice (some ⟨g, 0, none⟩) l.length c := by
   rcases hv.2 with ⟨_, e2⟩ | ⟨g, c, cur, e, _⟩
   ·exact absurd (List.eq_nil_of_length_eq_zero e2) h0
   ·exact ⟨g, c, e⟩
  subst e
  have HV := hid hv
  obtain ⟨n, hn⟩ : ∃ n, l.length = n := ⟨_, rfl⟩
  rw [hn] at HV hl ⊢
  clear hv
  go_enter Tryz.func26, Tryz.ntmps26
  go_upto_region 1 with fail
  go_loopw [2] (fun iv wr => ∃ i : Nat, iv = .int .i64 i ∧ i ≤ n ∧ Hid (w.grownBy wr (some g) ∧ ∃ l', Out B wr (.slice (some ⟨g, 0, none⟩) n c) l' ∧ l'.length = n)) (fun iv _ => n - (intOf iv).toNat)
  case atStart => exact ⟨0, rfl, Nat.zero_le _, hid ⟨grefl _ _, l, HV.out, hn⟩⟩
  case round =>
   obtain ⟨i, rfl, hi, HC⟩ := hrel
   by_cases hlt : i < n
   ·have hlt' : (i : Int) < (n : Int) := by omega
    obtain ⟨l', HO⟩ : ∃ l', Hid (Out B wr (.slice (some ⟨g, 0, none⟩) n c) l' ∧ l'.length = n) := ⟨HC.out.2.choose, hid HC.out.2.choose_spec⟩
    have hcell : ∃ y, wr.cell? ⟨g, i, none⟩ = some y ∧ wr.frozen? ⟨g, i, none⟩ = false := by
     rcases HO.out.1.2 with ⟨e, _⟩ | ⟨g', cap, cur, e, hb, hg, hle, hm, hs, ht⟩
     ·cases e
     ·injection e with e1 e2 e3
      injection e1 with e1
      injection e1 with e1 _ _
      subst e1
      refine ⟨cur[i]'(by omega), by simp [World.cell?, hg], by simp [World.frozen?, hg]⟩
    obtain ⟨y, hc1, hc2⟩ := hcell
    have HN : Hid (w.grownBy (wr.setCell ⟨g, i, none⟩ (.int .u8 238)) (some g) ∧ ∃ l', Out B (wr.setCell ⟨g, i, none⟩ (.int .u8 238)) (.slice (some ⟨g, 0, none⟩) n c) l' ∧ l'.length = n) := hid ⟨gtr_own HC.out.1 (gset wr ⟨g, i, none⟩ (.int .u8 238)), l'.set i 238, HO.out.1.set i 238, by rw [List.length_set]; exact HO.out.2⟩
    clear HC HO
    go_wp2_with fail
    go_roundw
    case rel => exact ⟨i + 1, by go_num, by omega, HN⟩
    case measure => simp [intOf]; omega
   ·have hlt' : ¬ (i : Int) < (n : Int) := by omega
    go_wp2_with fail
    go_end0
    exact ⟨rfl, HC.out⟩
end Go.Proofs.YtpbiofnncdneoaaGreatDoor

namespace Go.Proofs.YtpbiofnncdneoaaGreatDoor
open Go Go.RowKit Go.MapKept Go.MuLone
open Go.RowKit (wrap32 wrap64)

set_option maxRecDepth 100000 in
set_option maxHeartbeats 1600000 in
theorem copyFile_any (w : World) (s : ByteArray) (a : Option Addr) (n c : Nat) (F : Nat → Prop) (l : List UInt8) (hv : Rd w F (.slice a n c) l) (hl : l.length ≤ 140737488355328) :
  Calls Tryz.prog 45 #[.agg #[.string s, .slice a n c]] w fun e w' => ∃ a' c', e = .returned (.agg #[.string s, .slice a' n c']) ∧ Out w.heap.size w' (.slice a' n c') l ∧ w.grownBy w' none := by
 have HN : Hid (l.length = n) := hid (by obtain ⟨_, _, _, _, e, _⟩ := hv; injection e with _ e _; exact e.symm)
 have HCk : Hid (∀ u, w.grownBy u none → Calls Tryz.prog 100 #[.slice a n c] u fun e w' => ∃ a' c', e = .returned (.slice a' n c') ∧ Out u.heap.size w' (.slice a' n c') l ∧ u.grownBy w' none) := hid (fun u hu => (copyR_any u _ F l (hv.keep hu) hl).mono fun e w' ⟨v', h1, h2, h3⟩ => by
  obtain ⟨a', c', rfl⟩ := h2.len
  rw [HN.out] at h1 h2
  exact ⟨a', c', h1, h2, h3⟩)
 clear hv hl HN
 go_enter Tryz.func45, Tryz.ntmps45
 go_wp2_with (first
  | ((with_reducible refine wpList_box_row (by with_unfolding_all rfl) 117 _ (by with_unfolding_all rfl) [.string s, .slice a n c] (by with_unfolding_all rfl) ?_); intro w1 B1 s1 g1; have HB1 := hid B1; have HG1 := hid g1; have HS1 := hid s1; obtain ⟨b1, hb1⟩ : ∃ x, w.heap.size = x := ⟨_, rfl⟩; rw [hb1] at HB1 ⊢; have HL1 := hid hb1; clear B1 g1 s1 hb1)
  | (have := HB2; clear this; (with_reducible refine wpList_alloc_row (by with_unfolding_all rfl) 117 (by with_unfolding_all rfl) [.string ⟨#[]⟩, .slice none 0 0] Tryz.zero117 ?_); intro w3 B3 s3 g3; have HB3 := hid B3; have HG3 := hid g3; have HS3 := hid s3; clear B3 g3 s3)
  | ((with_reducible refine wpList_alloc_row (by with_unfolding_all rfl) 117 (by with_unfolding_all rfl) [.string ⟨#[]⟩, .slice none 0 0] Tryz.zero117 ?_); intro w2 B2 s2 g2; have HB2 := hid B2; have HG2 := hid g2; have HS2 := hid s2; clear B2 g2 s2)
  | (have := HR6; clear this; (with_reducible refine wpList_load_part (by with_unfolding_all rfl) 117 _ (by with_unfolding_all rfl) w2.heap.size 0 [.string s, .slice a5 n c5] _ (by with_unfolding_all rfl) HB6.out.whole Tryz.underlying117 (by with_unfolding_all rfl) (by with_unfolding_all exact Tryz.size117) ?_))
  | (with_reducible refine wpList_load_part (by with_unfolding_all rfl) 117 _ (by with_unfolding_all rfl) b1 0 [.string s, .slice a n c] _ (by with_unfolding_all rfl) (HB1.out.keep HG2.out).whole Tryz.underlying117 (by with_unfolding_all rfl) (by with_unfolding_all exact Tryz.size117) ?_)
  | (have := HR6; clear this; (with_reducible refine wpList_store_all (by with_unfolding_all rfl) 117 _ _ (by with_unfolding_all rfl) _ [.string ⟨#[]⟩, .slice none 0 0] [.string s, .slice a5 n c5] 117 (by with_unfolding_all rfl) (by with_unfolding_all rfl) HR6.out (by with_unfolding_all rfl) (by with_unfolding_all exact Tryz.size117) (file_one _ _ _ _) ?_); intro w7 B7 g7 s7; have HB7 := hid B7; have HG7 := hid g7; clear B7 g7 s7)
  | ((with_reducible refine wpList_store_all (by with_unfolding_all rfl) 117 _ _ (by with_unfolding_all rfl) _ [.string ⟨#[]⟩, .slice none 0 0] [.string s, .slice a n c] 117 (by with_unfolding_all rfl) (by with_unfolding_all rfl) HB3.out (by with_unfolding_all rfl) (by with_unfolding_all exact Tryz.size117) (file_one _ _ _ _) ?_); intro w4 B4 g4 s4; have HB4 := hid B4; have HG4 := hid g4; clear B4 g4 s4; have HR4 := hid ((HB2.out.keep HG3.out).on HG4.out (by simp; have := HS2.out; omega)); have HGx := hid ((gtrans (gtrans HG1.out HG2.out) HG3.out).andThen HG4.out (fun j hj => .inl (by injection hj with hj; have := HG1.out.size; have := HG2.out.size; omega))); have HQ4 := hid (((HB1.out.keep HG2.out).keep HG3.out).on HG4.out (by simp; have := HB1.out.lt; have := HG2.out.size; omega)); have y1 := HQ4.out.cell 1)
  | (go_at_call 100; (with_reducible refine (HCk.out _ HGx.out).mono ?_); rintro e w5 ⟨a5, c5, rfl, hO5, hg5⟩; have HO5 := hid hO5; have HG5 := hid hg5; clear hO5 hg5; have HB5 := hid (HB4.out.keep HG5.out); have HR5 := hid (HR4.out.keep HG5.out); have x0 := HB5.out.cell 1; have x0f := HB5.out.frozen 1; obtain ⟨W6, hW6⟩ : ∃ x, w5.setCell ⟨w2.heap.size, 1, none⟩ (.slice a5 n c5) = x := ⟨_, rfl⟩; have HB6 : Hid (Blk W6 w2.heap.size [.string s, .slice a5 n c5] 117) := hid (by rw [← hW6]; exact HB5.out.set 1 (.slice a5 n c5)); have HG6 := hid (gset w5 ⟨w2.heap.size, 1, none⟩ (.slice a5 n c5)); rw [hW6] at HG6; have HR6 := hid (HR5.out.on HG6.out (by simp; have := HS2.out; omega)); have HO6 := hid (HO5.out.on HG6.out (fun j hj e => by injection hj with hj; exact out_ne HO5.out HB5.out (by decide) (e.trans (congrArg some hj.symm))))))
 refine bodyPost_ret (results_blk rfl _ w1.heap.size 117 [.string s, .slice a5 n c5] _ rfl HB7.out Tryz.underlying117 rfl Tryz.size117) rfl ?_
 have q1 := HL1.out
 have q2 := HGx.out.size
 refine ⟨a5, c5, rfl, (HO6.out.on HG7.out (fun j hj e => ?_)).below (by omega), ((gtrans HGx.out HG5.out).andThen HG6.out (fun j hj => .inl (by injection hj with hj; have := HG1.out.size; have := HG2.out.size; omega))).andThen HG7.out (fun j hj => .inl (by injection hj with hj; have := HG1.out.size; omega))⟩
 injection hj with hj
 exact out_ne HO6.out HR6.out (by decide) (e.trans (congrArg some hj.symm))
theorem OutF.on {B : Nat} {w w' : World} {v : Value} {E : List Fl} {row : Option Nat} (h : OutF B w v E) (hg : w.grownBy w' row) (hr : ∀ k, row = some k → v.ownBlock ≠ some k ∧ ∀ f ∈ E, f.v.ownBlock ≠ some k) : OutF B w' v E :=
 ⟨World.ownsRow.kept h.row hg (by
  cases hv : v.ownBlock with
  | none => exact .inl rfl
  | some k => exact .inr (fun e => (hr k e.symm).1 hv)), fun f hf => (h.own f hf).on hg (fun k hk => (hr k hk).2 f hf)⟩
theorem OutF.low {B : Nat} {w : World} {v : Value} {E : List Fl} (h : OutF B w v E) : ∀ k, v.ownBlock = some k → B ≤ k := fun k hk => by
 rcases h.row.2 with ⟨h1, _⟩ | ⟨g, cap, cur, h1, hB, _⟩
 ·rw [h1] at hk; cases hk
 ·rw [h1] at hk
  injection hk with hk
  have hk' : g = k := hk
  omega
theorem OutF.ne {B C : Nat} {w : World} {v v' : Value} {E E' : List Fl} (h : OutF B w v E) (h' : OutF C w v' E') : ∀ k, v'.ownBlock = some k → ∀ f ∈ E, f.v.ownBlock ≠ some k := fun k hk f hf => own_ne h'.row (h.own f hf) (by decide) k hk
set_option maxRecDepth 100000 in
/-- append of one file; where the row lies then. -/
theorem app_file2 {w : World} {B g : Nat} {vs : Value} {E : List Fl} {s : ByteArray} {bv : Value} {bs : List UInt8} (h : OutF B w vs E) (hb : Blk w g [.string s, bv] 117) (ho : Out B w bv bs) (hE : E.length ≤ 1000000) (hB : B ≤ w.heap.size) (ty : TypeId) :
  ∃ v' w', (Builtin.append_ #[110, 110] ty #[vs, .slice (some ⟨g, 0, none⟩) 1 1]).run Tryz.prog w = .ok v' w' ∧ OutF B w' v' (E ++ [⟨s, bv, bs⟩]) ∧ w.grownBy w' vs.ownBlock ∧ (v'.ownBlock = vs.ownBlock ∨ v'.ownBlock = some w.heap.size) := by
 obtain ⟨inf, hi, hz0, hz1, hz2⟩ := info_parts Tryz.info117
 obtain ⟨ba, bc, hbv⟩ := ho.len
 obtain ⟨v', w', h1, h2, h3, _, h4⟩ := run_append_own_at (P := Tryz.prog) w B 110 ty 117 inf (.agg [Value.string ⟨#[]⟩, .slice none 0 0].toArray) 2 40 Tryz.underlying110 hi hz0 hz1 hz2 rfl (by decide) vs _ _ h.row ⟨g, 0, none⟩ 1 1 [.string s, bv] rfl (by
  intro j u hu
  rw [Addr.add_lit, Nat.zero_add]
  rcases (show j = 0 ∨ j = 1 ∨ 2 ≤ j by omega) with rfl | rfl | h2
  ·injection hu with hu; subst hu; exact hb.cell 0
  ·injection hu with hu; subst hu; exact hb.cell 1
  ·have : ([Value.string s, bv] : List Value)[j]? = none := by simp; omega
   rw [this] at hu; cases hu) (by rw [hbv]; exact file_one s ba bs.length bc) (by unfold maxLen; omega) (by omega) hB
 refine ⟨v', w', h1, ⟨by rw [fcs_app, List.length_append]; exact h2, fun f hf => ?_⟩, h3, h4⟩
 have hx : ∀ f : Fl, Out B w f.v f.bs → Out B w' f.v f.bs := fun f hf => hf.on h3 (fun k hk => own_ne h.row hf (by decide) k hk)
 rcases List.mem_append.1 hf with hf | hf
 ·exact hx f (h.own f hf)
 ·rw [List.mem_singleton.1 hf]
  exact hx ⟨s, bv, bs⟩ ho
theorem wpList_append_file {w : World} {ops : Array Oper} {rest : List Oper} {o : Oper} {a : Act} {Q : Exit → Act → World → Prop} (hgd : o.guard = none) (s x : Operand)
  (ho : o.op = .call { callee := .builtin .append, args := #[s, x], argTypes := #[110, 110] }) (B g : Nat) (E : List Fl) (nm : ByteArray) (bv : Value) (bs : List UInt8) (h : OutF B w (a.eval s) E) (hx : a.eval x = .slice (some ⟨g, 0, none⟩) 1 1) (hb : Blk w g [.string nm, bv] 117) (hO : Out B w bv bs) (hE : E.length ≤ 1000000) (hB : B ≤ w.heap.size)
  (k : ∀ v' w', OutF B w' v' (E ++ [⟨nm, bv, bs⟩]) → w.grownBy w' (a.eval s).ownBlock → (v'.ownBlock = (a.eval s).ownBlock ∨ v'.ownBlock = some w.heap.size) → wpList Tryz.prog ops Q rest (a.put o.dst v') w') : wpList Tryz.prog ops Q (o :: rest) a w := by
 obtain ⟨v', w', h1, h2, h3, h4⟩ := app_file2 h hb hO hE hB o.type
 refine wpList_plain hgd fun K hK => ?_
 unfold Oper.wp
 simp [execOp, ho, resolve, invoke, builtin, hx, h1, Result.andThen]
 exact hK _ _ (k v' w' h2 h3 h4)
theorem ApF.snoc {E : List Fl} {f : Fl} (h : ApF E) (hf : ∀ g ∈ E, g.v.ownBlock = none ∨ g.v.ownBlock ≠ f.v.ownBlock) : ApF (E ++ [f]) := by
 unfold ApF
 rw [List.pairwise_append]
 exact ⟨h, List.pairwise_singleton .., fun a ha b hb => by rw [List.mem_singleton.1 hb]; exact hf a ha⟩
set_option maxRecDepth 100000 in
set_option maxHeartbeats 1600000 in
theorem copyFiles_any (w : World) (F : Nat → Prop) (a : Option Addr) (g off c : Nat) (L : Cn) (hA : ArF w F a g off L) (hL : L.length ≤ 1000000) (hb : ∀ p ∈ L, p.2.length ≤ 140737488355328) :
  Calls Tryz.prog 65 #[.slice a L.length c] w fun e w' => ∃ v E, e = .returned v ∧ OutF w.heap.size w' v E ∧ cont E = L ∧ ApF E ∧ w.grownBy w' none := by
 have HA : Hid (∀ u, w.grownBy u none → ArF u F a g off L) := hid (fun u hu => hA.keep hu)
 have HBl := hid hb
 obtain ⟨n, HN⟩ : ∃ n, Hid (L.length = n) := ⟨_, hid rfl⟩
 have hn : n ≤ 1000000 := by rw [← HN.out]; exact hL
 rw [HN.out]
 clear hA hL hb
 go_enter Tryz.func65, Tryz.ntmps65
 go_upto_region 3 with fail
 go_loopw [4, 3] (fun iv v wr => ∃ (i : Nat) (xa : Option Addr) (xc : Nat), iv = .int .i64 i ∧ v = .slice xa i xc ∧ i ≤ n ∧ Hid (∃ E, OutF w.heap.size wr (.slice xa i xc) E ∧ cont E = L.take i ∧ ApF E ∧ w.grownBy wr none)) (fun iv _ _ => n - (intOf iv).toNat)
 case atStart => exact ⟨0, none, 0, rfl, rfl, Nat.zero_le _, hid ⟨[], OutF.nil (World.ownsRow_nil _ _ _ _), rfl, List.Pairwise.nil, grefl _ _⟩⟩
 case round =>
  obtain ⟨i, xa, xc, rfl, rfl, hi, HC⟩ := hrel
  obtain ⟨w0, hw0⟩ : ∃ x : World, x = wr := ⟨_, rfl⟩
  rw [← hw0] at HC ⊢
  clear hw0
  obtain ⟨E, HE⟩ : ∃ E, Hid (OutF w.heap.size w0 (.slice xa i xc) E ∧ cont E = L.take i ∧ ApF E ∧ w.grownBy w0 none) := ⟨HC.out.choose, hid HC.out.choose_spec⟩
  clear HC
  by_cases hlt : i < n
  ·have hlt' : (i : Int) < (n : Int) := by omega
   have hiL : i < L.length := by rw [HN.out]; exact hlt
   obtain ⟨rfl, hgl, -⟩ := (HA.out w0 HE.out.2.2.2).at_ (by omega)
   obtain ⟨q, Hq⟩ : ∃ x, Hid (L[i] = x) := ⟨_, hid rfl⟩
   obtain ⟨s, l⟩ := q
   have HC : Hid (w0.cell? ⟨g, off + i * 2, none⟩ = some (.string s) ∧ ∃ v, w0.cell? ⟨g, off + i * 2 + 1, none⟩ = some v ∧ Rd w0 F v l) := hid (by have := (HA.out w0 HE.out.2.2.2).each i hiL; rw [Hq.out] at this; exact this)
   obtain ⟨v, hv1, hv2⟩ := HC.out.2
   have HV := hid hv2
   have HLl : Hid (l.length ≤ 140737488355328) := hid (HBl.out (s, l) (by rw [← Hq.out]; exact List.getElem_mem _))
   obtain ⟨ba, -, -, bc, rfl, -⟩ := hv2
   obtain ⟨bn, HBn⟩ : ∃ x, Hid (l.length = x) := ⟨_, hid rfl⟩
   rw [HBn.out] at HV hv1
   have HR : Hid (w0.rangeAt g (off + i * 2) [.string s, .slice ba bn bc]) := hid (two_range HC.out.1 hv1)
   have HCf := hid (copyFile_any w0 s ba bn bc F l HV.out HLl.out)
   have HEl : Hid (E.length ≤ 1000000) := hid (by have := congrArg List.length HE.out.2.1; rw [len_cont, List.length_take] at this; omega)
   clear HC hv1 HV
   go_wp2_with (first
    | (with_reducible refine wpList_load_part (by with_unfolding_all rfl) 117 _ (by with_unfolding_all rfl) g (off + i * 2) [.string s, .slice ba bn bc] _ (by with_unfolding_all rfl) HR.out Tryz.underlying117 (by with_unfolding_all rfl) (by with_unfolding_all exact Tryz.size117) ?_)
    | (go_at_call 45; (with_reducible refine HCf.out.mono ?_); rintro e w1 ⟨a1, c1, rfl, hO, hg⟩; have HO1 := hid hO; have HG1 := hid hg; clear hO hg)
    | (at_builtin; (refine wpList_append_file rfl _ _ rfl w.heap.size w1.heap.size E s (.slice a1 bn c1) l ((HE.out.1.keep HG1.out).keep (galloc w1 _ none)) rfl (Blk.new w1 [.string s, .slice a1 bn c1] 117) ((HO1.out.below HE.out.2.2.2.size).keep (galloc w1 _ none)) HEl.out (by have := (gtrans HE.out.2.2.2 (gtrans HG1.out (galloc w1 (.cells #[.string s, .slice a1 bn c1] 117) none))).size; exact this) ?_); intro v2 w2 hF2 hg2 hb2; have HF2 := hid hF2; have HG2 := hid hg2; clear hF2 hg2 hb2))
   have HRl : Hid (∃ (i' : Nat) (xa' : Option Addr) (xc' : Nat), Value.int .i64 ((i : Int) + 1) = .int .i64 i' ∧ v2 = .slice xa' i' xc' ∧ i' ≤ n ∧ Hid (∃ E, OutF w.heap.size w2 (.slice xa' i' xc') E ∧ cont E = L.take i' ∧ ApF E ∧ w.grownBy w2 none)) := hid (by
    have hl : (E ++ [(⟨s, .slice a1 bn c1, l⟩ : Fl)]).length = i + 1 := by
     have := congrArg List.length HE.out.2.1
     rw [len_cont, List.length_take] at this
     rw [List.length_append, List.length_singleton]
     omega
    obtain ⟨xa', xc', hv2⟩ := HF2.out.len
    rw [hl] at hv2
    subst hv2
    refine ⟨i + 1, xa', xc', by go_num, rfl, by omega, hid ⟨_, HF2.out, ?_, ?_, ?_⟩⟩
    ·unfold cont
     rw [List.map_append]
     show cont E ++ [(s, l)] = _
     rw [HE.out.2.1, List.take_succ_eq_append_getElem hiL, Hq.out]
    ·refine HE.out.2.2.1.snoc (fun f hf => ?_)
     cases hk : f.v.ownBlock with
     | none => exact .inl rfl
     | some k =>
      refine .inr (fun e => ?_)
      have h1 := ((HE.out.1.own f hf).lt k hk).2
      have h2 := HO1.out.block k e.symm
      omega
    ·exact (gtrans HE.out.2.2.2 (gtrans HG1.out (galloc w1 _ none))).andThen HG2.out (fun j hj => .inl (HE.out.1.low j hj)))
   go_roundw
   case rel => exact HRl.out
   case measure => simp [intOf]; omega
  ·have hlt' : ¬ (i : Int) < (n : Int) := by omega
   go_wp2_with fail
   go_ret
   have e : i = n := by omega
   have q : cont E = L := by rw [HE.out.2.1, e, ← HN.out, List.take_length]
   first
    | exact ⟨_, E, rfl, HE.out.1, q, HE.out.2.2.1, HE.out.2.2.2⟩
    | exact ⟨_, rfl, E, HE.out.1, q, HE.out.2.2.1, HE.out.2.2.2⟩
end Go.Proofs.YtpbiofnncdneoaaGreatDoor
