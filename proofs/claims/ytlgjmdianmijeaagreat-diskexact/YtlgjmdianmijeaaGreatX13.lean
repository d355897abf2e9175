/- EqFile, EqFiles of like files; others. -/
import Derived.Test.YtlgjmdianmijeaaGreatX12
import Derived.Lib.SmallJoins
namespace Go.Proofs.YtlgjmdianmijeaaGreat
open Go Go.RowKit Go.MapKept Go.MuLone
open Go.RowKit (wrap32 wrap64)

theorem ifw_undef {o : Oper} {ops : Array Oper} {A : Act} {X Y : Prop} (j : Nat) (b : Bool) (d : Tmp) (hg : o.guard = some (j, b)) (hd : ((ops[j]?).bind (·.dst)) = some d) (hb : A.eval (.tmp d) = undef) (h : Y) : if Region.wanted o (yielded ops A.tmps) = true then X else Y := by
  have hy : yielded ops A.tmps j = none := by
    unfold yielded
    rw [hd]
    have h2 : A.tmps.getD d undef = undef := hb
    rw [Array.getD_eq_getD_getElem?] at h2
    show (match A.tmps[d]? with | some (.bool b) => some b | _ => none) = none
    cases e : A.tmps[d]? with
    | none => rfl
    | some v => rw [e] at h2; have h3 : v = undef := h2; subst h3; rfl
  rw [if_neg (by simp [Region.wanted, hg, hy])]
  exact h
def SI (i : Nat) : List UInt8 := 170 :: UInt8.ofNat i :: List.replicate 30 0
theorem idx34 (b o n c i : Nat) (h : i < n) (u : World) : (Instr.indexAt 66 (.slice (some ⟨b, o, none⟩) n c) (.int .i64 (i : Nat))).run Tryz.prog u = .ok (.pointer (some ⟨b, o + i * 2, none⟩)) u := by
  have h' : (i : Int) < (n : Int) := by omega
  go_simp
theorem gdrewN (w : World) (k : Nat) (row : Option Nat) : w.grownBy (w.drewN k) row := ⟨rfl, rfl, rfl, Nat.le_refl _, fun _ _ _ => rfl⟩
theorem two_range {w : World} {b o : Nat} {x y : Value} (h1 : w.cell? ⟨b, o, none⟩ = some x) (h2 : w.cell? ⟨b, o + 1, none⟩ = some y) : w.rangeAt b o [x, y] := fun j v hv => by
  rcases (show j = 0 ∨ j = 1 ∨ 2 ≤ j by omega) with rfl | rfl | h3
  · have := Option.some.inj hv; subst this; exact h1
  · have := Option.some.inj hv; subst this; exact h2
  · have : ([x, y] : List Value)[j]? = none := by simp; omega
    rw [this] at hv; cases hv
set_option maxRecDepth 100000 in
set_option maxHeartbeats 4000000 in
theorem eqFile_same (w : World) (s : ByteArray) (ba ca : Option Addr) (bn bc cc : Nat) (F G : Nat → Prop) (l : List UInt8) (hx : Rd w F (.slice ba bn bc) l) (hy : Rd w G (.slice ca bn cc) l) (hl : l.length ≤ 140737488355328) :
    Calls Tryz.prog 113 #[.agg [Value.string s, .slice ba bn bc].toArray, .agg [Value.string s, .slice ca bn cc].toArray] w fun e w' => e = .returned (.bool true) ∧ w.grownBy w' none := by
  have HE : Hid (∀ u, w.grownBy u none → Calls Tryz.prog 152 #[.slice ba bn bc, .slice ca bn cc] u fun e w' => e = .returned (.bool true) ∧ u.grownBy w' none) := hid (fun u hu => (eq_any u _ _ F G l l (hx.keep hu) (hy.keep hu) hl).mono fun e w' ⟨h1, k, h2⟩ => ⟨by rw [h1]; simp, by rw [h2]; exact gdrewN _ _ _⟩)
  have hss : (s.toList == s.toList) = true := by simp
  clear hx hy
  go_enter Tryz.func113, Tryz.ntmps113
  go_wp2_with (first
    | ((with_reducible refine wpList_box_row (by with_unfolding_all rfl) 130 _ (by with_unfolding_all rfl) [Value.string s, .slice ba bn bc] (by with_unfolding_all rfl) ?_); intro w1 B1 s1 g1; have HB1 := hid B1; have HG1 := hid g1; clear B1 s1 g1)
    | ((with_reducible refine wpList_box_row (by with_unfolding_all rfl) 130 _ (by with_unfolding_all rfl) [Value.string s, .slice ca bn cc] (by with_unfolding_all rfl) ?_); intro w2 B2 s2 g2; have HB2 := hid B2; have HG2 := hid g2; have c1 := (HB1.out.keep g2).cell 0; have c2 := (HB1.out.keep g2).cell 1; have c3 := B2.cell 0; have c4 := B2.cell 1; clear B2 s2 g2)
    | (go_at_call 152; refine (HE.out _ (gtrans HG1.out HG2.out)).mono ?_; rintro e w3 ⟨rfl, hg⟩; have HG3 := hid hg; clear hg))
  go_ret
  exact ⟨rfl, gtrans HG1.out (gtrans HG2.out HG3.out)⟩
set_option maxRecDepth 100000 in
set_option maxHeartbeats 4000000 in
theorem eqFiles_same (w : World) (Fa Fb : Nat → Prop) (a a' : Option Addr) (fa fo fc fb go gc : Nat) (L : Cn) (hA : ArF w Fa a fa fo L) (hB : ArF w Fb a' fb go L) (hL : L.length ≤ 1000000) (hb : ∀ p ∈ L, p.2.length ≤ 140737488355328) :
    Calls Tryz.prog 40 #[.slice a L.length fc, .slice a' L.length gc] w fun e w' => e = .returned (.bool true) ∧ w.grownBy w' none := by
  have HAa : Hid (∀ u, w.grownBy u none → ArF u Fa a fa fo L) := hid (fun u hu => hA.keep hu)
  have HAb : Hid (∀ u, w.grownBy u none → ArF u Fb a' fb go L) := hid (fun u hu => hB.keep hu)
  have HBl := hid hb
  obtain ⟨n, HN⟩ : ∃ n, Hid (L.length = n) := ⟨_, hid rfl⟩
  rw [HN.out] at hL ⊢
  clear hA hB hb
  go_enter Tryz.func40, Tryz.ntmps40
  go_wp2_with fail
  go_loopw [5] (fun iv wr => ∃ i : Nat, iv = .int .i64 i ∧ i ≤ n ∧ Hid (w.grownBy wr none)) (fun iv _ => n - (intOf iv).toNat)
  case atStart => exact ⟨0, rfl, by omega, hid (grefl _ _)⟩
  case round =>
    obtain ⟨i, rfl, hi, HG⟩ := hrel
    obtain ⟨w0, hw0⟩ : ∃ x : World, x = wr := ⟨_, rfl⟩
    rw [← hw0] at HG ⊢
    clear hw0
    by_cases hlt : i < n
    · as_aux_lemma =>
      have hlt' : (i : Int) < (n : Int) := by omega
      have hiL : i < L.length := by rw [HN.out]; exact hlt
      obtain ⟨rfl, -⟩ := (HAa.out w0 HG.out).at_ (by omega)
      obtain ⟨rfl, -⟩ := (HAb.out w0 HG.out).at_ (by omega)
      obtain ⟨q, Hq⟩ : ∃ x, Hid (L[i] = x) := ⟨_, hid rfl⟩
      obtain ⟨s, l⟩ := q
      have HC : Hid (w0.cell? ⟨fa, fo + i * 2, none⟩ = some (.string s) ∧ ∃ v, w0.cell? ⟨fa, fo + i * 2 + 1, none⟩ = some v ∧ Rd w0 Fa v l) := hid (by have := (HAa.out w0 HG.out).each i hiL; rw [Hq.out] at this; exact this)
      obtain ⟨v, hv1, hv2⟩ := HC.out.2
      have HV := hid hv2
      obtain ⟨ba, -, -, bc, rfl, -⟩ := hv2
      obtain ⟨bn, HBn⟩ : ∃ x, Hid (l.length = x) := ⟨_, hid rfl⟩
      rw [HBn.out] at HV hv1
      have HD : Hid (w0.cell? ⟨fb, go + i * 2, none⟩ = some (.string s) ∧ ∃ v, w0.cell? ⟨fb, go + i * 2 + 1, none⟩ = some v ∧ Rd w0 Fb v l) := hid (by have := (HAb.out w0 HG.out).each i hiL; rw [Hq.out] at this; exact this)
      obtain ⟨v', hu1, hu2⟩ := HD.out.2
      have HV' := hid hu2
      obtain ⟨ca, -, -, cc, rfl, -⟩ := hu2
      rw [HBn.out] at HV' hu1
      have HLl : Hid (l.length ≤ 140737488355328) := hid (HBl.out (s, l) (by rw [← Hq.out]; exact List.getElem_mem _))
      have HRA : Hid (∀ u, w0.grownBy u none → u.rangeAt fa (fo + i * 2) [.string s, .slice ba bn bc]) := hid (fun u hu => by
        have hb := ((HAa.out w0 HG.out).at_ (by omega)).2.1
        exact two_range ((cell_at hu hb (by simp)).trans HC.out.1) ((cell_at hu hb (by simp)).trans hv1))
      have HRB : Hid (∀ u, w0.grownBy u none → u.rangeAt fb (go + i * 2) [.string s, .slice ca bn cc]) := hid (fun u hu => by
        have hb := ((HAb.out w0 HG.out).at_ (by omega)).2.1
        exact two_range ((cell_at hu hb (by simp)).trans HD.out.1) ((cell_at hu hb (by simp)).trans hu1))
      have HEq : Hid (∀ u, w0.grownBy u none → Calls Tryz.prog 113 #[.agg [Value.string s, .slice ba bn bc].toArray, .agg [Value.string s, .slice ca bn cc].toArray] u fun e w' => ∃ v, e = .returned v ∧ u.grownBy w' none ∧ v = Value.bool true) := hid (fun u hu => (eqFile_same u s ba ca bn bc cc Fa Fb l (HV.out.keep hu) (HV'.out.keep hu) HLl.out).mono fun e w' ⟨h1, h2⟩ => ⟨_, h1, h2, rfl⟩)
      clear hv1 hu1 HC HD Hq
      go_upto_region 6 with fail
      refine wp_region_listX (by kernel_rfl) [fun v _ => v = (Value.slice (some ⟨fa, fo, none⟩) n fc), fun v _ => v = (Value.int .i64 (i : Nat)), fun v _ => v = (Value.pointer (some ⟨fa, fo + i * 2, none⟩)), fun v _ => v = (Value.agg [Value.string s, Value.slice ba bn bc].toArray), fun v _ => v = (Value.slice (some ⟨fb, go, none⟩) n gc), fun v _ => v = (Value.int .i64 (i : Nat)), fun v _ => v = (Value.pointer (some ⟨fb, go + i * 2, none⟩)), fun v _ => v = (Value.agg [Value.string s, Value.slice ca bn cc].toArray), fun v _ => v = Value.bool true, fun v _ => v = (Value.bool false)] (none) (fun _ => none) 10 (by kernel_rfl) (by kernel_rfl) (by kernel_rfl) (by kernel_rfl) (by decide) noRow_one (fun _ => .inl rfl) ⟨fun i v u u' hki h hg => h, fun i v u u' hki h hg => h, fun i v u u' hki h hg => h, fun i v u u' hki h hg => h, fun i v u u' hki h hg => h, fun i v u u' hki h hg => h, fun i v u u' hki h hg => h, fun i v u u' hki h hg => h, fun i v u u' hki h hg => h, fun i v u u' hki h hg => h, trivial⟩ ⟨?_, ?_, ?_, ?_, ?_, ?_, ?_, ?_, ?_, ?_, trivial⟩ ?_
      · intro A u hu hpu hsz hout hdeps
        have e0 : A.eval (.tmp 0) = (.slice (some ⟨fa, fo, none⟩) n fc) := (hout 0 (by kernel_rfl)).trans rfl
        refine ifw_none rfl ?_
        with_reducible refine shown_q (Value.slice (some ⟨fa, fo, none⟩) n fc) ?qq_1_0 (fun _ _ => ?qr_1_0)
        case qr_1_0 => exact (rfl : (Value.slice (some ⟨fa, fo, none⟩) n fc) = (Value.slice (some ⟨fa, fo, none⟩) n fc))
        with_reducible refine quietAt_mv (.tmp 0) (Value.slice (some ⟨fa, fo, none⟩) n fc) ?h0_1_0 ?h1_1_0
        case h0_1_0 => rfl
        case h1_1_0 => exact e0
      · intro A u hu hpu hsz hout hdeps
        have e5 : A.eval (.tmp 5) = (.int .i64 (i : Nat)) := (hout 5 (by kernel_rfl)).trans rfl
        refine ifw_none rfl ?_
        with_reducible refine shown_q (Value.int .i64 (i : Nat)) ?qq_1_1 (fun _ _ => ?qr_1_1)
        case qr_1_1 => exact (rfl : (Value.int .i64 (i : Nat)) = (Value.int .i64 (i : Nat)))
        with_reducible refine quietAt_mv (.tmp 5) (Value.int .i64 (i : Nat)) ?h0_1_1 ?h1_1_1
        case h0_1_1 => rfl
        case h1_1_1 => exact e5
      · intro A u hu hpu hsz hout hdeps
        have e17 : A.eval (.tmp 17) = (.slice (some ⟨fa, fo, none⟩) n fc) := by have h := depL hdeps 0 (by kernel_rfl) 17 (by kernel_rfl); exact h
        have e18 : A.eval (.tmp 18) = (.int .i64 (i : Nat)) := by have h := depL hdeps 1 (by kernel_rfl) 18 (by kernel_rfl); exact h
        refine ifw_none rfl ?_
        with_reducible refine shown_q (Value.pointer (some ⟨fa, fo + i * 2, none⟩)) ?qq_1_2 (fun _ _ => ?qr_1_2)
        case qr_1_2 => exact (rfl : (Value.pointer (some ⟨fa, fo + i * 2, none⟩)) = (Value.pointer (some ⟨fa, fo + i * 2, none⟩)))
        with_reducible refine quietAt_idx 66 (.tmp 17) (.tmp 18) (Value.slice (some ⟨fa, fo, none⟩) n fc) (Value.int .i64 (i : Nat)) (Value.pointer (some ⟨fa, fo + i * 2, none⟩)) ?h0_1_2 ?h1_1_2 ?h2_1_2 ?h3_1_2
        case h0_1_2 => rfl
        case h1_1_2 => exact e17
        case h2_1_2 => exact e18
        case h3_1_2 => exact idx34 fa fo n fc i hlt u
      · intro A u hu hpu hsz hout hdeps
        have e19 : A.eval (.tmp 19) = (.pointer (some ⟨fa, fo + i * 2, none⟩)) := by have h := depL hdeps 2 (by kernel_rfl) 19 (by kernel_rfl); exact h
        refine ifw_none rfl ?_
        with_reducible refine shown_q (Value.agg [Value.string s, Value.slice ba bn bc].toArray) ?qq_1_3 (fun _ _ => ?qr_1_3)
        case qr_1_3 => exact (rfl : (Value.agg [Value.string s, Value.slice ba bn bc].toArray) = (Value.agg [Value.string s, Value.slice ba bn bc].toArray))
        with_reducible refine quietAt_load 130 (.tmp 19) ?h0_1_3 fa (fo + i * 2) [Value.string s, Value.slice ba bn bc] (.struct (Tryz.prog.fieldsOf 130)) ?h1_1_3 ?h2_1_3 ?h3_1_3 ?h4_1_3 ?h5_1_3
        case h0_1_3 => rfl
        case h1_1_3 => exact e19
        case h2_1_3 => exact (HRA.out u hu)
        case h3_1_3 => exact Tryz.underlying130
        case h4_1_3 => rfl
        case h5_1_3 => exact Tryz.size130
      · intro A u hu hpu hsz hout hdeps
        have e1 : A.eval (.tmp 1) = (.slice (some ⟨fb, go, none⟩) n gc) := (hout 1 (by kernel_rfl)).trans rfl
        refine ifw_none rfl ?_
        with_reducible refine shown_q (Value.slice (some ⟨fb, go, none⟩) n gc) ?qq_1_4 (fun _ _ => ?qr_1_4)
        case qr_1_4 => exact (rfl : (Value.slice (some ⟨fb, go, none⟩) n gc) = (Value.slice (some ⟨fb, go, none⟩) n gc))
        with_reducible refine quietAt_mv (.tmp 1) (Value.slice (some ⟨fb, go, none⟩) n gc) ?h0_1_4 ?h1_1_4
        case h0_1_4 => rfl
        case h1_1_4 => exact e1
      · intro A u hu hpu hsz hout hdeps
        have e5 : A.eval (.tmp 5) = (.int .i64 (i : Nat)) := (hout 5 (by kernel_rfl)).trans rfl
        refine ifw_none rfl ?_
        with_reducible refine shown_q (Value.int .i64 (i : Nat)) ?qq_1_5 (fun _ _ => ?qr_1_5)
        case qr_1_5 => exact (rfl : (Value.int .i64 (i : Nat)) = (Value.int .i64 (i : Nat)))
        with_reducible refine quietAt_mv (.tmp 5) (Value.int .i64 (i : Nat)) ?h0_1_5 ?h1_1_5
        case h0_1_5 => rfl
        case h1_1_5 => exact e5
      · intro A u hu hpu hsz hout hdeps
        have e21 : A.eval (.tmp 21) = (.slice (some ⟨fb, go, none⟩) n gc) := by have h := depL hdeps 4 (by kernel_rfl) 21 (by kernel_rfl); exact h
        have e22 : A.eval (.tmp 22) = (.int .i64 (i : Nat)) := by have h := depL hdeps 5 (by kernel_rfl) 22 (by kernel_rfl); exact h
        refine ifw_none rfl ?_
        with_reducible refine shown_q (Value.pointer (some ⟨fb, go + i * 2, none⟩)) ?qq_1_6 (fun _ _ => ?qr_1_6)
        case qr_1_6 => exact (rfl : (Value.pointer (some ⟨fb, go + i * 2, none⟩)) = (Value.pointer (some ⟨fb, go + i * 2, none⟩)))
        with_reducible refine quietAt_idx 66 (.tmp 21) (.tmp 22) (Value.slice (some ⟨fb, go, none⟩) n gc) (Value.int .i64 (i : Nat)) (Value.pointer (some ⟨fb, go + i * 2, none⟩)) ?h0_1_6 ?h1_1_6 ?h2_1_6 ?h3_1_6
        case h0_1_6 => rfl
        case h1_1_6 => exact e21
        case h2_1_6 => exact e22
        case h3_1_6 => exact idx34 fb go n gc i hlt u
      · intro A u hu hpu hsz hout hdeps
        have e23 : A.eval (.tmp 23) = (.pointer (some ⟨fb, go + i * 2, none⟩)) := by have h := depL hdeps 6 (by kernel_rfl) 23 (by kernel_rfl); exact h
        refine ifw_none rfl ?_
        with_reducible refine shown_q (Value.agg [Value.string s, Value.slice ca bn cc].toArray) ?qq_1_7 (fun _ _ => ?qr_1_7)
        case qr_1_7 => exact (rfl : (Value.agg [Value.string s, Value.slice ca bn cc].toArray) = (Value.agg [Value.string s, Value.slice ca bn cc].toArray))
        with_reducible refine quietAt_load 130 (.tmp 23) ?h0_1_7 fb (go + i * 2) [Value.string s, Value.slice ca bn cc] (.struct (Tryz.prog.fieldsOf 130)) ?h1_1_7 ?h2_1_7 ?h3_1_7 ?h4_1_7 ?h5_1_7
        case h0_1_7 => rfl
        case h1_1_7 => exact e23
        case h2_1_7 => exact (HRB.out u hu)
        case h3_1_7 => exact Tryz.underlying130
        case h4_1_7 => rfl
        case h5_1_7 => exact Tryz.size130
      · intro A u hu hpu hsz hout hdeps
        have e20 : A.eval (.tmp 20) = (.agg [Value.string s, .slice ba bn bc].toArray) := by have h := depL hdeps 3 (by kernel_rfl) 20 (by kernel_rfl); exact h
        have e24 : A.eval (.tmp 24) = (.agg [Value.string s, .slice ca bn cc].toArray) := by have h := depL hdeps 7 (by kernel_rfl) 24 (by kernel_rfl); exact h
        refine ifw_none rfl ?_
        with_reducible refine shown_call 113 Tryz.f113 ?h0_1_8 ?h1_1_8 ?h2_1_8 #[.tmp 20, .tmp 24] #[130, 130] ?h3_1_8 #[(Value.agg [Value.string s, Value.slice ba bn bc].toArray), (Value.agg [Value.string s, Value.slice ca bn cc].toArray)] ?h4_1_8 ?h5_1_8
        case h0_1_8 => exact Tryz.func113
        case h1_1_8 => kernel_rfl
        case h2_1_8 => kernel_rfl
        case h3_1_8 => rfl
        case h4_1_8 => exact map2 _ _ _ _ _ e20 e24
        case h5_1_8 => exact HEq.out u hu
      · intro A u hu hpu hsz hout hdeps
        have f25 : (fun v _ => v = Value.bool true) (A.eval (.tmp 25)) u := by have h := depL hdeps 8 (by kernel_rfl) 25 (by kernel_rfl); exact h
        have e25 := (f25 : _ = Value.bool true)
        refine ifw_none rfl ?_
        with_reducible refine shown_q (Value.bool false) ?qq_1_9 (fun _ _ => ?qr_1_9)
        case qr_1_9 => exact (rfl : (Value.bool false) = (Value.bool false))
        with_reducible refine quietAt_un .not 4 (.tmp 25) (Value.bool true) (Value.bool false) ?h0_1_9 ?h1_1_9 ?h2_1_9
        case h0_1_9 => rfl
        case h1_1_9 => exact e25
        case h2_1_9 => rfl
      · intro A u8 listed hh hall
        have hA := hh.frame
        have HU := hid hh.grown
        obtain ⟨x17, hx17⟩ : ∃ x, A.eval (.tmp 17) = x := ⟨_, rfl⟩
        have f17 : (fun v _ => v = (Value.slice (some ⟨fa, fo, none⟩) n fc)) x17 u8 := by rw [← hx17]; exact hh.got 0 _ 17 rfl rfl (hall 0 (by decide))
        obtain ⟨x18, hx18⟩ : ∃ x, A.eval (.tmp 18) = x := ⟨_, rfl⟩
        have f18 : (fun v _ => v = (Value.int .i64 (i : Nat))) x18 u8 := by rw [← hx18]; exact hh.got 1 _ 18 rfl rfl (hall 1 (by decide))
        obtain ⟨x19, hx19⟩ : ∃ x, A.eval (.tmp 19) = x := ⟨_, rfl⟩
        have f19 : (fun v _ => v = (Value.pointer (some ⟨fa, fo + i * 2, none⟩))) x19 u8 := by rw [← hx19]; exact hh.got 2 _ 19 rfl rfl (hall 2 (by decide))
        obtain ⟨x20, hx20⟩ : ∃ x, A.eval (.tmp 20) = x := ⟨_, rfl⟩
        have f20 : (fun v _ => v = (Value.agg [Value.string s, Value.slice ba bn bc].toArray)) x20 u8 := by rw [← hx20]; exact hh.got 3 _ 20 rfl rfl (hall 3 (by decide))
        obtain ⟨x21, hx21⟩ : ∃ x, A.eval (.tmp 21) = x := ⟨_, rfl⟩
        have f21 : (fun v _ => v = (Value.slice (some ⟨fb, go, none⟩) n gc)) x21 u8 := by rw [← hx21]; exact hh.got 4 _ 21 rfl rfl (hall 4 (by decide))
        obtain ⟨x22, hx22⟩ : ∃ x, A.eval (.tmp 22) = x := ⟨_, rfl⟩
        have f22 : (fun v _ => v = (Value.int .i64 (i : Nat))) x22 u8 := by rw [← hx22]; exact hh.got 5 _ 22 rfl rfl (hall 5 (by decide))
        obtain ⟨x23, hx23⟩ : ∃ x, A.eval (.tmp 23) = x := ⟨_, rfl⟩
        have f23 : (fun v _ => v = (Value.pointer (some ⟨fb, go + i * 2, none⟩))) x23 u8 := by rw [← hx23]; exact hh.got 6 _ 23 rfl rfl (hall 6 (by decide))
        obtain ⟨x24, hx24⟩ : ∃ x, A.eval (.tmp 24) = x := ⟨_, rfl⟩
        have f24 : (fun v _ => v = (Value.agg [Value.string s, Value.slice ca bn cc].toArray)) x24 u8 := by rw [← hx24]; exact hh.got 7 _ 24 rfl rfl (hall 7 (by decide))
        obtain ⟨x25, hx25⟩ : ∃ x, A.eval (.tmp 25) = x := ⟨_, rfl⟩
        have f25 : (fun v _ => v = Value.bool true) x25 u8 := by rw [← hx25]; exact hh.got 8 _ 25 rfl rfl (hall 8 (by decide))
        obtain ⟨x26, hx26⟩ : ∃ x, A.eval (.tmp 26) = x := ⟨_, rfl⟩
        have f26 : (fun v _ => v = (Value.bool false)) x26 u8 := by rw [← hx26]; exact hh.got 9 _ 26 rfl rfl (hall 9 (by decide))
        dsimp only [wrote, List.foldl] at hA
        rw [hx17, hx18, hx19, hx20, hx21, hx22, hx23, hx24, hx25, hx26] at hA
        clear hh hall hx17 hx18 hx19 hx20 hx21 hx22 hx23 hx24 hx25 hx26
        replace f17 := (f17 : x17 = (.slice (some ⟨fa, fo, none⟩) n fc))
        subst f17
        replace f18 := (f18 : x18 = (.int .i64 (i : Nat)))
        subst f18
        replace f19 := (f19 : x19 = (.pointer (some ⟨fa, fo + i * 2, none⟩)))
        subst f19
        replace f20 := (f20 : x20 = (.agg [Value.string s, .slice ba bn bc].toArray))
        subst f20
        replace f21 := (f21 : x21 = (.slice (some ⟨fb, go, none⟩) n gc))
        subst f21
        replace f22 := (f22 : x22 = (.int .i64 (i : Nat)))
        subst f22
        replace f23 := (f23 : x23 = (.pointer (some ⟨fb, go + i * 2, none⟩)))
        subst f23
        replace f24 := (f24 : x24 = (.agg [Value.string s, .slice ca bn cc].toArray))
        subst f24
        have e25 := (f25 : _ = Value.bool true)
        subst e25
        replace f26 := (f26 : x26 = (.bool false))
        subst f26
        subst hA
        show wpList _ _ _ [] _ _
        unfold wpList
        simp only [Act.put, List.setIfInBounds_toArray, List.set_cons_succ, List.set_cons_zero]
        go_wp2_with fail
        go_roundw
        case rel => exact ⟨i + 1, by go_num, by omega, hid (gtrans HG.out HU.out)⟩
        case measure => simp [intOf]; omega
    · as_aux_lemma =>
      have hge : ¬ (i : Int) < (n : Int) := by omega
      go_wp2_with fail
      go_ret
      exact ⟨rfl, HG.out⟩
end Go.Proofs.YtlgjmdianmijeaaGreat

namespace Go.Proofs.YtlgjmdianmijeaaGreat
open Go Go.RowKit Go.MapKept Go.MuLone
open Go.RowKit (wrap32 wrap64)

/-- An operation, as its cells tell it. -/
structure Opv where
  dv : Int
  on : Int
  nm : ByteArray
  to : ByteArray
  ba : Option Addr
  bn : Nat
  bc : Nat
  bs : List UInt8
  nv : Int
  kv : Int
  fa : Option Addr
  fn : Nat
  fc : Nat
  L : Cn
def Opv.cells (o : Opv) : List Value := [.int .i64 o.dv, .int .i64 o.on, .string o.nm, .string o.to, .slice o.ba o.bn o.bc, .int .i64 o.nv, .int .i64 o.kv, .slice o.fa o.fn o.fc]
/-- What it holds can be read; its memory lies in F. -/
structure Opv.In (o : Opv) (w : World) (F : Nat → Prop) : Prop where
  b : Rd w F (.slice o.ba o.bn o.bc) o.bs
  f : o.fn = o.L.length ∧ ∃ g off, ArF w F o.fa g off o.L
  bl : o.bs.length ≤ 140737488355328
  fl : ∀ p ∈ o.L, p.2.length ≤ 140737488355328
  ln : o.fn ≤ 140737488355328
theorem Opv.In.keep {o : Opv} {w w' : World} {F : Nat → Prop} (h : o.In w F) (hg : w.grownBy w' none) : o.In w' F := by
  obtain ⟨h1, ⟨h2, g, off, h3⟩, h4, h5, h6⟩ := h
  exact ⟨h1.keep hg, ⟨h2, g, off, h3.keep hg⟩, h4, h5, h6⟩
theorem Opv.one (o : Opv) : ∀ v ∈ o.cells, v.oneCell' = true := fun v hv => by
  simp only [Opv.cells, List.mem_cons, List.not_mem_nil, or_false] at hv
  rcases hv with rfl | rfl | rfl | rfl | rfl | rfl | rfl | rfl <;> rfl
set_option maxRecDepth 100000 in
set_option maxHeartbeats 4000000 in
theorem opSize_any (w : World) (o : Opv) (F : Nat → Prop) (h : o.In w F) : Calls Tryz.prog 21 #[.agg o.cells.toArray] w fun e w' => (∃ z : Nat, e = .returned (.int .i64 z) ∧ o.bs.length ≤ z ∧ z ≤ 281474976710656) ∧ w.grownBy w' none := by
  obtain ⟨dv, on, nm, to, ba, bn, bc, bs, nv, kv, fa, fn, fc, L⟩ := o
  obtain ⟨hb, ⟨hfn, g, off, hA⟩, hbl, hfl, hln⟩ := h
  have HA : Hid (∀ u, w.grownBy u none → ArF u F fa g off L) := hid (fun u hu => hA.keep hu)
  have HFn : Hid (fn = L.length) := hid hfn
  have HFl : Hid (∀ p ∈ L, p.2.length ≤ 140737488355328) := hid hfl
  have hbn : bs.length = bn := by obtain ⟨_, _, _, _, e, _⟩ := hb; injection e with _ e _; exact e.symm
  have hbl' : bn ≤ 140737488355328 := by rw [← hbn]; exact hbl
  have hln' : fn ≤ 140737488355328 := hln
  show Calls Tryz.prog 21 #[.agg [Value.int .i64 dv, .int .i64 on, .string nm, .string to, .slice ba bn bc, .int .i64 nv, .int .i64 kv, .slice fa fn fc].toArray] w fun e w' => (∃ z : Nat, e = .returned (.int .i64 z) ∧ bs.length ≤ z ∧ z ≤ 281474976710656) ∧ w.grownBy w' none
  rw [hbn]
  clear hb hA hbl hfl hbn hfn hln
  go_enter Tryz.func21, Tryz.ntmps21
  go_upto_region 3 with ((with_reducible refine wpList_box_row (by with_unfolding_all rfl) 83 _ (by with_unfolding_all rfl) [Value.int .i64 dv, .int .i64 on, .string nm, .string to, .slice ba bn bc, .int .i64 nv, .int .i64 kv, .slice fa fn fc] (by with_unfolding_all rfl) ?_); intro w1 B1 s1 g1; have HB1 := hid B1; have HG1 := hid g1; have c4 := B1.cell 4; have c7 := B1.cell 7; clear B1 s1 g1)
  go_loopw [4, 3] (fun iv zv wr => ∃ i z : Nat, iv = .int .i64 i ∧ zv = .int .i64 z ∧ i ≤ fn ∧ bn ≤ z ∧ z ≤ 281474976710656 ∧ Hid (wr = w1)) (fun iv _ _ => fn - (intOf iv).toNat)
  case atStart => exact ⟨0, bn, rfl, rfl, by omega, by omega, by omega, hid rfl⟩
  case round =>
    obtain ⟨i, z, rfl, rfl, hi, hz1, hz2, HW⟩ := hrel
    have hw := HW.out
    subst hw
    by_cases hlt : i < fn
    · have hlt' : (i : Int) < (fn : Int) := by omega
      by_cases hz : z ≤ 1048576
      · have hz' : (z : Int) ≤ 1048576 := by omega
        have hiL : i < L.length := by rw [← HFn.out]; exact hlt
        obtain ⟨rfl, -⟩ := (HA.out wr HG1.out).at_ (by omega)
        have HE := hid ((HA.out wr HG1.out).each i hiL)
        obtain ⟨v, hv1, hv2⟩ := HE.out.2
        have HLl : Hid ((L[i]).2.length ≤ 140737488355328) := hid (HFl.out _ (List.getElem_mem _))
        obtain ⟨q, Hq⟩ : ∃ x, Hid ((L[i]).2 = x) := ⟨_, hid rfl⟩
        rw [Hq.out] at hv2 HLl
        obtain ⟨xa, -, -, xc, rfl, -⟩ := hv2
        obtain ⟨xn, hxn⟩ : ∃ x, q.length = x := ⟨_, rfl⟩
        rw [hxn] at hv1
        have hxl : xn ≤ 140737488355328 := by rw [← hxn]; exact HLl.out
        clear hxn
        go_wp2_with fail
        go_roundw
        case rel => exact ⟨i + 1, z + xn + 100, by go_num, by go_num, by omega, by omega, by omega, hid trivial⟩
        case measure => simp [intOf]; omega
      · have hz' : ¬ (z : Int) ≤ 1048576 := by omega
        go_wp2_with fail
        go_ret
        exact ⟨⟨z, rfl, by omega, by omega⟩, HG1.out⟩
    · have hlt' : ¬ (i : Int) < (fn : Int) := by omega
      go_wp2_with fail
      go_ret
      exact ⟨⟨z, rfl, by omega, by omega⟩, HG1.out⟩
/-- What do tells, and what becomes of the disk. -/
def Ab.doE (A : Ab) (o : Opv) : Int := if o.dv = 1 then A.appE o.nm o.bs else if o.dv = 2 then A.cutE o.nm o.nv else if o.dv = 3 then A.renE o.nm o.to else if o.dv = 4 then A.remE o.nm else 0
def Ab.doA (A : Ab) (o : Opv) : Ab := if o.dv = 1 then A.app o.nm o.bs else if o.dv = 2 then A.cut o.nm o.nv else if o.dv = 3 then A.ren o.nm o.to else if o.dv = 4 then A.rem o.nm else A
def Opv.isDo (o : Opv) : Bool := decide (o.dv = 1) || decide (o.dv = 2) || decide (o.dv = 3) || decide (o.dv = 4)
variable {w w' : World} {B b : Nat} {A : Ab} {P : Nat → Prop}
end Go.Proofs.YtlgjmdianmijeaaGreat

namespace Go.Proofs.YtlgjmdianmijeaaGreat
open Go Go.RowKit Go.MapKept Go.MuLone
open Go.RowKit (wrap32 wrap64)

def NdC (C : Cn) : Prop := (C.map (·.1)).Nodup
theorem get_set : ∀ (C : Cn) (s : ByteArray) (l : List UInt8) (t : ByteArray), getC (setC C s l) t = if t = s then some l else getC C t
  | [], s, l, t => by
    unfold setC getC
    by_cases e : t = s
    · rw [if_pos e, if_pos e.symm]
    · rw [if_neg e, if_neg (fun q => e q.symm)]; rfl
  | p :: C, s, l, t => by
    unfold setC
    by_cases e : p.1 = s
    · rw [if_pos e]
      unfold getC
      by_cases q : t = s
      · rw [if_pos q, if_pos q.symm]
      · rw [if_neg q, if_neg (fun z => q z.symm), if_neg (fun z => q (by rw [← z, e]))]
    · rw [if_neg e]
      unfold getC
      rw [get_set C s l t]
      by_cases q : p.1 = t
      · rw [if_pos q, if_pos q, if_neg (fun z => e (q.trans z))]
      · rw [if_neg q, if_neg q]
theorem get_none : ∀ {C : Cn} {s : ByteArray}, s ∉ C.map (·.1) → getC C s = none
  | [], s, _ => rfl
  | p :: C, s, h => by
    simp only [List.map_cons, List.mem_cons, not_or] at h
    unfold getC
    rw [if_neg (fun e => h.1 e.symm)]
    exact get_none h.2
theorem get_del : ∀ (C : Cn) (s t : ByteArray), NdC C → getC (delC C s) t = if t = s then none else getC C t
  | [], s, t, _ => by unfold delC getC; split <;> rfl
  | p :: C, s, t, h => by
    have h' : p.1 ∉ C.map (·.1) ∧ (C.map (·.1)).Nodup := List.nodup_cons.1 h
    unfold delC
    by_cases e : p.1 = s
    · rw [if_pos e]
      by_cases q : t = s
      · rw [if_pos q, q, ← e]; exact get_none h'.1
      · rw [if_neg q]
        conv => rhs; unfold getC
        rw [if_neg (fun z => q (by rw [← z, e]))]
    · rw [if_neg e]
      unfold getC
      rw [get_del C s t h'.2]
      by_cases q : p.1 = t
      · rw [if_pos q, if_pos q, if_neg (fun z => e (q.trans z))]
      · rw [if_neg q, if_neg q]
theorem get_mem : ∀ {C : Cn} {p : ByteArray × List UInt8}, NdC C → p ∈ C → getC C p.1 = some p.2
  | [], p, _, h => by cases h
  | q :: C, p, hn, h => by
    have h' : q.1 ∉ C.map (·.1) ∧ (C.map (·.1)).Nodup := List.nodup_cons.1 hn
    unfold getC
    rcases List.mem_cons.1 h with rfl | h
    · rw [if_pos rfl]
    · rw [if_neg (fun e => h'.1 (by rw [e]; exact List.mem_map.2 ⟨p, h, rfl⟩))]
      exact get_mem h'.2 h
theorem mem_get : ∀ {C : Cn} {s : ByteArray} {l : List UInt8}, getC C s = some l → (s, l) ∈ C
  | [], s, l, h => by cases h
  | q :: C, s, l, h => by
    unfold getC at h
    by_cases e : q.1 = s
    · rw [if_pos e] at h
      injection h with h
      rw [← e, ← h]
      exact List.mem_cons_self ..
    · rw [if_neg e] at h
      exact List.mem_cons_of_mem _ (mem_get h)
theorem ba_back (s : ByteArray) : (⟨s.data.toList.toArray⟩ : ByteArray) = s := by cases s; rfl
theorem srt_names (C : Cn) : ((srtC C).map (·.1)).Perm (C.map (·.1)) := by
  have h1 : (srtC C).map (·.1) = (srtL (C.map (fun p => p.1.data.toList))).map (fun n => (⟨n.toArray⟩ : ByteArray)) := by
    unfold srtC
    rw [List.map_map]
    rfl
  rw [h1]
  have h2 : ((srtL (C.map (fun p => p.1.data.toList))).map (fun n => (⟨n.toArray⟩ : ByteArray))).Perm ((C.map (fun p => p.1.data.toList)).map (fun n => (⟨n.toArray⟩ : ByteArray))) := (List.mergeSort_perm _ leB).map _
  refine h2.trans (List.Perm.of_eq ?_)
  rw [List.map_map]
  refine List.map_congr_left fun p _ => ?_
  exact ba_back p.1
theorem srt_nd {C : Cn} (h : NdC C) : NdC (srtC C) := (srt_names C).nodup_iff.2 h
theorem srt_mem {C : Cn} {p : ByteArray × List UInt8} (hn : NdC C) (h : p ∈ srtC C) : getC C p.1 = some p.2 := by
  unfold srtC at h
  obtain ⟨n, h1, h2⟩ := List.mem_map.1 h
  have h3 : n ∈ C.map (fun p => p.1.data.toList) := (List.mergeSort_perm _ leB).mem_iff.1 h1
  obtain ⟨q, hq, he⟩ := List.mem_map.1 h3
  have h4 : (⟨n.toArray⟩ : ByteArray) = q.1 := by rw [← he]
  rw [← h2]
  show getC C ⟨n.toArray⟩ = some ((getC C ⟨n.toArray⟩).getD [])
  rw [h4, get_mem hn hq]
  rfl
theorem get_srt {C : Cn} (hn : NdC C) (s : ByteArray) : getC (srtC C) s = getC C s := by
  by_cases h : s ∈ C.map (·.1)
  · obtain ⟨p, hp, rfl⟩ := List.mem_map.1 h
    have h1 : p.1 ∈ (srtC C).map (·.1) := (srt_names C).mem_iff.2 (List.mem_map.2 ⟨p, hp, rfl⟩)
    obtain ⟨q, hq, he⟩ := List.mem_map.1 h1
    have he' : q.1 = p.1 := he
    have h2 := srt_mem hn hq
    have h3 := get_mem (srt_nd hn) hq
    rw [he'] at h2 h3
    rw [h2, h3]
  · rw [get_none h, get_none (fun q => h ((srt_names C).mem_iff.1 q))]
theorem srt_ext {C D : Cn} (h1 : (C.map (·.1)).Perm (D.map (·.1))) (h2 : ∀ s, getC C s = getC D s) : srtC C = srtC D := by
  have h3 : srtL (C.map (fun p => p.1.data.toList)) = srtL (D.map (fun p => p.1.data.toList)) := by
    refine mergeSort_of_perm ?_
    have := h1.map (fun s : ByteArray => s.data.toList)
    rw [List.map_map, List.map_map] at this
    exact this
  unfold srtC
  rw [h3]
  refine List.map_congr_left fun n _ => ?_
  rw [h2]
theorem del_names : ∀ (C : Cn) (s : ByteArray), (getC C s).isSome = true → (C.map (·.1)).Perm (s :: (delC C s).map (·.1))
  | [], s, h => by cases h
  | p :: C, s, h => by
    unfold delC
    unfold getC at h
    by_cases e : p.1 = s
    · rw [if_pos e, List.map_cons, e]
    · rw [if_neg e] at h ⊢
      rw [List.map_cons, List.map_cons]
      exact ((del_names C s h).cons p.1).trans (List.Perm.swap ..)
theorem set_new : ∀ (C : Cn) (s : ByteArray) (l : List UInt8), getC C s = none → setC C s l = C ++ [(s, l)]
  | [], s, l, _ => rfl
  | p :: C, s, l, h => by
    unfold getC at h
    by_cases e : p.1 = s
    · rw [if_pos e] at h; cases h
    · rw [if_neg e] at h
      unfold setC
      rw [if_neg e, set_new C s l h]
      rfl
theorem self_srt {C : Cn} {s : ByteArray} {old : List UInt8} (hn : NdC C) (h : getC C s = some old) : srtC (setC (delC C s) s old) = srtC C := by
  have hd : getC (delC C s) s = none := by rw [get_del C s s hn, if_pos rfl]
  refine srt_ext ?_ (fun t => ?_)
  · rw [set_new _ _ _ hd, List.map_append]
    refine (List.perm_append_comm).trans ?_
    exact (del_names C s (by rw [h]; rfl)).symm
  · rw [get_set, get_del C s t hn]
    by_cases e : t = s
    · rw [if_pos e, e, h]
    · rw [if_neg e, if_neg e]
variable {w w' : World} {B b : Nat} {A : Ab} {P : Nat → Prop}
theorem DkP.nd (h : DkP w B b A P) : NdC A.C := by
  obtain ⟨_, m, F, h2, h3, _⟩ := h
  have := h2.map.nodup
  unfold NdC
  rw [← h3]
  unfold cont
  rw [List.map_map]
  exact this
/-- A disk that is not armed and has its power. -/
def Ab.calm (A : Ab) : Prop := A.off = false ∧ A.ar = 0
end Go.Proofs.YtlgjmdianmijeaaGreat

namespace Go.Proofs.YtlgjmdianmijeaaGreat
open Go Go.RowKit Go.MapKept Go.MuLone
open Go.RowKit (wrap32 wrap64)

theorem out_ne {B : Nat} {w : World} {v : Value} {l : List UInt8} {g : Nat} {cs : List Value} {t : TypeId} (h : Out B w v l) (hb : Blk w g cs t) (ht : t ≠ 5) : v.ownBlock ≠ some g := fun e => by
  rcases h.2 with ⟨h1, _⟩ | ⟨g', cap, cur, hv, hB, hgg, _⟩
  · rw [h1] at e; cases e
  · rw [hv] at e
    injection e with e
    have e' : g' = g := e
    subst e'
    unfold Blk at hb
    rw [hgg] at hb
    injection hb with hb
    injection hb with _ hb
    exact ht hb.symm
variable {w w' : World} {B b m : Nat} {lk room : Int} {off : Bool} {wr ar kp : Int} {F : List Fl}
set_option maxRecDepth 100000 in
theorem room_any (h : Dk w B b m 0 room off wr ar kp F) : Calls Tryz.prog 42 #[.pointer (some ⟨b, 0, none⟩)] w fun e w' => e = .returned (.int .i64 room) ∧ w.grownBy w' none := by
  have HD := hid h
  have HL := hid (lock_any h)
  clear h
  go_enter_defers Tryz.func42, Tryz.ntmps42
  go_wp2_with (go_at_call 43; refine HL.out.mono ?_; rintro e w1 ⟨rfl, hd, hg⟩; have HD1 := hid hd; have HG1 := hid hg; have y5 := hd.c.2.1; clear hd hg)
  refine leaves_cons (f := 44) (args := #[.pointer (some ⟨b, 0, none⟩)]) (by simp) (by simp [go_sem]) ?_
  refine (unlock_any .returning HD1.out).mono ?_
  rintro e u' w2 ⟨rfl, rfl, hd2, hg2⟩
  exact ⟨_, results_tmp rfl _ _ _, rfl, back_same HD.out.blk (gtrans HG1.out hg2) hd2.blk⟩
set_option maxRecDepth 100000 in
theorem load_no (w : World) (a : Option Addr) (n c : Nat) (room : Int) (h : room < 1 ∨ 268435456 < room) : Calls Tryz.prog 76 #[.slice a n c, .int .i64 room] w fun e w' => e = .returned (.tuple #[.pointer none, .int .i64 90]) ∧ w' = w := by
  have HNw := hid (new_no w room h)
  clear h
  go_enter Tryz.func76, Tryz.ntmps76
  go_wp2_with (go_at_call 11; (with_reducible refine HNw.out.mono ?_); rintro e w3 ⟨rfl, hw3⟩; have hw3' := hw3.symm; clear hw3; subst hw3')
  refine bodyPost_ret (results_tmp2 rfl _ _ _) rfl ?_
  exact ⟨rfl, rfl⟩
/-- Over: a row of the caller's own is written over. -/
theorem Out.set {B : Nat} {w : World} {g n c : Nat} {l : List UInt8} (h : Out B w (.slice (some ⟨g, 0, none⟩) n c) l) (i : Nat) (x : UInt8) : Out B (w.setCell ⟨g, i, none⟩ (.int .u8 x.toNat)) (.slice (some ⟨g, 0, none⟩) n c) (l.set i x) := by
  rcases h.2 with ⟨e, _⟩ | ⟨g', cap, cur, e, hb, hg, hle, hm, hs, ht⟩
  · cases e
  · injection e with e1 e2 e3
    injection e1 with e1
    injection e1 with e1 _ _
    subst e1
    subst e3
    refine ⟨by rw [byteCells_length, Nat.mul_one], .inr ⟨g, c, cur.setIfInBounds i (.int .u8 x.toNat), by rw [List.length_set, e2], hb, ?_, by rw [List.length_set]; exact hle, hm, by simpa using hs, ?_⟩⟩
    · exact Go.Joins.block_setCell hg _
    · rw [Array.toList_setIfInBounds, List.length_set]
      rw [List.take_set, ht]
      unfold Lib.byteCells
      rw [List.map_set]
theorem gtr_own {w w1 w2 : World} {g : Option Nat} (h : w.grownBy w1 g) (k : w1.grownBy w2 g) : w.grownBy w2 g := gtrans h k
set_option maxRecDepth 100000 in
set_option maxHeartbeats 800000 in
theorem over_any (w : World) (B : Nat) (v : Value) (l : List UInt8) (hv : Out B w v l) (hl : l.length ≤ 140737488355328) :
    Calls Tryz.prog 55 #[v] w fun e w' => e = .returned (.tuple #[]) ∧ w.grownBy w' v.ownBlock ∧ ∃ l', Out B w' v l' ∧ l'.length = l.length := by
  by_cases h0 : l = []
  · subst h0
    obtain ⟨a, c, rfl⟩ := hv.len
    have HV := hid hv
    clear hv hl
    go_enter Tryz.func55, Tryz.ntmps55
    go_upto_region 1 with fail
    go_loopw [2] (fun iv wr => iv = .int .i64 0 ∧ Hid (wr = w)) (fun _ _ => 0)
    case atStart => exact ⟨rfl, hid rfl⟩
    case round =>
      obtain ⟨rfl, HW⟩ := hrel
      have hw := HW.out
      subst hw
      go_wp2_with fail
      go_end0
      first | exact ⟨rfl, grefl _ _, HV.out⟩ | exact ⟨rfl, grefl _ _, [], HV.out, rfl⟩
  · obtain ⟨g, c, e⟩ : ∃ g c, v = .slice (some ⟨g, 0, none⟩) l.length c := by
      rcases hv.2 with ⟨_, e2⟩ | ⟨g, c, cur, e, _⟩
      · exact absurd (List.eq_nil_of_length_eq_zero e2) h0
      · exact ⟨g, c, e⟩
    subst e
    have HV := hid hv
    obtain ⟨n, hn⟩ : ∃ n, l.length = n := ⟨_, rfl⟩
    rw [hn] at HV hl ⊢
    clear hv
    go_enter Tryz.func55, Tryz.ntmps55
    go_upto_region 1 with fail
    go_loopw [2] (fun iv wr => ∃ i : Nat, iv = .int .i64 i ∧ i ≤ n ∧ Hid (w.grownBy wr (some g) ∧ ∃ l', Out B wr (.slice (some ⟨g, 0, none⟩) n c) l' ∧ l'.length = n)) (fun iv _ => n - (intOf iv).toNat)
    case atStart => exact ⟨0, rfl, Nat.zero_le _, hid ⟨grefl _ _, l, HV.out, hn⟩⟩
    case round =>
      obtain ⟨i, rfl, hi, HC⟩ := hrel
      by_cases hlt : i < n
      · have hlt' : (i : Int) < (n : Int) := by omega
        obtain ⟨l', HO⟩ : ∃ l', Hid (Out B wr (.slice (some ⟨g, 0, none⟩) n c) l' ∧ l'.length = n) := ⟨HC.out.2.choose, hid HC.out.2.choose_spec⟩
        have hcell : ∃ y, wr.cell? ⟨g, i, none⟩ = some y ∧ wr.frozen? ⟨g, i, none⟩ = false := by
          rcases HO.out.1.2 with ⟨e, _⟩ | ⟨g', cap, cur, e, hb, hg, hle, hm, hs, ht⟩
          · cases e
          · injection e with e1 e2 e3
            injection e1 with e1
            injection e1 with e1 _ _
            subst e1
            refine ⟨cur[i]'(by omega), by simp [World.cell?, hg], by simp [World.frozen?, hg]⟩
        obtain ⟨y, hc1, hc2⟩ := hcell
        have HN : Hid (w.grownBy (wr.setCell ⟨g, i, none⟩ (.int .u8 238)) (some g) ∧ ∃ l', Out B (wr.setCell ⟨g, i, none⟩ (.int .u8 238)) (.slice (some ⟨g, 0, none⟩) n c) l' ∧ l'.length = n) := hid ⟨gtr_own HC.out.1 (gset wr ⟨g, i, none⟩ (.int .u8 238)), l'.set i 238, HO.out.1.set i 238, by rw [List.length_set]; exact HO.out.2⟩
        clear HC HO
        go_wp2_with fail
        go_roundw
        case rel => exact ⟨i + 1, by go_num, by omega, HN⟩
        case measure => simp [intOf]; omega
      · have hlt' : ¬ (i : Int) < (n : Int) := by omega
        go_wp2_with fail
        go_end0
        exact ⟨rfl, HC.out⟩
end Go.Proofs.YtlgjmdianmijeaaGreat
