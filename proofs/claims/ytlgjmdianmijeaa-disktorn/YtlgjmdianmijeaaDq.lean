/- EqFile, EqFiles of like files; others. -/
import Derived.Test.YtlgjmdianmijeaaDp
namespace Go.Proofs.Ytlgjmdianmijeaa
open Go Go.RowKit Go.MapKept Go.MuLone
open Go.RowKit (wrap32 wrap64)

theorem ifw_undef {o : Oper} {ops : Array Oper} {A : Act} {X Y : Prop} (j : Nat) (b : Bool) (d : Tmp) (hg : o.guard = some (j, b)) (hd : ((ops[j]?).bind (·.dst)) = some d) (hb : A.eval (.tmp d) = undef) (h : Y) : if Region.wanted o (yielded ops A.tmps) = true then X else Y := by
  have hy : yielded ops A.tmps j = none := by
    unfold yielded
    rw [hd]
    have h2 : A.tmps.getD d undef = undef := hb
    rw [Array.getD_eq_getD_getElem?] at h2
    show (match A.tmps[d]? with | some (.bool b) => some b | _ => none) = none
    cases e : A.tmps[d]? with
    | none => rfl
    | some v => rw [e] at h2; have h3 : v = undef := h2; subst h3; rfl
  rw [if_neg (by simp [Region.wanted, hg, hy])]
  exact h
def SI (i : Nat) : List UInt8 := 170 :: UInt8.ofNat i :: List.replicate 30 0
theorem idx34 (b o n c i : Nat) (h : i < n) (u : World) : (Instr.indexAt 34 (.slice (some ⟨b, o, none⟩) n c) (.int .i64 (i : Nat))).run Try.prog u = .ok (.pointer (some ⟨b, o + i * 2, none⟩)) u := by
  have h' : (i : Int) < (n : Int) := by omega
  go_simp
theorem gdrewN (w : World) (k : Nat) (row : Option Nat) : w.grownBy (w.drewN k) row := ⟨rfl, rfl, rfl, Nat.le_refl _, fun _ _ _ => rfl⟩
theorem two_range {w : World} {b o : Nat} {x y : Value} (h1 : w.cell? ⟨b, o, none⟩ = some x) (h2 : w.cell? ⟨b, o + 1, none⟩ = some y) : w.rangeAt b o [x, y] := fun j v hv => by
  rcases (show j = 0 ∨ j = 1 ∨ 2 ≤ j by omega) with rfl | rfl | h3
  · have := Option.some.inj hv; subst this; exact h1
  · have := Option.some.inj hv; subst this; exact h2
  · have : ([x, y] : List Value)[j]? = none := by simp; omega
    rw [this] at hv; cases hv
set_option maxRecDepth 100000 in
set_option maxHeartbeats 4000000 in
theorem eqFile_same (w : World) (s : ByteArray) (ba ca : Option Addr) (bn bc cc : Nat) (F G : Nat → Prop) (l : List UInt8) (hx : Rd w F (.slice ba bn bc) l) (hy : Rd w G (.slice ca bn cc) l) (hl : l.length ≤ 140737488355328) :
    Calls Try.prog 39 #[.agg [Value.string s, .slice ba bn bc].toArray, .agg [Value.string s, .slice ca bn cc].toArray] w fun e w' => e = .returned (.bool true) ∧ w.grownBy w' none := by
  have HE : Hid (∀ u, w.grownBy u none → Calls Try.prog 53 #[.slice ba bn bc, .slice ca bn cc] u fun e w' => e = .returned (.bool true) ∧ u.grownBy w' none) := hid (fun u hu => (eq_any u _ _ F G l l (hx.keep hu) (hy.keep hu) hl).mono fun e w' ⟨h1, k, h2⟩ => ⟨by rw [h1]; simp, by rw [h2]; exact gdrewN _ _ _⟩)
  have hss : (s.toList == s.toList) = true := by simp
  clear hx hy
  go_enter Try.func39, Try.ntmps39
  go_wp2_with (first
    | ((with_reducible refine wpList_box_row (by with_unfolding_all rfl) 58 _ (by with_unfolding_all rfl) [Value.string s, .slice ba bn bc] (by with_unfolding_all rfl) ?_); intro w1 B1 s1 g1; have HB1 := hid B1; have HG1 := hid g1; clear B1 s1 g1)
    | ((with_reducible refine wpList_box_row (by with_unfolding_all rfl) 58 _ (by with_unfolding_all rfl) [Value.string s, .slice ca bn cc] (by with_unfolding_all rfl) ?_); intro w2 B2 s2 g2; have HB2 := hid B2; have HG2 := hid g2; have c1 := (HB1.out.keep g2).cell 0; have c2 := (HB1.out.keep g2).cell 1; have c3 := B2.cell 0; have c4 := B2.cell 1; clear B2 s2 g2)
    | (go_at_call 53; refine (HE.out _ (gtrans HG1.out HG2.out)).mono ?_; rintro e w3 ⟨rfl, hg⟩; have HG3 := hid hg; clear hg))
  go_ret
  exact ⟨rfl, gtrans HG1.out (gtrans HG2.out HG3.out)⟩
set_option maxRecDepth 100000 in
set_option maxHeartbeats 4000000 in
theorem eqFiles_same (w : World) (Fa Fb : Nat → Prop) (a a' : Option Addr) (fa fo fc fb go gc : Nat) (L : Cn) (hA : ArF w Fa a fa fo L) (hB : ArF w Fb a' fb go L) (hL : L.length ≤ 1000000) (hb : ∀ p ∈ L, p.2.length ≤ 140737488355328) :
    Calls Try.prog 17 #[.slice a L.length fc, .slice a' L.length gc] w fun e w' => e = .returned (.bool true) ∧ w.grownBy w' none := by
  have HAa : Hid (∀ u, w.grownBy u none → ArF u Fa a fa fo L) := hid (fun u hu => hA.keep hu)
  have HAb : Hid (∀ u, w.grownBy u none → ArF u Fb a' fb go L) := hid (fun u hu => hB.keep hu)
  have HBl := hid hb
  obtain ⟨n, HN⟩ : ∃ n, Hid (L.length = n) := ⟨_, hid rfl⟩
  rw [HN.out] at hL ⊢
  clear hA hB hb
  go_enter Try.func17, Try.ntmps17
  go_wp2_with fail
  go_loopw [5] (fun iv wr => ∃ i : Nat, iv = .int .i64 i ∧ i ≤ n ∧ Hid (w.grownBy wr none)) (fun iv _ => n - (intOf iv).toNat)
  case atStart => exact ⟨0, rfl, by omega, hid (grefl _ _)⟩
  case round =>
    obtain ⟨i, rfl, hi, HG⟩ := hrel
    obtain ⟨w0, hw0⟩ : ∃ x : World, x = wr := ⟨_, rfl⟩
    rw [← hw0] at HG ⊢
    clear hw0
    by_cases hlt : i < n
    · as_aux_lemma =>
      have hlt' : (i : Int) < (n : Int) := by omega
      have hiL : i < L.length := by rw [HN.out]; exact hlt
      obtain ⟨rfl, -⟩ := (HAa.out w0 HG.out).at_ (by omega)
      obtain ⟨rfl, -⟩ := (HAb.out w0 HG.out).at_ (by omega)
      obtain ⟨q, Hq⟩ : ∃ x, Hid (L[i] = x) := ⟨_, hid rfl⟩
      obtain ⟨s, l⟩ := q
      have HC : Hid (w0.cell? ⟨fa, fo + i * 2, none⟩ = some (.string s) ∧ ∃ v, w0.cell? ⟨fa, fo + i * 2 + 1, none⟩ = some v ∧ Rd w0 Fa v l) := hid (by have := (HAa.out w0 HG.out).each i hiL; rw [Hq.out] at this; exact this)
      obtain ⟨v, hv1, hv2⟩ := HC.out.2
      have HV := hid hv2
      obtain ⟨ba, -, -, bc, rfl, -⟩ := hv2
      obtain ⟨bn, HBn⟩ : ∃ x, Hid (l.length = x) := ⟨_, hid rfl⟩
      rw [HBn.out] at HV hv1
      have HD : Hid (w0.cell? ⟨fb, go + i * 2, none⟩ = some (.string s) ∧ ∃ v, w0.cell? ⟨fb, go + i * 2 + 1, none⟩ = some v ∧ Rd w0 Fb v l) := hid (by have := (HAb.out w0 HG.out).each i hiL; rw [Hq.out] at this; exact this)
      obtain ⟨v', hu1, hu2⟩ := HD.out.2
      have HV' := hid hu2
      obtain ⟨ca, -, -, cc, rfl, -⟩ := hu2
      rw [HBn.out] at HV' hu1
      have HLl : Hid (l.length ≤ 140737488355328) := hid (HBl.out (s, l) (by rw [← Hq.out]; exact List.getElem_mem _))
      have HRA : Hid (∀ u, w0.grownBy u none → u.rangeAt fa (fo + i * 2) [.string s, .slice ba bn bc]) := hid (fun u hu => by
        have hb := ((HAa.out w0 HG.out).at_ (by omega)).2.1
        exact two_range ((cell_at hu hb (by simp)).trans HC.out.1) ((cell_at hu hb (by simp)).trans hv1))
      have HRB : Hid (∀ u, w0.grownBy u none → u.rangeAt fb (go + i * 2) [.string s, .slice ca bn cc]) := hid (fun u hu => by
        have hb := ((HAb.out w0 HG.out).at_ (by omega)).2.1
        exact two_range ((cell_at hu hb (by simp)).trans HD.out.1) ((cell_at hu hb (by simp)).trans hu1))
      have HEq : Hid (∀ u, w0.grownBy u none → Calls Try.prog 39 #[.agg [Value.string s, .slice ba bn bc].toArray, .agg [Value.string s, .slice ca bn cc].toArray] u fun e w' => ∃ v, e = .returned v ∧ u.grownBy w' none ∧ v = Value.bool true) := hid (fun u hu => (eqFile_same u s ba ca bn bc cc Fa Fb l (HV.out.keep hu) (HV'.out.keep hu) HLl.out).mono fun e w' ⟨h1, h2⟩ => ⟨_, h1, h2, rfl⟩)
      clear hv1 hu1 HC HD Hq
      go_upto_region 6 with fail
      refine wp_region_listX (by kernel_rfl) [fun v _ => v = (Value.slice (some ⟨fa, fo, none⟩) n fc), fun v _ => v = (Value.int .i64 (i : Nat)), fun v _ => v = (Value.pointer (some ⟨fa, fo + i * 2, none⟩)), fun v _ => v = (Value.agg [Value.string s, Value.slice ba bn bc].toArray), fun v _ => v = (Value.slice (some ⟨fb, go, none⟩) n gc), fun v _ => v = (Value.int .i64 (i : Nat)), fun v _ => v = (Value.pointer (some ⟨fb, go + i * 2, none⟩)), fun v _ => v = (Value.agg [Value.string s, Value.slice ca bn cc].toArray), fun v _ => v = Value.bool true, fun v _ => v = (Value.bool false)] (none) (fun _ => none) 10 (by kernel_rfl) (by kernel_rfl) (by kernel_rfl) (by kernel_rfl) (by decide) noRow_one (fun _ => .inl rfl) ⟨fun i v u u' hki h hg => h, fun i v u u' hki h hg => h, fun i v u u' hki h hg => h, fun i v u u' hki h hg => h, fun i v u u' hki h hg => h, fun i v u u' hki h hg => h, fun i v u u' hki h hg => h, fun i v u u' hki h hg => h, fun i v u u' hki h hg => h, fun i v u u' hki h hg => h, trivial⟩ ⟨?_, ?_, ?_, ?_, ?_, ?_, ?_, ?_, ?_, ?_, trivial⟩ ?_
      · intro A u hu hpu hsz hout hdeps
        have e0 : A.eval (.tmp 0) = (.slice (some ⟨fa, fo, none⟩) n fc) := (hout 0 (by kernel_rfl)).trans rfl
        refine ifw_none rfl ?_
        with_reducible refine shown_q (Value.slice (some ⟨fa, fo, none⟩) n fc) ?qq_1_0 (fun _ _ => ?qr_1_0)
        case qr_1_0 => exact (rfl : (Value.slice (some ⟨fa, fo, none⟩) n fc) = (Value.slice (some ⟨fa, fo, none⟩) n fc))
        with_reducible refine quietAt_mv (.tmp 0) (Value.slice (some ⟨fa, fo, none⟩) n fc) ?h0_1_0 ?h1_1_0
        case h0_1_0 => rfl
        case h1_1_0 => exact e0
      · intro A u hu hpu hsz hout hdeps
        have e5 : A.eval (.tmp 5) = (.int .i64 (i : Nat)) := (hout 5 (by kernel_rfl)).trans rfl
        refine ifw_none rfl ?_
        with_reducible refine shown_q (Value.int .i64 (i : Nat)) ?qq_1_1 (fun _ _ => ?qr_1_1)
        case qr_1_1 => exact (rfl : (Value.int .i64 (i : Nat)) = (Value.int .i64 (i : Nat)))
        with_reducible refine quietAt_mv (.tmp 5) (Value.int .i64 (i : Nat)) ?h0_1_1 ?h1_1_1
        case h0_1_1 => rfl
        case h1_1_1 => exact e5
      · intro A u hu hpu hsz hout hdeps
        have e17 : A.eval (.tmp 17) = (.slice (some ⟨fa, fo, none⟩) n fc) := by have h := depL hdeps 0 (by kernel_rfl) 17 (by kernel_rfl); exact h
        have e18 : A.eval (.tmp 18) = (.int .i64 (i : Nat)) := by have h := depL hdeps 1 (by kernel_rfl) 18 (by kernel_rfl); exact h
        refine ifw_none rfl ?_
        with_reducible refine shown_q (Value.pointer (some ⟨fa, fo + i * 2, none⟩)) ?qq_1_2 (fun _ _ => ?qr_1_2)
        case qr_1_2 => exact (rfl : (Value.pointer (some ⟨fa, fo + i * 2, none⟩)) = (Value.pointer (some ⟨fa, fo + i * 2, none⟩)))
        with_reducible refine quietAt_idx 34 (.tmp 17) (.tmp 18) (Value.slice (some ⟨fa, fo, none⟩) n fc) (Value.int .i64 (i : Nat)) (Value.pointer (some ⟨fa, fo + i * 2, none⟩)) ?h0_1_2 ?h1_1_2 ?h2_1_2 ?h3_1_2
        case h0_1_2 => rfl
        case h1_1_2 => exact e17
        case h2_1_2 => exact e18
        case h3_1_2 => exact idx34 fa fo n fc i hlt u
      · intro A u hu hpu hsz hout hdeps
        have e19 : A.eval (.tmp 19) = (.pointer (some ⟨fa, fo + i * 2, none⟩)) := by have h := depL hdeps 2 (by kernel_rfl) 19 (by kernel_rfl); exact h
        refine ifw_none rfl ?_
        with_reducible refine shown_q (Value.agg [Value.string s, Value.slice ba bn bc].toArray) ?qq_1_3 (fun _ _ => ?qr_1_3)
        case qr_1_3 => exact (rfl : (Value.agg [Value.string s, Value.slice ba bn bc].toArray) = (Value.agg [Value.string s, Value.slice ba bn bc].toArray))
        with_reducible refine quietAt_load 58 (.tmp 19) ?h0_1_3 fa (fo + i * 2) [Value.string s, Value.slice ba bn bc] (.struct (Try.prog.fieldsOf 58)) ?h1_1_3 ?h2_1_3 ?h3_1_3 ?h4_1_3 ?h5_1_3
        case h0_1_3 => rfl
        case h1_1_3 => exact e19
        case h2_1_3 => exact (HRA.out u hu)
        case h3_1_3 => exact Try.underlying58
        case h4_1_3 => rfl
        case h5_1_3 => exact Try.size58
      · intro A u hu hpu hsz hout hdeps
        have e1 : A.eval (.tmp 1) = (.slice (some ⟨fb, go, none⟩) n gc) := (hout 1 (by kernel_rfl)).trans rfl
        refine ifw_none rfl ?_
        with_reducible refine shown_q (Value.slice (some ⟨fb, go, none⟩) n gc) ?qq_1_4 (fun _ _ => ?qr_1_4)
        case qr_1_4 => exact (rfl : (Value.slice (some ⟨fb, go, none⟩) n gc) = (Value.slice (some ⟨fb, go, none⟩) n gc))
        with_reducible refine quietAt_mv (.tmp 1) (Value.slice (some ⟨fb, go, none⟩) n gc) ?h0_1_4 ?h1_1_4
        case h0_1_4 => rfl
        case h1_1_4 => exact e1
      · intro A u hu hpu hsz hout hdeps
        have e5 : A.eval (.tmp 5) = (.int .i64 (i : Nat)) := (hout 5 (by kernel_rfl)).trans rfl
        refine ifw_none rfl ?_
        with_reducible refine shown_q (Value.int .i64 (i : Nat)) ?qq_1_5 (fun _ _ => ?qr_1_5)
        case qr_1_5 => exact (rfl : (Value.int .i64 (i : Nat)) = (Value.int .i64 (i : Nat)))
        with_reducible refine quietAt_mv (.tmp 5) (Value.int .i64 (i : Nat)) ?h0_1_5 ?h1_1_5
        case h0_1_5 => rfl
        case h1_1_5 => exact e5
      · intro A u hu hpu hsz hout hdeps
        have e21 : A.eval (.tmp 21) = (.slice (some ⟨fb, go, none⟩) n gc) := by have h := depL hdeps 4 (by kernel_rfl) 21 (by kernel_rfl); exact h
        have e22 : A.eval (.tmp 22) = (.int .i64 (i : Nat)) := by have h := depL hdeps 5 (by kernel_rfl) 22 (by kernel_rfl); exact h
        refine ifw_none rfl ?_
        with_reducible refine shown_q (Value.pointer (some ⟨fb, go + i * 2, none⟩)) ?qq_1_6 (fun _ _ => ?qr_1_6)
        case qr_1_6 => exact (rfl : (Value.pointer (some ⟨fb, go + i * 2, none⟩)) = (Value.pointer (some ⟨fb, go + i * 2, none⟩)))
        with_reducible refine quietAt_idx 34 (.tmp 21) (.tmp 22) (Value.slice (some ⟨fb, go, none⟩) n gc) (Value.int .i64 (i : Nat)) (Value.pointer (some ⟨fb, go + i * 2, none⟩)) ?h0_1_6 ?h1_1_6 ?h2_1_6 ?h3_1_6
        case h0_1_6 => rfl
        case h1_1_6 => exact e21
        case h2_1_6 => exact e22
        case h3_1_6 => exact idx34 fb go n gc i hlt u
      · intro A u hu hpu hsz hout hdeps
        have e23 : A.eval (.tmp 23) = (.pointer (some ⟨fb, go + i * 2, none⟩)) := by have h := depL hdeps 6 (by kernel_rfl) 23 (by kernel_rfl); exact h
        refine ifw_none rfl ?_
        with_reducible refine shown_q (Value.agg [Value.string s, Value.slice ca bn cc].toArray) ?qq_1_7 (fun _ _ => ?qr_1_7)
        case qr_1_7 => exact (rfl : (Value.agg [Value.string s, Value.slice ca bn cc].toArray) = (Value.agg [Value.string s, Value.slice ca bn cc].toArray))
        with_reducible refine quietAt_load 58 (.tmp 23) ?h0_1_7 fb (go + i * 2) [Value.string s, Value.slice ca bn cc] (.struct (Try.prog.fieldsOf 58)) ?h1_1_7 ?h2_1_7 ?h3_1_7 ?h4_1_7 ?h5_1_7
        case h0_1_7 => rfl
        case h1_1_7 => exact e23
        case h2_1_7 => exact (HRB.out u hu)
        case h3_1_7 => exact Try.underlying58
        case h4_1_7 => rfl
        case h5_1_7 => exact Try.size58
      · intro A u hu hpu hsz hout hdeps
        have e20 : A.eval (.tmp 20) = (.agg [Value.string s, .slice ba bn bc].toArray) := by have h := depL hdeps 3 (by kernel_rfl) 20 (by kernel_rfl); exact h
        have e24 : A.eval (.tmp 24) = (.agg [Value.string s, .slice ca bn cc].toArray) := by have h := depL hdeps 7 (by kernel_rfl) 24 (by kernel_rfl); exact h
        refine ifw_none rfl ?_
        with_reducible refine shown_call 39 Try.f39 ?h0_1_8 ?h1_1_8 ?h2_1_8 #[.tmp 20, .tmp 24] #[58, 58] ?h3_1_8 #[(Value.agg [Value.string s, Value.slice ba bn bc].toArray), (Value.agg [Value.string s, Value.slice ca bn cc].toArray)] ?h4_1_8 ?h5_1_8
        case h0_1_8 => exact Try.func39
        case h1_1_8 => kernel_rfl
        case h2_1_8 => kernel_rfl
        case h3_1_8 => rfl
        case h4_1_8 => exact map2 _ _ _ _ _ e20 e24
        case h5_1_8 => exact HEq.out u hu
      · intro A u hu hpu hsz hout hdeps
        have f25 : (fun v _ => v = Value.bool true) (A.eval (.tmp 25)) u := by have h := depL hdeps 8 (by kernel_rfl) 25 (by kernel_rfl); exact h
        have e25 := (f25 : _ = Value.bool true)
        refine ifw_none rfl ?_
        with_reducible refine shown_q (Value.bool false) ?qq_1_9 (fun _ _ => ?qr_1_9)
        case qr_1_9 => exact (rfl : (Value.bool false) = (Value.bool false))
        with_reducible refine quietAt_un .not 4 (.tmp 25) (Value.bool true) (Value.bool false) ?h0_1_9 ?h1_1_9 ?h2_1_9
        case h0_1_9 => rfl
        case h1_1_9 => exact e25
        case h2_1_9 => rfl
      · intro A u8 listed hh hall
        have hA := hh.frame
        have HU := hid hh.grown
        obtain ⟨x17, hx17⟩ : ∃ x, A.eval (.tmp 17) = x := ⟨_, rfl⟩
        have f17 : (fun v _ => v = (Value.slice (some ⟨fa, fo, none⟩) n fc)) x17 u8 := by rw [← hx17]; exact hh.got 0 _ 17 rfl rfl (hall 0 (by decide))
        obtain ⟨x18, hx18⟩ : ∃ x, A.eval (.tmp 18) = x := ⟨_, rfl⟩
        have f18 : (fun v _ => v = (Value.int .i64 (i : Nat))) x18 u8 := by rw [← hx18]; exact hh.got 1 _ 18 rfl rfl (hall 1 (by decide))
        obtain ⟨x19, hx19⟩ : ∃ x, A.eval (.tmp 19) = x := ⟨_, rfl⟩
        have f19 : (fun v _ => v = (Value.pointer (some ⟨fa, fo + i * 2, none⟩))) x19 u8 := by rw [← hx19]; exact hh.got 2 _ 19 rfl rfl (hall 2 (by decide))
        obtain ⟨x20, hx20⟩ : ∃ x, A.eval (.tmp 20) = x := ⟨_, rfl⟩
        have f20 : (fun v _ => v = (Value.agg [Value.string s, Value.slice ba bn bc].toArray)) x20 u8 := by rw [← hx20]; exact hh.got 3 _ 20 rfl rfl (hall 3 (by decide))
        obtain ⟨x21, hx21⟩ : ∃ x, A.eval (.tmp 21) = x := ⟨_, rfl⟩
        have f21 : (fun v _ => v = (Value.slice (some ⟨fb, go, none⟩) n gc)) x21 u8 := by rw [← hx21]; exact hh.got 4 _ 21 rfl rfl (hall 4 (by decide))
        obtain ⟨x22, hx22⟩ : ∃ x, A.eval (.tmp 22) = x := ⟨_, rfl⟩
        have f22 : (fun v _ => v = (Value.int .i64 (i : Nat))) x22 u8 := by rw [← hx22]; exact hh.got 5 _ 22 rfl rfl (hall 5 (by decide))
        obtain ⟨x23, hx23⟩ : ∃ x, A.eval (.tmp 23) = x := ⟨_, rfl⟩
        have f23 : (fun v _ => v = (Value.pointer (some ⟨fb, go + i * 2, none⟩))) x23 u8 := by rw [← hx23]; exact hh.got 6 _ 23 rfl rfl (hall 6 (by decide))
        obtain ⟨x24, hx24⟩ : ∃ x, A.eval (.tmp 24) = x := ⟨_, rfl⟩
        have f24 : (fun v _ => v = (Value.agg [Value.string s, Value.slice ca bn cc].toArray)) x24 u8 := by rw [← hx24]; exact hh.got 7 _ 24 rfl rfl (hall 7 (by decide))
        obtain ⟨x25, hx25⟩ : ∃ x, A.eval (.tmp 25) = x := ⟨_, rfl⟩
        have f25 : (fun v _ => v = Value.bool true) x25 u8 := by rw [← hx25]; exact hh.got 8 _ 25 rfl rfl (hall 8 (by decide))
        obtain ⟨x26, hx26⟩ : ∃ x, A.eval (.tmp 26) = x := ⟨_, rfl⟩
        have f26 : (fun v _ => v = (Value.bool false)) x26 u8 := by rw [← hx26]; exact hh.got 9 _ 26 rfl rfl (hall 9 (by decide))
        dsimp only [wrote, List.foldl] at hA
        rw [hx17, hx18, hx19, hx20, hx21, hx22, hx23, hx24, hx25, hx26] at hA
        clear hh hall hx17 hx18 hx19 hx20 hx21 hx22 hx23 hx24 hx25 hx26
        replace f17 := (f17 : x17 = (.slice (some ⟨fa, fo, none⟩) n fc))
        subst f17
        replace f18 := (f18 : x18 = (.int .i64 (i : Nat)))
        subst f18
        replace f19 := (f19 : x19 = (.pointer (some ⟨fa, fo + i * 2, none⟩)))
        subst f19
        replace f20 := (f20 : x20 = (.agg [Value.string s, .slice ba bn bc].toArray))
        subst f20
        replace f21 := (f21 : x21 = (.slice (some ⟨fb, go, none⟩) n gc))
        subst f21
        replace f22 := (f22 : x22 = (.int .i64 (i : Nat)))
        subst f22
        replace f23 := (f23 : x23 = (.pointer (some ⟨fb, go + i * 2, none⟩)))
        subst f23
        replace f24 := (f24 : x24 = (.agg [Value.string s, .slice ca bn cc].toArray))
        subst f24
        have e25 := (f25 : _ = Value.bool true)
        subst e25
        replace f26 := (f26 : x26 = (.bool false))
        subst f26
        subst hA
        show wpList _ _ _ [] _ _
        unfold wpList
        simp only [Act.put, List.setIfInBounds_toArray, List.set_cons_succ, List.set_cons_zero]
        go_wp2_with fail
        go_roundw
        case rel => exact ⟨i + 1, by go_num, by omega, hid (gtrans HG.out HU.out)⟩
        case measure => simp [intOf]; omega
    · as_aux_lemma =>
      have hge : ¬ (i : Int) < (n : Int) := by omega
      go_wp2_with fail
      go_ret
      exact ⟨rfl, HG.out⟩
set_option maxRecDepth 100000 in
set_option maxHeartbeats 8000000 in
theorem others_true (w : World) (Fa Fb : Nat → Prop) (a a' : Option Addr) (fa fo fc fb go gc : Nat) (L M : Cn) (t : ByteArray) (hA : ArF w Fa a fa fo L) (hB : ArF w Fb a' fb go M) (hL : L.length ≤ 1000000) (hM : M.length ≤ 1000000)
    (h1 : ∀ p ∈ L, p.1 ≠ t → getC M p.1 = some p.2) (h2 : ∀ p ∈ M, p.1 ≠ t → (getC L p.1).isSome = true) :
    Calls Try.prog 21 #[.slice a L.length fc, .slice a' M.length gc, .string t] w fun e w' => e = .returned (.bool true) ∧ w.grownBy w' none := by
  have HAa : Hid (∀ u, w.grownBy u none → ArF u Fa a fa fo L) := hid (fun u hu => hA.keep hu)
  have HAb : Hid (∀ u, w.grownBy u none → ArF u Fb a' fb go M) := hid (fun u hu => hB.keep hu)
  have HFm : Hid (∀ u, w.grownBy u none → ∀ s, Calls Try.prog 20 #[.slice a' M.length gc, .string s] u fun e w' => w' = u ∧ ∃ v, e = .returned (.tuple #[v, .bool (getC M s).isSome]) ∧ Rd u Fb v ((getC M s).getD [])) := hid (fun u hu s => file_any u Fb a' fb go gc M s (hB.keep hu) hM)
  have HFl : Hid (∀ u, w.grownBy u none → ∀ s, Calls Try.prog 20 #[.slice a L.length fc, .string s] u fun e w' => w' = u ∧ ∃ v, e = .returned (.tuple #[v, .bool (getC L s).isSome]) ∧ Rd u Fa v ((getC L s).getD [])) := hid (fun u hu s => file_any u Fa a fa fo fc L s (hA.keep hu) hL)
  have H1 := hid h1
  have H2 := hid h2
  obtain ⟨n, HN⟩ : ∃ n, Hid (L.length = n) := ⟨_, hid rfl⟩
  obtain ⟨mm, HNm⟩ : ∃ n, Hid (M.length = n) := ⟨_, hid rfl⟩
  rw [HN.out] at hL HFl ⊢
  rw [HNm.out] at hM HFm ⊢
  clear hA hB h1 h2
  go_enter Try.func21, Try.ntmps21
  go_upto_region 2 with fail
  go_loopw [7] (fun iv wr => ∃ i : Nat, iv = .int .i64 i ∧ i ≤ n ∧ Hid (w.grownBy wr none)) (fun iv _ => n - (intOf iv).toNat)
  case atStart => exact ⟨0, rfl, by omega, hid (grefl _ _)⟩
  case round =>
    obtain ⟨i, rfl, hi, HG⟩ := hrel
    obtain ⟨w0, hw0⟩ : ∃ x : World, x = wr := ⟨_, rfl⟩
    rw [← hw0] at HG ⊢
    clear hw0
    by_cases hlt : i < n
    · as_aux_lemma =>
      have hlt' : (i : Int) < (n : Int) := by omega
      have hiL : i < L.length := by rw [HN.out]; exact hlt
      obtain ⟨rfl, -⟩ := (HAa.out w0 HG.out).at_ (by omega)
      obtain ⟨q, Hq⟩ : ∃ x, Hid (L[i] = x) := ⟨_, hid rfl⟩
      obtain ⟨s, l⟩ := q
      have HC : Hid (w0.cell? ⟨fa, fo + i * 2, none⟩ = some (.string s) ∧ ∃ v, w0.cell? ⟨fa, fo + i * 2 + 1, none⟩ = some v ∧ Rd w0 Fa v l) := hid (by have := (HAa.out w0 HG.out).each i hiL; rw [Hq.out] at this; exact this)
      obtain ⟨v, hv1, hv2⟩ := HC.out.2
      have HV := hid hv2
      obtain ⟨ba, -, -, bc, rfl, -⟩ := hv2
      obtain ⟨bn, HBn⟩ : ∃ x, Hid (l.length = x) := ⟨_, hid rfl⟩
      rw [HBn.out] at HV hv1
      have HCe : Hid (∀ u, w0.grownBy u none → u.cell? ⟨fa, fo + i * 2, none⟩ = some (.string s) ∧ u.cell? ⟨fa, fo + i * 2 + 1, none⟩ = some (.slice ba bn bc)) := hid (fun u hu => by
        have hb := ((HAa.out w0 HG.out).at_ (by omega)).2.1
        exact ⟨(cell_at hu hb (by simp)).trans HC.out.1, (cell_at hu hb (by simp)).trans hv1⟩)
      have HIn : Hid ((s, l) ∈ L) := hid (by rw [← Hq.out]; exact List.getElem_mem _)
      have c1 := HC.out.1
      clear HC Hq
      by_cases hst : s = t
      · as_aux_lemma =>
        have HN1 : Hid (∀ (x y : Operand) (u : World), (do eqGuard .neq 9 x y (.string s) (.string t); binOp .neq 9 (.string s) (.string t) : Sem Value).run Try.prog u = .ok (.bool false) u) := hid (fun x y u => by
          have hb : (s.toList == t.toList) = true := by rw [ba_dec, decide_eq_true hst]
          go_simp)
        obtain ⟨D, hD⟩ : ∃ D, (getC M s).isSome = D := ⟨_, rfl⟩
        have HFs := hid (HFm.out w0 HG.out s)
        rw [hD] at HFs
        clear hst hD hv1
        go_upto_region 5 with (go_at_call 20; refine HFs.out.mono ?_; rintro e w1 ⟨rfl, v, rfl, hv⟩; obtain ⟨ca, -, -, cc, rfl, -⟩ := hv)
        obtain ⟨cn, hcn⟩ : ∃ x, ((getC M s).getD []).length = x := ⟨_, rfl⟩
        rw [hcn]
        clear hcn
        refine wp_region_listX (by kernel_rfl) [fun v _ => v = (Value.slice (some ⟨fa, fo, none⟩) n fc), fun v _ => v = (Value.int .i64 (i : Nat)), fun v _ => v = (Value.pointer (some ⟨fa, fo + i * 2, none⟩)), fun v _ => v = (Value.pointer (some ⟨fa, fo + i * 2, none⟩)), fun v _ => v = (Value.string s), fun v _ => v = (Value.string t), fun v _ => v = (Value.bool false), fun v _ => v = (Value.bool false), fun v _ => v = undef, fun v _ => v = undef, fun v _ => v = undef, fun v _ => v = undef, fun v _ => v = undef, fun v _ => v = undef, fun v _ => v = undef, fun v _ => v = undef, fun v _ => v = undef, fun v _ => v = undef, fun v _ => v = undef, fun v _ => v = undef, fun v _ => v = undef, fun v _ => v = (Value.bool false)] (none) (fun _ => none) 22 (by kernel_rfl) (by kernel_rfl) (by kernel_rfl) (by kernel_rfl) (by decide) noRow_one (fun _ => .inl rfl) ⟨fun i v u u' hki h hg => h, fun i v u u' hki h hg => h, fun i v u u' hki h hg => h, fun i v u u' hki h hg => h, fun i v u u' hki h hg => h, fun i v u u' hki h hg => h, fun i v u u' hki h hg => h, fun i v u u' hki h hg => h, fun i v u u' hki h hg => h, fun i v u u' hki h hg => h, fun i v u u' hki h hg => h, fun i v u u' hki h hg => h, fun i v u u' hki h hg => h, fun i v u u' hki h hg => h, fun i v u u' hki h hg => h, fun i v u u' hki h hg => h, fun i v u u' hki h hg => h, fun i v u u' hki h hg => h, fun i v u u' hki h hg => h, fun i v u u' hki h hg => h, fun i v u u' hki h hg => h, fun i v u u' hki h hg => h, trivial⟩ ⟨?_, ?_, ?_, ?_, ?_, ?_, ?_, ?_, ?_, ?_, ?_, ?_, ?_, ?_, ?_, ?_, ?_, ?_, ?_, ?_, ?_, ?_, trivial⟩ ?_
        · intro A u hu hpu hsz hout hdeps
          have e0 : A.eval (.tmp 0) = (.slice (some ⟨fa, fo, none⟩) n fc) := (hout 0 (by kernel_rfl)).trans rfl
          refine ifw_none rfl ?_
          with_reducible refine shown_q (Value.slice (some ⟨fa, fo, none⟩) n fc) ?qq_2_0 (fun _ _ => ?qr_2_0)
          case qr_2_0 => exact (rfl : (Value.slice (some ⟨fa, fo, none⟩) n fc) = (Value.slice (some ⟨fa, fo, none⟩) n fc))
          with_reducible refine quietAt_mv (.tmp 0) (Value.slice (some ⟨fa, fo, none⟩) n fc) ?h0_2_0 ?h1_2_0
          case h0_2_0 => rfl
          case h1_2_0 => exact e0
        · intro A u hu hpu hsz hout hdeps
          have e7 : A.eval (.tmp 7) = (.int .i64 (i : Nat)) := (hout 7 (by kernel_rfl)).trans rfl
          refine ifw_none rfl ?_
          with_reducible refine shown_q (Value.int .i64 (i : Nat)) ?qq_2_1 (fun _ _ => ?qr_2_1)
          case qr_2_1 => exact (rfl : (Value.int .i64 (i : Nat)) = (Value.int .i64 (i : Nat)))
          with_reducible refine quietAt_mv (.tmp 7) (Value.int .i64 (i : Nat)) ?h0_2_1 ?h1_2_1
          case h0_2_1 => rfl
          case h1_2_1 => exact e7
        · intro A u hu hpu hsz hout hdeps
          have e29 : A.eval (.tmp 29) = (.slice (some ⟨fa, fo, none⟩) n fc) := by have h := depL hdeps 0 (by kernel_rfl) 29 (by kernel_rfl); exact h
          have e30 : A.eval (.tmp 30) = (.int .i64 (i : Nat)) := by have h := depL hdeps 1 (by kernel_rfl) 30 (by kernel_rfl); exact h
          refine ifw_none rfl ?_
          with_reducible refine shown_q (Value.pointer (some ⟨fa, fo + i * 2, none⟩)) ?qq_2_2 (fun _ _ => ?qr_2_2)
          case qr_2_2 => exact (rfl : (Value.pointer (some ⟨fa, fo + i * 2, none⟩)) = (Value.pointer (some ⟨fa, fo + i * 2, none⟩)))
          with_reducible refine quietAt_idx 34 (.tmp 29) (.tmp 30) (Value.slice (some ⟨fa, fo, none⟩) n fc) (Value.int .i64 (i : Nat)) (Value.pointer (some ⟨fa, fo + i * 2, none⟩)) ?h0_2_2 ?h1_2_2 ?h2_2_2 ?h3_2_2
          case h0_2_2 => rfl
          case h1_2_2 => exact e29
          case h2_2_2 => exact e30
          case h3_2_2 => exact idx34 fa fo n fc i hlt u
        · intro A u hu hpu hsz hout hdeps
          have e31 : A.eval (.tmp 31) = (.pointer (some ⟨fa, fo + i * 2, none⟩)) := by have h := depL hdeps 2 (by kernel_rfl) 31 (by kernel_rfl); exact h
          refine ifw_none rfl ?_
          with_reducible refine shown_q (Value.pointer (some ⟨fa, fo + i * 2, none⟩)) ?qq_2_3 (fun _ _ => ?qr_2_3)
          case qr_2_3 => exact (rfl : (Value.pointer (some ⟨fa, fo + i * 2, none⟩)) = (Value.pointer (some ⟨fa, fo + i * 2, none⟩)))
          with_reducible refine quietAt_field 58 (.tmp 31) 0 ?h0_2_3 ⟨fa, fo + i * 2, none⟩ ⟨fa, fo + i * 2, none⟩ ?h1_2_3 ?h2_2_3
          case h0_2_3 => rfl
          case h1_2_3 => exact e31
          case h2_2_3 => kernel_rfl
        · intro A u hu hpu hsz hout hdeps
          have e32 : A.eval (.tmp 32) = (.pointer (some ⟨fa, fo + i * 2, none⟩)) := by have h := depL hdeps 3 (by kernel_rfl) 32 (by kernel_rfl); exact h
          refine ifw_none rfl ?_
          with_reducible refine shown_q (Value.string s) ?qq_2_4 (fun _ _ => ?qr_2_4)
          case qr_2_4 => exact (rfl : (Value.string s) = (Value.string s))
          with_reducible refine quietAt_ld 9 (.tmp 32) (Value.pointer (some ⟨fa, fo + i * 2, none⟩)) (Value.string s) ?h0_2_4 ?h1_2_4 ?h2_2_4
          case h0_2_4 => rfl
          case h1_2_4 => exact e32
          case h2_2_4 => exact ld9 fa (fo + i * 2) s u (HCe.out u hu).1
        · intro A u hu hpu hsz hout hdeps
          have e2 : A.eval (.tmp 2) = (.string t) := (hout 2 (by kernel_rfl)).trans rfl
          refine ifw_none rfl ?_
          with_reducible refine shown_q (Value.string t) ?qq_2_5 (fun _ _ => ?qr_2_5)
          case qr_2_5 => exact (rfl : (Value.string t) = (Value.string t))
          with_reducible refine quietAt_mv (.tmp 2) (Value.string t) ?h0_2_5 ?h1_2_5
          case h0_2_5 => rfl
          case h1_2_5 => exact e2
        · intro A u hu hpu hsz hout hdeps
          have e33 : A.eval (.tmp 33) = (.string s) := by have h := depL hdeps 4 (by kernel_rfl) 33 (by kernel_rfl); exact h
          have e34 : A.eval (.tmp 34) = (.string t) := by have h := depL hdeps 5 (by kernel_rfl) 34 (by kernel_rfl); exact h
          refine ifw_none rfl ?_
          with_reducible refine shown_q (Value.bool false) ?qq_2_6 (fun _ _ => ?qr_2_6)
          case qr_2_6 => exact (rfl : (Value.bool false) = (Value.bool false))
          with_reducible refine quietAt_bin .neq 9 (.tmp 33) (.tmp 34) 9 (Value.string s) (Value.string t) (Value.bool false) ?h0_2_6 ?h1_2_6 ?h2_2_6 ?h3_2_6
          case h0_2_6 => rfl
          case h1_2_6 => exact e33
          case h2_2_6 => exact e34
          case h3_2_6 => exact HN1.out _ _ u
        · intro A u hu hpu hsz hout hdeps
          have e35 : A.eval (.tmp 35) = (.bool false) := by have h := depL hdeps 6 (by kernel_rfl) 35 (by kernel_rfl); exact h
          refine ifw_none rfl ?_
          with_reducible refine shown_q (Value.bool false) ?qq_2_7 (fun _ _ => ?qr_2_7)
          case qr_2_7 => exact (rfl : (Value.bool false) = (Value.bool false))
          with_reducible refine quietAt_mv (.tmp 35) (Value.bool false) ?h0_2_7 ?h1_2_7
          case h0_2_7 => rfl
          case h1_2_7 => exact e35
        · intro A u hu hpu hsz hout hdeps
          have e36 : A.eval (.tmp 36) = (.bool false) := by have h := depL hdeps 7 (by kernel_rfl) 36 (by kernel_rfl); exact h
          refine ifw_pass 7 true false 36 rfl rfl e36 (by decide) ?_
          exact rfl
        · intro A u hu hpu hsz hout hdeps
          have e36 : A.eval (.tmp 36) = (.bool false) := by have h := depL hdeps 7 (by kernel_rfl) 36 (by kernel_rfl); exact h
          refine ifw_pass 7 true false 36 rfl rfl e36 (by decide) ?_
          exact rfl
        · intro A u hu hpu hsz hout hdeps
          have e36 : A.eval (.tmp 36) = (.bool false) := by have h := depL hdeps 7 (by kernel_rfl) 36 (by kernel_rfl); exact h
          refine ifw_pass 7 true false 36 rfl rfl e36 (by decide) ?_
          exact rfl
        · intro A u hu hpu hsz hout hdeps
          have e39 : A.eval (.tmp 39) = undef := by have h := depL hdeps 10 (by kernel_rfl) 39 (by kernel_rfl); exact h
          refine ifw_undef 10 false 39 rfl rfl e39 ?_
          exact rfl
        · intro A u hu hpu hsz hout hdeps
          have e39 : A.eval (.tmp 39) = undef := by have h := depL hdeps 10 (by kernel_rfl) 39 (by kernel_rfl); exact h
          refine ifw_undef 10 false 39 rfl rfl e39 ?_
          exact rfl
        · intro A u hu hpu hsz hout hdeps
          have e39 : A.eval (.tmp 39) = undef := by have h := depL hdeps 10 (by kernel_rfl) 39 (by kernel_rfl); exact h
          refine ifw_undef 10 false 39 rfl rfl e39 ?_
          exact rfl
        · intro A u hu hpu hsz hout hdeps
          have e39 : A.eval (.tmp 39) = undef := by have h := depL hdeps 10 (by kernel_rfl) 39 (by kernel_rfl); exact h
          refine ifw_undef 10 false 39 rfl rfl e39 ?_
          exact rfl
        · intro A u hu hpu hsz hout hdeps
          have e39 : A.eval (.tmp 39) = undef := by have h := depL hdeps 10 (by kernel_rfl) 39 (by kernel_rfl); exact h
          refine ifw_undef 10 false 39 rfl rfl e39 ?_
          exact rfl
        · intro A u hu hpu hsz hout hdeps
          have e39 : A.eval (.tmp 39) = undef := by have h := depL hdeps 10 (by kernel_rfl) 39 (by kernel_rfl); exact h
          refine ifw_undef 10 false 39 rfl rfl e39 ?_
          exact rfl
        · intro A u hu hpu hsz hout hdeps
          have e39 : A.eval (.tmp 39) = undef := by have h := depL hdeps 10 (by kernel_rfl) 39 (by kernel_rfl); exact h
          refine ifw_undef 10 false 39 rfl rfl e39 ?_
          exact rfl
        · intro A u hu hpu hsz hout hdeps
          have e39 : A.eval (.tmp 39) = undef := by have h := depL hdeps 10 (by kernel_rfl) 39 (by kernel_rfl); exact h
          refine ifw_undef 10 false 39 rfl rfl e39 ?_
          exact rfl
        · intro A u hu hpu hsz hout hdeps
          have e39 : A.eval (.tmp 39) = undef := by have h := depL hdeps 10 (by kernel_rfl) 39 (by kernel_rfl); exact h
          refine ifw_undef 10 false 39 rfl rfl e39 ?_
          exact rfl
        · intro A u hu hpu hsz hout hdeps
          have e36 : A.eval (.tmp 36) = (.bool false) := by have h := depL hdeps 7 (by kernel_rfl) 36 (by kernel_rfl); exact h
          refine ifw_pass 7 true false 36 rfl rfl e36 (by decide) ?_
          exact rfl
        · intro A u hu hpu hsz hout hdeps
          have e36 : A.eval (.tmp 36) = (.bool false) := by have h := depL hdeps 7 (by kernel_rfl) 36 (by kernel_rfl); exact h
          refine ifw_none rfl ?_
          with_reducible refine shown_q (Value.bool false) ?qq_2_21 (fun _ _ => ?qr_2_21)
          case qr_2_21 => exact (rfl : (Value.bool false) = (Value.bool false))
          with_reducible refine quietAt_pick (.tmp 36) (.tmp 49) (.const (.bool false)) false (Value.bool false) ?h0_2_21 ?h1_2_21 ?h2_2_21
          case h0_2_21 => rfl
          case h1_2_21 => exact e36
          case h2_2_21 => rw [if_neg (by decide)]; exact rfl
        · intro A u8 listed hh hall
          have hA := hh.frame
          have HU := hid hh.grown
          obtain ⟨x29, hx29⟩ : ∃ x, A.eval (.tmp 29) = x := ⟨_, rfl⟩
          have f29 : (fun v _ => v = (Value.slice (some ⟨fa, fo, none⟩) n fc)) x29 u8 := by rw [← hx29]; exact hh.got 0 _ 29 rfl rfl (hall 0 (by decide))
          obtain ⟨x30, hx30⟩ : ∃ x, A.eval (.tmp 30) = x := ⟨_, rfl⟩
          have f30 : (fun v _ => v = (Value.int .i64 (i : Nat))) x30 u8 := by rw [← hx30]; exact hh.got 1 _ 30 rfl rfl (hall 1 (by decide))
          obtain ⟨x31, hx31⟩ : ∃ x, A.eval (.tmp 31) = x := ⟨_, rfl⟩
          have f31 : (fun v _ => v = (Value.pointer (some ⟨fa, fo + i * 2, none⟩))) x31 u8 := by rw [← hx31]; exact hh.got 2 _ 31 rfl rfl (hall 2 (by decide))
          obtain ⟨x32, hx32⟩ : ∃ x, A.eval (.tmp 32) = x := ⟨_, rfl⟩
          have f32 : (fun v _ => v = (Value.pointer (some ⟨fa, fo + i * 2, none⟩))) x32 u8 := by rw [← hx32]; exact hh.got 3 _ 32 rfl rfl (hall 3 (by decide))
          obtain ⟨x33, hx33⟩ : ∃ x, A.eval (.tmp 33) = x := ⟨_, rfl⟩
          have f33 : (fun v _ => v = (Value.string s)) x33 u8 := by rw [← hx33]; exact hh.got 4 _ 33 rfl rfl (hall 4 (by decide))
          obtain ⟨x34, hx34⟩ : ∃ x, A.eval (.tmp 34) = x := ⟨_, rfl⟩
          have f34 : (fun v _ => v = (Value.string t)) x34 u8 := by rw [← hx34]; exact hh.got 5 _ 34 rfl rfl (hall 5 (by decide))
          obtain ⟨x35, hx35⟩ : ∃ x, A.eval (.tmp 35) = x := ⟨_, rfl⟩
          have f35 : (fun v _ => v = (Value.bool false)) x35 u8 := by rw [← hx35]; exact hh.got 6 _ 35 rfl rfl (hall 6 (by decide))
          obtain ⟨x36, hx36⟩ : ∃ x, A.eval (.tmp 36) = x := ⟨_, rfl⟩
          have f36 : (fun v _ => v = (Value.bool false)) x36 u8 := by rw [← hx36]; exact hh.got 7 _ 36 rfl rfl (hall 7 (by decide))
          obtain ⟨x37, hx37⟩ : ∃ x, A.eval (.tmp 37) = x := ⟨_, rfl⟩
          have f37 : (fun v _ => v = undef) x37 u8 := by rw [← hx37]; exact hh.got 8 _ 37 rfl rfl (hall 8 (by decide))
          obtain ⟨x38, hx38⟩ : ∃ x, A.eval (.tmp 38) = x := ⟨_, rfl⟩
          have f38 : (fun v _ => v = undef) x38 u8 := by rw [← hx38]; exact hh.got 9 _ 38 rfl rfl (hall 9 (by decide))
          obtain ⟨x39, hx39⟩ : ∃ x, A.eval (.tmp 39) = x := ⟨_, rfl⟩
          have f39 : (fun v _ => v = undef) x39 u8 := by rw [← hx39]; exact hh.got 10 _ 39 rfl rfl (hall 10 (by decide))
          obtain ⟨x40, hx40⟩ : ∃ x, A.eval (.tmp 40) = x := ⟨_, rfl⟩
          have f40 : (fun v _ => v = undef) x40 u8 := by rw [← hx40]; exact hh.got 11 _ 40 rfl rfl (hall 11 (by decide))
          obtain ⟨x41, hx41⟩ : ∃ x, A.eval (.tmp 41) = x := ⟨_, rfl⟩
          have f41 : (fun v _ => v = undef) x41 u8 := by rw [← hx41]; exact hh.got 12 _ 41 rfl rfl (hall 12 (by decide))
          obtain ⟨x42, hx42⟩ : ∃ x, A.eval (.tmp 42) = x := ⟨_, rfl⟩
          have f42 : (fun v _ => v = undef) x42 u8 := by rw [← hx42]; exact hh.got 13 _ 42 rfl rfl (hall 13 (by decide))
          obtain ⟨x43, hx43⟩ : ∃ x, A.eval (.tmp 43) = x := ⟨_, rfl⟩
          have f43 : (fun v _ => v = undef) x43 u8 := by rw [← hx43]; exact hh.got 14 _ 43 rfl rfl (hall 14 (by decide))
          obtain ⟨x44, hx44⟩ : ∃ x, A.eval (.tmp 44) = x := ⟨_, rfl⟩
          have f44 : (fun v _ => v = undef) x44 u8 := by rw [← hx44]; exact hh.got 15 _ 44 rfl rfl (hall 15 (by decide))
          obtain ⟨x45, hx45⟩ : ∃ x, A.eval (.tmp 45) = x := ⟨_, rfl⟩
          have f45 : (fun v _ => v = undef) x45 u8 := by rw [← hx45]; exact hh.got 16 _ 45 rfl rfl (hall 16 (by decide))
          obtain ⟨x46, hx46⟩ : ∃ x, A.eval (.tmp 46) = x := ⟨_, rfl⟩
          have f46 : (fun v _ => v = undef) x46 u8 := by rw [← hx46]; exact hh.got 17 _ 46 rfl rfl (hall 17 (by decide))
          obtain ⟨x47, hx47⟩ : ∃ x, A.eval (.tmp 47) = x := ⟨_, rfl⟩
          have f47 : (fun v _ => v = undef) x47 u8 := by rw [← hx47]; exact hh.got 18 _ 47 rfl rfl (hall 18 (by decide))
          obtain ⟨x48, hx48⟩ : ∃ x, A.eval (.tmp 48) = x := ⟨_, rfl⟩
          have f48 : (fun v _ => v = undef) x48 u8 := by rw [← hx48]; exact hh.got 19 _ 48 rfl rfl (hall 19 (by decide))
          obtain ⟨x49, hx49⟩ : ∃ x, A.eval (.tmp 49) = x := ⟨_, rfl⟩
          have f49 : (fun v _ => v = undef) x49 u8 := by rw [← hx49]; exact hh.got 20 _ 49 rfl rfl (hall 20 (by decide))
          obtain ⟨x50, hx50⟩ : ∃ x, A.eval (.tmp 50) = x := ⟨_, rfl⟩
          have f50 : (fun v _ => v = (Value.bool false)) x50 u8 := by rw [← hx50]; exact hh.got 21 _ 50 rfl rfl (hall 21 (by decide))
          dsimp only [wrote, List.foldl] at hA
          rw [hx29, hx30, hx31, hx32, hx33, hx34, hx35, hx36, hx37, hx38, hx39, hx40, hx41, hx42, hx43, hx44, hx45, hx46, hx47, hx48, hx49, hx50] at hA
          clear hh hall hx29 hx30 hx31 hx32 hx33 hx34 hx35 hx36 hx37 hx38 hx39 hx40 hx41 hx42 hx43 hx44 hx45 hx46 hx47 hx48 hx49 hx50
          replace f29 := (f29 : x29 = (.slice (some ⟨fa, fo, none⟩) n fc))
          subst f29
          replace f30 := (f30 : x30 = (.int .i64 (i : Nat)))
          subst f30
          replace f31 := (f31 : x31 = (.pointer (some ⟨fa, fo + i * 2, none⟩)))
          subst f31
          replace f32 := (f32 : x32 = (.pointer (some ⟨fa, fo + i * 2, none⟩)))
          subst f32
          replace f33 := (f33 : x33 = (.string s))
          subst f33
          replace f34 := (f34 : x34 = (.string t))
          subst f34
          replace f35 := (f35 : x35 = (.bool false))
          subst f35
          replace f36 := (f36 : x36 = (.bool false))
          subst f36
          replace f37 := (f37 : x37 = undef)
          subst f37
          replace f38 := (f38 : x38 = undef)
          subst f38
          replace f39 := (f39 : x39 = undef)
          subst f39
          replace f40 := (f40 : x40 = undef)
          subst f40
          replace f41 := (f41 : x41 = undef)
          subst f41
          replace f42 := (f42 : x42 = undef)
          subst f42
          replace f43 := (f43 : x43 = undef)
          subst f43
          replace f44 := (f44 : x44 = undef)
          subst f44
          replace f45 := (f45 : x45 = undef)
          subst f45
          replace f46 := (f46 : x46 = undef)
          subst f46
          replace f47 := (f47 : x47 = undef)
          subst f47
          replace f48 := (f48 : x48 = undef)
          subst f48
          replace f49 := (f49 : x49 = undef)
          subst f49
          replace f50 := (f50 : x50 = (.bool false))
          subst f50
          subst hA
          show wpList _ _ _ [] _ _
          unfold wpList
          simp only [Act.put, List.setIfInBounds_toArray, List.set_cons_succ, List.set_cons_zero]
          go_wp2_with fail
          go_roundw
          case rel => exact ⟨i + 1, by go_num, by omega, hid (gtrans HG.out HU.out)⟩
          case measure => simp [intOf]; omega
      · as_aux_lemma =>
        have HN1 : Hid (∀ (x y : Operand) (u : World), (do eqGuard .neq 9 x y (.string s) (.string t); binOp .neq 9 (.string s) (.string t) : Sem Value).run Try.prog u = .ok (.bool true) u) := hid (fun x y u => by
          have hb : (s.toList == t.toList) = false := by rw [ba_dec, decide_eq_false hst]
          go_simp)
        have hgt := H1.out (s, l) HIn.out hst
        have HFs : Hid (Calls Try.prog 20 #[.slice a' mm gc, .string s] w0 fun e w' => w' = w0 ∧ ∃ v, e = .returned (.tuple #[v, .bool true]) ∧ Rd w0 Fb v l) := hid (by
          have := HFm.out w0 HG.out s
          rw [hgt] at this
          exact this)
        have HN2 : Hid (∀ (x y : Operand) (u : World), (do eqGuard .neq 9 x y (.string ⟨l.toArray⟩) (.string ⟨l.toArray⟩); binOp .neq 9 (.string ⟨l.toArray⟩) (.string ⟨l.toArray⟩) : Sem Value).run Try.prog u = .ok (.bool false) u) := hid (fun x y u => by
          have hb : ((⟨l.toArray⟩ : ByteArray).toList == (⟨l.toArray⟩ : ByteArray).toList) = true := by simp
          go_simp)
        clear hst hgt hv1
        go_upto_region 5 with (go_at_call 20; refine HFs.out.mono ?_; rintro e w1 ⟨rfl, v, rfl, hv⟩; have HVb := hid hv; obtain ⟨ca, -, -, cc, rfl, -⟩ := hv)
        rw [HBn.out] at HVb ⊢
        have HCy : Hid (∀ u, w1.grownBy u none → (convert 33 9 (.slice ba bn bc)).run Try.prog u = .ok (.string ⟨l.toArray⟩) u) := hid (fun u hu => (HV.out.keep hu).convert)
        have HCx : Hid (∀ u, w1.grownBy u none → (convert 33 9 (.slice ca bn cc)).run Try.prog u = .ok (.string ⟨l.toArray⟩) u) := hid (fun u hu => (HVb.out.keep hu).convert)
        refine wp_region_listX (by kernel_rfl) [fun v _ => v = (Value.slice (some ⟨fa, fo, none⟩) n fc), fun v _ => v = (Value.int .i64 (i : Nat)), fun v _ => v = (Value.pointer (some ⟨fa, fo + i * 2, none⟩)), fun v _ => v = (Value.pointer (some ⟨fa, fo + i * 2, none⟩)), fun v _ => v = (Value.string s), fun v _ => v = (Value.string t), fun v _ => v = (Value.bool true), fun v _ => v = (Value.bool true), fun v _ => v = (Value.bool true), fun v _ => v = (Value.bool false), fun v _ => v = (Value.bool false), fun v _ => v = (Value.slice ca bn cc), fun v _ => v = (Value.string ⟨l.toArray⟩), fun v _ => v = (Value.slice (some ⟨fa, fo, none⟩) n fc), fun v _ => v = (Value.int .i64 (i : Nat)), fun v _ => v = (Value.pointer (some ⟨fa, fo + i * 2, none⟩)), fun v _ => v = (Value.pointer (some ⟨fa, fo + i * 2 + 1, none⟩)), fun v _ => v = (Value.slice ba bn bc), fun v _ => v = (Value.string ⟨l.toArray⟩), fun v _ => v = (Value.bool false), fun v _ => v = (Value.bool false), fun v _ => v = (Value.bool false)] (none) (fun _ => none) 22 (by kernel_rfl) (by kernel_rfl) (by kernel_rfl) (by kernel_rfl) (by decide) noRow_one (fun _ => .inl rfl) ⟨fun i v u u' hki h hg => h, fun i v u u' hki h hg => h, fun i v u u' hki h hg => h, fun i v u u' hki h hg => h, fun i v u u' hki h hg => h, fun i v u u' hki h hg => h, fun i v u u' hki h hg => h, fun i v u u' hki h hg => h, fun i v u u' hki h hg => h, fun i v u u' hki h hg => h, fun i v u u' hki h hg => h, fun i v u u' hki h hg => h, fun i v u u' hki h hg => h, fun i v u u' hki h hg => h, fun i v u u' hki h hg => h, fun i v u u' hki h hg => h, fun i v u u' hki h hg => h, fun i v u u' hki h hg => h, fun i v u u' hki h hg => h, fun i v u u' hki h hg => h, fun i v u u' hki h hg => h, fun i v u u' hki h hg => h, trivial⟩ ⟨?_, ?_, ?_, ?_, ?_, ?_, ?_, ?_, ?_, ?_, ?_, ?_, ?_, ?_, ?_, ?_, ?_, ?_, ?_, ?_, ?_, ?_, trivial⟩ ?_
        · intro A u hu hpu hsz hout hdeps
          have e0 : A.eval (.tmp 0) = (.slice (some ⟨fa, fo, none⟩) n fc) := (hout 0 (by kernel_rfl)).trans rfl
          refine ifw_none rfl ?_
          with_reducible refine shown_q (Value.slice (some ⟨fa, fo, none⟩) n fc) ?qq_3_0 (fun _ _ => ?qr_3_0)
          case qr_3_0 => exact (rfl : (Value.slice (some ⟨fa, fo, none⟩) n fc) = (Value.slice (some ⟨fa, fo, none⟩) n fc))
          with_reducible refine quietAt_mv (.tmp 0) (Value.slice (some ⟨fa, fo, none⟩) n fc) ?h0_3_0 ?h1_3_0
          case h0_3_0 => rfl
          case h1_3_0 => exact e0
        · intro A u hu hpu hsz hout hdeps
          have e7 : A.eval (.tmp 7) = (.int .i64 (i : Nat)) := (hout 7 (by kernel_rfl)).trans rfl
          refine ifw_none rfl ?_
          with_reducible refine shown_q (Value.int .i64 (i : Nat)) ?qq_3_1 (fun _ _ => ?qr_3_1)
          case qr_3_1 => exact (rfl : (Value.int .i64 (i : Nat)) = (Value.int .i64 (i : Nat)))
          with_reducible refine quietAt_mv (.tmp 7) (Value.int .i64 (i : Nat)) ?h0_3_1 ?h1_3_1
          case h0_3_1 => rfl
          case h1_3_1 => exact e7
        · intro A u hu hpu hsz hout hdeps
          have e29 : A.eval (.tmp 29) = (.slice (some ⟨fa, fo, none⟩) n fc) := by have h := depL hdeps 0 (by kernel_rfl) 29 (by kernel_rfl); exact h
          have e30 : A.eval (.tmp 30) = (.int .i64 (i : Nat)) := by have h := depL hdeps 1 (by kernel_rfl) 30 (by kernel_rfl); exact h
          refine ifw_none rfl ?_
          with_reducible refine shown_q (Value.pointer (some ⟨fa, fo + i * 2, none⟩)) ?qq_3_2 (fun _ _ => ?qr_3_2)
          case qr_3_2 => exact (rfl : (Value.pointer (some ⟨fa, fo + i * 2, none⟩)) = (Value.pointer (some ⟨fa, fo + i * 2, none⟩)))
          with_reducible refine quietAt_idx 34 (.tmp 29) (.tmp 30) (Value.slice (some ⟨fa, fo, none⟩) n fc) (Value.int .i64 (i : Nat)) (Value.pointer (some ⟨fa, fo + i * 2, none⟩)) ?h0_3_2 ?h1_3_2 ?h2_3_2 ?h3_3_2
          case h0_3_2 => rfl
          case h1_3_2 => exact e29
          case h2_3_2 => exact e30
          case h3_3_2 => exact idx34 fa fo n fc i hlt u
        · intro A u hu hpu hsz hout hdeps
          have e31 : A.eval (.tmp 31) = (.pointer (some ⟨fa, fo + i * 2, none⟩)) := by have h := depL hdeps 2 (by kernel_rfl) 31 (by kernel_rfl); exact h
          refine ifw_none rfl ?_
          with_reducible refine shown_q (Value.pointer (some ⟨fa, fo + i * 2, none⟩)) ?qq_3_3 (fun _ _ => ?qr_3_3)
          case qr_3_3 => exact (rfl : (Value.pointer (some ⟨fa, fo + i * 2, none⟩)) = (Value.pointer (some ⟨fa, fo + i * 2, none⟩)))
          with_reducible refine quietAt_field 58 (.tmp 31) 0 ?h0_3_3 ⟨fa, fo + i * 2, none⟩ ⟨fa, fo + i * 2, none⟩ ?h1_3_3 ?h2_3_3
          case h0_3_3 => rfl
          case h1_3_3 => exact e31
          case h2_3_3 => kernel_rfl
        · intro A u hu hpu hsz hout hdeps
          have e32 : A.eval (.tmp 32) = (.pointer (some ⟨fa, fo + i * 2, none⟩)) := by have h := depL hdeps 3 (by kernel_rfl) 32 (by kernel_rfl); exact h
          refine ifw_none rfl ?_
          with_reducible refine shown_q (Value.string s) ?qq_3_4 (fun _ _ => ?qr_3_4)
          case qr_3_4 => exact (rfl : (Value.string s) = (Value.string s))
          with_reducible refine quietAt_ld 9 (.tmp 32) (Value.pointer (some ⟨fa, fo + i * 2, none⟩)) (Value.string s) ?h0_3_4 ?h1_3_4 ?h2_3_4
          case h0_3_4 => rfl
          case h1_3_4 => exact e32
          case h2_3_4 => exact ld9 fa (fo + i * 2) s u (HCe.out u hu).1
        · intro A u hu hpu hsz hout hdeps
          have e2 : A.eval (.tmp 2) = (.string t) := (hout 2 (by kernel_rfl)).trans rfl
          refine ifw_none rfl ?_
          with_reducible refine shown_q (Value.string t) ?qq_3_5 (fun _ _ => ?qr_3_5)
          case qr_3_5 => exact (rfl : (Value.string t) = (Value.string t))
          with_reducible refine quietAt_mv (.tmp 2) (Value.string t) ?h0_3_5 ?h1_3_5
          case h0_3_5 => rfl
          case h1_3_5 => exact e2
        · intro A u hu hpu hsz hout hdeps
          have e33 : A.eval (.tmp 33) = (.string s) := by have h := depL hdeps 4 (by kernel_rfl) 33 (by kernel_rfl); exact h
          have e34 : A.eval (.tmp 34) = (.string t) := by have h := depL hdeps 5 (by kernel_rfl) 34 (by kernel_rfl); exact h
          refine ifw_none rfl ?_
          with_reducible refine shown_q (Value.bool true) ?qq_3_6 (fun _ _ => ?qr_3_6)
          case qr_3_6 => exact (rfl : (Value.bool true) = (Value.bool true))
          with_reducible refine quietAt_bin .neq 9 (.tmp 33) (.tmp 34) 9 (Value.string s) (Value.string t) (Value.bool true) ?h0_3_6 ?h1_3_6 ?h2_3_6 ?h3_3_6
          case h0_3_6 => rfl
          case h1_3_6 => exact e33
          case h2_3_6 => exact e34
          case h3_3_6 => exact HN1.out _ _ u
        · intro A u hu hpu hsz hout hdeps
          have e35 : A.eval (.tmp 35) = (.bool true) := by have h := depL hdeps 6 (by kernel_rfl) 35 (by kernel_rfl); exact h
          refine ifw_none rfl ?_
          with_reducible refine shown_q (Value.bool true) ?qq_3_7 (fun _ _ => ?qr_3_7)
          case qr_3_7 => exact (rfl : (Value.bool true) = (Value.bool true))
          with_reducible refine quietAt_mv (.tmp 35) (Value.bool true) ?h0_3_7 ?h1_3_7
          case h0_3_7 => rfl
          case h1_3_7 => exact e35
        · intro A u hu hpu hsz hout hdeps
          have e36 : A.eval (.tmp 36) = (.bool true) := by have h := depL hdeps 7 (by kernel_rfl) 36 (by kernel_rfl); exact h
          have e9 : A.eval (.tmp 9) = (.bool true) := (hout 9 (by kernel_rfl)).trans rfl
          refine ifw_want 7 true 36 rfl rfl e36 ?_
          with_reducible refine shown_q (Value.bool true) ?qq_3_8 (fun _ _ => ?qr_3_8)
          case qr_3_8 => exact (rfl : (Value.bool true) = (Value.bool true))
          with_reducible refine quietAt_mv (.tmp 9) (Value.bool true) ?h0_3_8 ?h1_3_8
          case h0_3_8 => rfl
          case h1_3_8 => exact e9
        · intro A u hu hpu hsz hout hdeps
          have e36 : A.eval (.tmp 36) = (.bool true) := by have h := depL hdeps 7 (by kernel_rfl) 36 (by kernel_rfl); exact h
          have e37 : A.eval (.tmp 37) = (.bool true) := by have h := depL hdeps 8 (by kernel_rfl) 37 (by kernel_rfl); exact h
          refine ifw_want 7 true 36 rfl rfl e36 ?_
          with_reducible refine shown_q (Value.bool false) ?qq_3_9 (fun _ _ => ?qr_3_9)
          case qr_3_9 => exact (rfl : (Value.bool false) = (Value.bool false))
          with_reducible refine quietAt_un .not 4 (.tmp 37) (Value.bool true) (Value.bool false) ?h0_3_9 ?h1_3_9 ?h2_3_9
          case h0_3_9 => rfl
          case h1_3_9 => exact e37
          case h2_3_9 => rfl
        · intro A u hu hpu hsz hout hdeps
          have e36 : A.eval (.tmp 36) = (.bool true) := by have h := depL hdeps 7 (by kernel_rfl) 36 (by kernel_rfl); exact h
          have e38 : A.eval (.tmp 38) = (.bool false) := by have h := depL hdeps 9 (by kernel_rfl) 38 (by kernel_rfl); exact h
          refine ifw_want 7 true 36 rfl rfl e36 ?_
          with_reducible refine shown_q (Value.bool false) ?qq_3_10 (fun _ _ => ?qr_3_10)
          case qr_3_10 => exact (rfl : (Value.bool false) = (Value.bool false))
          with_reducible refine quietAt_mv (.tmp 38) (Value.bool false) ?h0_3_10 ?h1_3_10
          case h0_3_10 => rfl
          case h1_3_10 => exact e38
        · intro A u hu hpu hsz hout hdeps
          have e39 : A.eval (.tmp 39) = (.bool false) := by have h := depL hdeps 10 (by kernel_rfl) 39 (by kernel_rfl); exact h
          have e8 : A.eval (.tmp 8) = (.slice ca bn cc) := (hout 8 (by kernel_rfl)).trans rfl
          refine ifw_want 10 false 39 rfl rfl e39 ?_
          with_reducible refine shown_q (Value.slice ca bn cc) ?qq_3_11 (fun _ _ => ?qr_3_11)
          case qr_3_11 => exact (rfl : (Value.slice ca bn cc) = (Value.slice ca bn cc))
          with_reducible refine quietAt_mv (.tmp 8) (Value.slice ca bn cc) ?h0_3_11 ?h1_3_11
          case h0_3_11 => rfl
          case h1_3_11 => exact e8
        · intro A u hu hpu hsz hout hdeps
          have e39 : A.eval (.tmp 39) = (.bool false) := by have h := depL hdeps 10 (by kernel_rfl) 39 (by kernel_rfl); exact h
          have e40 : A.eval (.tmp 40) = (.slice ca bn cc) := by have h := depL hdeps 11 (by kernel_rfl) 40 (by kernel_rfl); exact h
          refine ifw_want 10 false 39 rfl rfl e39 ?_
          with_reducible refine shown_q (Value.string ⟨l.toArray⟩) ?qq_3_12 (fun _ _ => ?qr_3_12)
          case qr_3_12 => exact (rfl : (Value.string ⟨l.toArray⟩) = (Value.string ⟨l.toArray⟩))
          with_reducible refine quietAt_cv 33 9 (.tmp 40) (Value.slice ca bn cc) (Value.string ⟨l.toArray⟩) ?h0_3_12 ?h1_3_12 ?h2_3_12
          case h0_3_12 => rfl
          case h1_3_12 => exact e40
          case h2_3_12 => exact (HCx.out u hu)
        · intro A u hu hpu hsz hout hdeps
          have e39 : A.eval (.tmp 39) = (.bool false) := by have h := depL hdeps 10 (by kernel_rfl) 39 (by kernel_rfl); exact h
          have e0 : A.eval (.tmp 0) = (.slice (some ⟨fa, fo, none⟩) n fc) := (hout 0 (by kernel_rfl)).trans rfl
          refine ifw_want 10 false 39 rfl rfl e39 ?_
          with_reducible refine shown_q (Value.slice (some ⟨fa, fo, none⟩) n fc) ?qq_3_13 (fun _ _ => ?qr_3_13)
          case qr_3_13 => exact (rfl : (Value.slice (some ⟨fa, fo, none⟩) n fc) = (Value.slice (some ⟨fa, fo, none⟩) n fc))
          with_reducible refine quietAt_mv (.tmp 0) (Value.slice (some ⟨fa, fo, none⟩) n fc) ?h0_3_13 ?h1_3_13
          case h0_3_13 => rfl
          case h1_3_13 => exact e0
        · intro A u hu hpu hsz hout hdeps
          have e39 : A.eval (.tmp 39) = (.bool false) := by have h := depL hdeps 10 (by kernel_rfl) 39 (by kernel_rfl); exact h
          have e7 : A.eval (.tmp 7) = (.int .i64 (i : Nat)) := (hout 7 (by kernel_rfl)).trans rfl
          refine ifw_want 10 false 39 rfl rfl e39 ?_
          with_reducible refine shown_q (Value.int .i64 (i : Nat)) ?qq_3_14 (fun _ _ => ?qr_3_14)
          case qr_3_14 => exact (rfl : (Value.int .i64 (i : Nat)) = (Value.int .i64 (i : Nat)))
          with_reducible refine quietAt_mv (.tmp 7) (Value.int .i64 (i : Nat)) ?h0_3_14 ?h1_3_14
          case h0_3_14 => rfl
          case h1_3_14 => exact e7
        · intro A u hu hpu hsz hout hdeps
          have e39 : A.eval (.tmp 39) = (.bool false) := by have h := depL hdeps 10 (by kernel_rfl) 39 (by kernel_rfl); exact h
          have e42 : A.eval (.tmp 42) = (.slice (some ⟨fa, fo, none⟩) n fc) := by have h := depL hdeps 13 (by kernel_rfl) 42 (by kernel_rfl); exact h
          have e43 : A.eval (.tmp 43) = (.int .i64 (i : Nat)) := by have h := depL hdeps 14 (by kernel_rfl) 43 (by kernel_rfl); exact h
          refine ifw_want 10 false 39 rfl rfl e39 ?_
          with_reducible refine shown_q (Value.pointer (some ⟨fa, fo + i * 2, none⟩)) ?qq_3_15 (fun _ _ => ?qr_3_15)
          case qr_3_15 => exact (rfl : (Value.pointer (some ⟨fa, fo + i * 2, none⟩)) = (Value.pointer (some ⟨fa, fo + i * 2, none⟩)))
          with_reducible refine quietAt_idx 34 (.tmp 42) (.tmp 43) (Value.slice (some ⟨fa, fo, none⟩) n fc) (Value.int .i64 (i : Nat)) (Value.pointer (some ⟨fa, fo + i * 2, none⟩)) ?h0_3_15 ?h1_3_15 ?h2_3_15 ?h3_3_15
          case h0_3_15 => rfl
          case h1_3_15 => exact e42
          case h2_3_15 => exact e43
          case h3_3_15 => exact idx34 fa fo n fc i hlt u
        · intro A u hu hpu hsz hout hdeps
          have e39 : A.eval (.tmp 39) = (.bool false) := by have h := depL hdeps 10 (by kernel_rfl) 39 (by kernel_rfl); exact h
          have e44 : A.eval (.tmp 44) = (.pointer (some ⟨fa, fo + i * 2, none⟩)) := by have h := depL hdeps 15 (by kernel_rfl) 44 (by kernel_rfl); exact h
          refine ifw_want 10 false 39 rfl rfl e39 ?_
          with_reducible refine shown_q (Value.pointer (some ⟨fa, fo + i * 2 + 1, none⟩)) ?qq_3_16 (fun _ _ => ?qr_3_16)
          case qr_3_16 => exact (rfl : (Value.pointer (some ⟨fa, fo + i * 2 + 1, none⟩)) = (Value.pointer (some ⟨fa, fo + i * 2 + 1, none⟩)))
          with_reducible refine quietAt_field 58 (.tmp 44) 1 ?h0_3_16 ⟨fa, fo + i * 2, none⟩ ⟨fa, fo + i * 2 + 1, none⟩ ?h1_3_16 ?h2_3_16
          case h0_3_16 => rfl
          case h1_3_16 => exact e44
          case h2_3_16 => kernel_rfl
        · intro A u hu hpu hsz hout hdeps
          have e39 : A.eval (.tmp 39) = (.bool false) := by have h := depL hdeps 10 (by kernel_rfl) 39 (by kernel_rfl); exact h
          have e45 : A.eval (.tmp 45) = (.pointer (some ⟨fa, fo + i * 2 + 1, none⟩)) := by have h := depL hdeps 16 (by kernel_rfl) 45 (by kernel_rfl); exact h
          refine ifw_want 10 false 39 rfl rfl e39 ?_
          with_reducible refine shown_q (Value.slice ba bn bc) ?qq_3_17 (fun _ _ => ?qr_3_17)
          case qr_3_17 => exact (rfl : (Value.slice ba bn bc) = (Value.slice ba bn bc))
          with_reducible refine quietAt_ld 33 (.tmp 45) (Value.pointer (some ⟨fa, fo + i * 2 + 1, none⟩)) (Value.slice ba bn bc) ?h0_3_17 ?h1_3_17 ?h2_3_17
          case h0_3_17 => rfl
          case h1_3_17 => exact e45
          case h2_3_17 => exact ld33 fa (fo + i * 2 + 1) bn bc ba u (HCe.out u hu).2
        · intro A u hu hpu hsz hout hdeps
          have e39 : A.eval (.tmp 39) = (.bool false) := by have h := depL hdeps 10 (by kernel_rfl) 39 (by kernel_rfl); exact h
          have e46 : A.eval (.tmp 46) = (.slice ba bn bc) := by have h := depL hdeps 17 (by kernel_rfl) 46 (by kernel_rfl); exact h
          refine ifw_want 10 false 39 rfl rfl e39 ?_
          with_reducible refine shown_q (Value.string ⟨l.toArray⟩) ?qq_3_18 (fun _ _ => ?qr_3_18)
          case qr_3_18 => exact (rfl : (Value.string ⟨l.toArray⟩) = (Value.string ⟨l.toArray⟩))
          with_reducible refine quietAt_cv 33 9 (.tmp 46) (Value.slice ba bn bc) (Value.string ⟨l.toArray⟩) ?h0_3_18 ?h1_3_18 ?h2_3_18
          case h0_3_18 => rfl
          case h1_3_18 => exact e46
          case h2_3_18 => exact (HCy.out u hu)
        · intro A u hu hpu hsz hout hdeps
          have e39 : A.eval (.tmp 39) = (.bool false) := by have h := depL hdeps 10 (by kernel_rfl) 39 (by kernel_rfl); exact h
          have e41 : A.eval (.tmp 41) = (.string ⟨l.toArray⟩) := by have h := depL hdeps 12 (by kernel_rfl) 41 (by kernel_rfl); exact h
          have e47 : A.eval (.tmp 47) = (.string ⟨l.toArray⟩) := by have h := depL hdeps 18 (by kernel_rfl) 47 (by kernel_rfl); exact h
          refine ifw_want 10 false 39 rfl rfl e39 ?_
          with_reducible refine shown_q (Value.bool false) ?qq_3_19 (fun _ _ => ?qr_3_19)
          case qr_3_19 => exact (rfl : (Value.bool false) = (Value.bool false))
          with_reducible refine quietAt_bin .neq 9 (.tmp 41) (.tmp 47) 9 (Value.string ⟨l.toArray⟩) (Value.string ⟨l.toArray⟩) (Value.bool false) ?h0_3_19 ?h1_3_19 ?h2_3_19 ?h3_3_19
          case h0_3_19 => rfl
          case h1_3_19 => exact e41
          case h2_3_19 => exact e47
          case h3_3_19 => exact HN2.out _ _ u
        · intro A u hu hpu hsz hout hdeps
          have e36 : A.eval (.tmp 36) = (.bool true) := by have h := depL hdeps 7 (by kernel_rfl) 36 (by kernel_rfl); exact h
          have e39 : A.eval (.tmp 39) = (.bool false) := by have h := depL hdeps 10 (by kernel_rfl) 39 (by kernel_rfl); exact h
          have e48 : A.eval (.tmp 48) = (.bool false) := by have h := depL hdeps 19 (by kernel_rfl) 48 (by kernel_rfl); exact h
          refine ifw_want 7 true 36 rfl rfl e36 ?_
          with_reducible refine shown_q (Value.bool false) ?qq_3_20 (fun _ _ => ?qr_3_20)
          case qr_3_20 => exact (rfl : (Value.bool false) = (Value.bool false))
          with_reducible refine quietAt_pick (.tmp 39) (.const (.bool true)) (.tmp 48) false (Value.bool false) ?h0_3_20 ?h1_3_20 ?h2_3_20
          case h0_3_20 => rfl
          case h1_3_20 => exact e39
          case h2_3_20 => rw [if_neg (by decide)]; exact e48
        · intro A u hu hpu hsz hout hdeps
          have e36 : A.eval (.tmp 36) = (.bool true) := by have h := depL hdeps 7 (by kernel_rfl) 36 (by kernel_rfl); exact h
          have e49 : A.eval (.tmp 49) = (.bool false) := by have h := depL hdeps 20 (by kernel_rfl) 49 (by kernel_rfl); exact h
          refine ifw_none rfl ?_
          with_reducible refine shown_q (Value.bool false) ?qq_3_21 (fun _ _ => ?qr_3_21)
          case qr_3_21 => exact (rfl : (Value.bool false) = (Value.bool false))
          with_reducible refine quietAt_pick (.tmp 36) (.tmp 49) (.const (.bool false)) true (Value.bool false) ?h0_3_21 ?h1_3_21 ?h2_3_21
          case h0_3_21 => rfl
          case h1_3_21 => exact e36
          case h2_3_21 => rw [if_pos rfl]; exact e49
        · intro A u8 listed hh hall
          have hA := hh.frame
          have HU := hid hh.grown
          obtain ⟨x29, hx29⟩ : ∃ x, A.eval (.tmp 29) = x := ⟨_, rfl⟩
          have f29 : (fun v _ => v = (Value.slice (some ⟨fa, fo, none⟩) n fc)) x29 u8 := by rw [← hx29]; exact hh.got 0 _ 29 rfl rfl (hall 0 (by decide))
          obtain ⟨x30, hx30⟩ : ∃ x, A.eval (.tmp 30) = x := ⟨_, rfl⟩
          have f30 : (fun v _ => v = (Value.int .i64 (i : Nat))) x30 u8 := by rw [← hx30]; exact hh.got 1 _ 30 rfl rfl (hall 1 (by decide))
          obtain ⟨x31, hx31⟩ : ∃ x, A.eval (.tmp 31) = x := ⟨_, rfl⟩
          have f31 : (fun v _ => v = (Value.pointer (some ⟨fa, fo + i * 2, none⟩))) x31 u8 := by rw [← hx31]; exact hh.got 2 _ 31 rfl rfl (hall 2 (by decide))
          obtain ⟨x32, hx32⟩ : ∃ x, A.eval (.tmp 32) = x := ⟨_, rfl⟩
          have f32 : (fun v _ => v = (Value.pointer (some ⟨fa, fo + i * 2, none⟩))) x32 u8 := by rw [← hx32]; exact hh.got 3 _ 32 rfl rfl (hall 3 (by decide))
          obtain ⟨x33, hx33⟩ : ∃ x, A.eval (.tmp 33) = x := ⟨_, rfl⟩
          have f33 : (fun v _ => v = (Value.string s)) x33 u8 := by rw [← hx33]; exact hh.got 4 _ 33 rfl rfl (hall 4 (by decide))
          obtain ⟨x34, hx34⟩ : ∃ x, A.eval (.tmp 34) = x := ⟨_, rfl⟩
          have f34 : (fun v _ => v = (Value.string t)) x34 u8 := by rw [← hx34]; exact hh.got 5 _ 34 rfl rfl (hall 5 (by decide))
          obtain ⟨x35, hx35⟩ : ∃ x, A.eval (.tmp 35) = x := ⟨_, rfl⟩
          have f35 : (fun v _ => v = (Value.bool true)) x35 u8 := by rw [← hx35]; exact hh.got 6 _ 35 rfl rfl (hall 6 (by decide))
          obtain ⟨x36, hx36⟩ : ∃ x, A.eval (.tmp 36) = x := ⟨_, rfl⟩
          have f36 : (fun v _ => v = (Value.bool true)) x36 u8 := by rw [← hx36]; exact hh.got 7 _ 36 rfl rfl (hall 7 (by decide))
          obtain ⟨x37, hx37⟩ : ∃ x, A.eval (.tmp 37) = x := ⟨_, rfl⟩
          have f37 : (fun v _ => v = (Value.bool true)) x37 u8 := by rw [← hx37]; exact hh.got 8 _ 37 rfl rfl (hall 8 (by decide))
          obtain ⟨x38, hx38⟩ : ∃ x, A.eval (.tmp 38) = x := ⟨_, rfl⟩
          have f38 : (fun v _ => v = (Value.bool false)) x38 u8 := by rw [← hx38]; exact hh.got 9 _ 38 rfl rfl (hall 9 (by decide))
          obtain ⟨x39, hx39⟩ : ∃ x, A.eval (.tmp 39) = x := ⟨_, rfl⟩
          have f39 : (fun v _ => v = (Value.bool false)) x39 u8 := by rw [← hx39]; exact hh.got 10 _ 39 rfl rfl (hall 10 (by decide))
          obtain ⟨x40, hx40⟩ : ∃ x, A.eval (.tmp 40) = x := ⟨_, rfl⟩
          have f40 : (fun v _ => v = (Value.slice ca bn cc)) x40 u8 := by rw [← hx40]; exact hh.got 11 _ 40 rfl rfl (hall 11 (by decide))
          obtain ⟨x41, hx41⟩ : ∃ x, A.eval (.tmp 41) = x := ⟨_, rfl⟩
          have f41 : (fun v _ => v = (Value.string ⟨l.toArray⟩)) x41 u8 := by rw [← hx41]; exact hh.got 12 _ 41 rfl rfl (hall 12 (by decide))
          obtain ⟨x42, hx42⟩ : ∃ x, A.eval (.tmp 42) = x := ⟨_, rfl⟩
          have f42 : (fun v _ => v = (Value.slice (some ⟨fa, fo, none⟩) n fc)) x42 u8 := by rw [← hx42]; exact hh.got 13 _ 42 rfl rfl (hall 13 (by decide))
          obtain ⟨x43, hx43⟩ : ∃ x, A.eval (.tmp 43) = x := ⟨_, rfl⟩
          have f43 : (fun v _ => v = (Value.int .i64 (i : Nat))) x43 u8 := by rw [← hx43]; exact hh.got 14 _ 43 rfl rfl (hall 14 (by decide))
          obtain ⟨x44, hx44⟩ : ∃ x, A.eval (.tmp 44) = x := ⟨_, rfl⟩
          have f44 : (fun v _ => v = (Value.pointer (some ⟨fa, fo + i * 2, none⟩))) x44 u8 := by rw [← hx44]; exact hh.got 15 _ 44 rfl rfl (hall 15 (by decide))
          obtain ⟨x45, hx45⟩ : ∃ x, A.eval (.tmp 45) = x := ⟨_, rfl⟩
          have f45 : (fun v _ => v = (Value.pointer (some ⟨fa, fo + i * 2 + 1, none⟩))) x45 u8 := by rw [← hx45]; exact hh.got 16 _ 45 rfl rfl (hall 16 (by decide))
          obtain ⟨x46, hx46⟩ : ∃ x, A.eval (.tmp 46) = x := ⟨_, rfl⟩
          have f46 : (fun v _ => v = (Value.slice ba bn bc)) x46 u8 := by rw [← hx46]; exact hh.got 17 _ 46 rfl rfl (hall 17 (by decide))
          obtain ⟨x47, hx47⟩ : ∃ x, A.eval (.tmp 47) = x := ⟨_, rfl⟩
          have f47 : (fun v _ => v = (Value.string ⟨l.toArray⟩)) x47 u8 := by rw [← hx47]; exact hh.got 18 _ 47 rfl rfl (hall 18 (by decide))
          obtain ⟨x48, hx48⟩ : ∃ x, A.eval (.tmp 48) = x := ⟨_, rfl⟩
          have f48 : (fun v _ => v = (Value.bool false)) x48 u8 := by rw [← hx48]; exact hh.got 19 _ 48 rfl rfl (hall 19 (by decide))
          obtain ⟨x49, hx49⟩ : ∃ x, A.eval (.tmp 49) = x := ⟨_, rfl⟩
          have f49 : (fun v _ => v = (Value.bool false)) x49 u8 := by rw [← hx49]; exact hh.got 20 _ 49 rfl rfl (hall 20 (by decide))
          obtain ⟨x50, hx50⟩ : ∃ x, A.eval (.tmp 50) = x := ⟨_, rfl⟩
          have f50 : (fun v _ => v = (Value.bool false)) x50 u8 := by rw [← hx50]; exact hh.got 21 _ 50 rfl rfl (hall 21 (by decide))
          dsimp only [wrote, List.foldl] at hA
          rw [hx29, hx30, hx31, hx32, hx33, hx34, hx35, hx36, hx37, hx38, hx39, hx40, hx41, hx42, hx43, hx44, hx45, hx46, hx47, hx48, hx49, hx50] at hA
          clear hh hall hx29 hx30 hx31 hx32 hx33 hx34 hx35 hx36 hx37 hx38 hx39 hx40 hx41 hx42 hx43 hx44 hx45 hx46 hx47 hx48 hx49 hx50
          replace f29 := (f29 : x29 = (.slice (some ⟨fa, fo, none⟩) n fc))
          subst f29
          replace f30 := (f30 : x30 = (.int .i64 (i : Nat)))
          subst f30
          replace f31 := (f31 : x31 = (.pointer (some ⟨fa, fo + i * 2, none⟩)))
          subst f31
          replace f32 := (f32 : x32 = (.pointer (some ⟨fa, fo + i * 2, none⟩)))
          subst f32
          replace f33 := (f33 : x33 = (.string s))
          subst f33
          replace f34 := (f34 : x34 = (.string t))
          subst f34
          replace f35 := (f35 : x35 = (.bool true))
          subst f35
          replace f36 := (f36 : x36 = (.bool true))
          subst f36
          replace f37 := (f37 : x37 = (.bool true))
          subst f37
          replace f38 := (f38 : x38 = (.bool false))
          subst f38
          replace f39 := (f39 : x39 = (.bool false))
          subst f39
          replace f40 := (f40 : x40 = (.slice ca bn cc))
          subst f40
          replace f41 := (f41 : x41 = (.string ⟨l.toArray⟩))
          subst f41
          replace f42 := (f42 : x42 = (.slice (some ⟨fa, fo, none⟩) n fc))
          subst f42
          replace f43 := (f43 : x43 = (.int .i64 (i : Nat)))
          subst f43
          replace f44 := (f44 : x44 = (.pointer (some ⟨fa, fo + i * 2, none⟩)))
          subst f44
          replace f45 := (f45 : x45 = (.pointer (some ⟨fa, fo + i * 2 + 1, none⟩)))
          subst f45
          replace f46 := (f46 : x46 = (.slice ba bn bc))
          subst f46
          replace f47 := (f47 : x47 = (.string ⟨l.toArray⟩))
          subst f47
          replace f48 := (f48 : x48 = (.bool false))
          subst f48
          replace f49 := (f49 : x49 = (.bool false))
          subst f49
          replace f50 := (f50 : x50 = (.bool false))
          subst f50
          subst hA
          show wpList _ _ _ [] _ _
          unfold wpList
          simp only [Act.put, List.setIfInBounds_toArray, List.set_cons_succ, List.set_cons_zero]
          go_wp2_with fail
          go_roundw
          case rel => exact ⟨i + 1, by go_num, by omega, hid (gtrans HG.out HU.out)⟩
          case measure => simp [intOf]; omega
    · as_aux_lemma =>
      have hge : ¬ (i : Int) < (n : Int) := by omega
      have hin : i = n := by omega
      go_upto_region 8 with fail
      go_loopw [10] (fun iv wr => ∃ i : Nat, iv = .int .i64 i ∧ i ≤ mm ∧ Hid (w.grownBy wr none)) (fun iv _ => mm - (intOf iv).toNat)
      case atStart => exact ⟨0, rfl, by omega, HG⟩
      case round =>
        obtain ⟨j, rfl, hj, HG'⟩ := hrel
        obtain ⟨w1, hw1⟩ : ∃ x : World, x = wr := ⟨_, rfl⟩
        rw [← hw1] at HG' ⊢
        clear hw1
        by_cases hlt : j < mm
        · as_aux_lemma =>
          have hlt' : (j : Int) < (mm : Int) := by omega
          have hjM : j < M.length := by rw [HNm.out]; exact hlt
          obtain ⟨rfl, -⟩ := (HAb.out w1 HG'.out).at_ (by omega)
          obtain ⟨q, Hq⟩ : ∃ x, Hid (M[j] = x) := ⟨_, hid rfl⟩
          obtain ⟨s, l⟩ := q
          have c1 : w1.cell? ⟨fb, go + j * 2, none⟩ = some (.string s) := by have := ((HAb.out w1 HG'.out).each j hjM).1; rw [Hq.out] at this; exact this
          have HIn : Hid ((s, l) ∈ M) := hid (by rw [← Hq.out]; exact List.getElem_mem _)
          clear Hq
          have HFs := hid (HFl.out w1 HG'.out s)
          by_cases hst : s = t
          · have hb : (s.toList == t.toList) = true := by rw [ba_dec, decide_eq_true hst]
            obtain ⟨D, hD⟩ : ∃ D, (getC L s).isSome = D := ⟨_, rfl⟩
            rw [hD] at HFs
            clear hst hD
            go_wp2_with (go_at_call 20; refine HFs.out.mono ?_; rintro e w2 ⟨rfl, v, rfl, hv⟩)
            go_roundw
            case rel => exact ⟨j + 1, by go_num, by omega, HG'⟩
            case measure => simp [intOf]; omega
          · have hb : (s.toList == t.toList) = false := by rw [ba_dec, decide_eq_false hst]
            rw [H2.out (s, l) HIn.out hst] at HFs
            clear hst
            go_wp2_with (go_at_call 20; refine HFs.out.mono ?_; rintro e w2 ⟨rfl, v, rfl, hv⟩)
            go_roundw
            case rel => exact ⟨j + 1, by go_num, by omega, HG'⟩
            case measure => simp [intOf]; omega
        · as_aux_lemma =>
          have hge : ¬ (j : Int) < (mm : Int) := by omega
          go_wp2_with fail
          go_ret
          exact ⟨rfl, HG'.out⟩
end Go.Proofs.Ytlgjmdianmijeaa
