/- BackFiles. -/
import Derived.Test.YtlgjmdianmijeaaGreatX24
namespace Go.Proofs.YtlgjmdianmijeaaGreat
open Go Go.RowKit Go.MapKept Go.MuLone
open Go.RowKit (wrap32 wrap64)

variable {w w' u u' : World} {B : Nat}
theorem LentF.keep {v : Value} {E : List Fl} (h : LentF B w v E) (hg : w.grownBy w' none) : LentF B w' v E := by
  obtain ⟨⟨g, cap, h1, h2, h3⟩, h4, h5⟩ := h
  exact ⟨⟨g, cap, h1, h2, h3.keep hg⟩, fun f hf => (h4 f hf).keep hg, h5⟩
/-- The cells of what is lent. -/
theorem LentF.cells {g n cap : Nat} {E : List Fl} (h : LentF B w (.slice (some ⟨g, 0, none⟩) n cap) E) : n = E.length ∧ n + 9 ≤ cap ∧ g < w.heap.size ∧ (∀ i (hi : i < E.length), w.cell? ⟨g, i * 2, none⟩ = some (.string (E[i]).nm) ∧ w.cell? ⟨g, i * 2 + 1, none⟩ = some (E[i]).v) ∧ ∀ j, j < 9 → w.cell? ⟨g, (n + j) * 2, none⟩ = some (.string mkN) ∧ w.cell? ⟨g, (n + j) * 2 + 1, none⟩ = some (.slice none 0 0) := by
  obtain ⟨⟨g', cap', h1, h2, h3⟩, h4, h5⟩ := h
  injection h1 with e1 e2 e3
  injection e1 with e1
  injection e1 with e1 _ _
  subst e1; subst e3; subst e2
  obtain ⟨q1, q2, q3, q4⟩ := h3.cells
  refine ⟨rfl, h2, q3, fun i hi => ?_, fun j hj => ?_⟩
  · have hi' : i < (E ++ List.replicate 9 mkF).length := by rw [List.length_append]; omega
    have h6 := fcs_get (E ++ List.replicate 9 mkF) i hi'
    rw [List.getElem_append_left hi] at h6
    exact ⟨q4 _ _ h6.1, q4 _ _ h6.2⟩
  · have hi' : E.length + j < (E ++ List.replicate 9 mkF).length := by rw [List.length_append, List.length_replicate]; omega
    have h6 := fcs_get (E ++ List.replicate 9 mkF) (E.length + j) hi'
    rw [List.getElem_append_right (by omega), List.getElem_replicate] at h6
    exact ⟨q4 _ _ h6.1, q4 _ _ h6.2⟩
set_option maxRecDepth 100000 in
set_option maxHeartbeats 4000000 in
theorem backFiles_any (w : World) (B : Nat) (v : Value) (E : List Fl) (Fb : Nat → Prop) (a' : Option Addr) (fb go gc : Nat) (hA : LentF B w v E) (hB : ArF w Fb a' fb go (cont E)) (hL : E.length ≤ 100000) (hb : ∀ f ∈ E, f.bs.length ≤ 1000000000) :
    Calls Tryz.prog 77 #[v, .slice a' E.length gc] w fun e w' => e = .returned (.bool true) ∧ w.grownBy w' none := by
  obtain ⟨fa, fc, hv, hfc, -⟩ := hA.row
  subst hv
  have HAa : Hid (∀ u, w.grownBy u none → LentF B u (.slice (some ⟨fa, 0, none⟩) E.length fc) E) := hid (fun u hu => hA.keep hu)
  have HAb : Hid (∀ u, w.grownBy u none → ArF u Fb a' fb go (cont E)) := hid (fun u hu => hB.keep hu)
  have HBl := hid hb
  obtain ⟨n, HN⟩ : ∃ n, Hid (E.length = n) := ⟨_, hid rfl⟩
  rw [HN.out] at hL hfc HAa ⊢
  have hfc' : (n : Int) + 9 ≤ (fc : Int) := by omega
  clear hA hB hb
  go_enter Tryz.func77, Tryz.ntmps77
  go_upto_region 4 with fail
  go_loopw [5] (fun iv wr => ∃ i : Nat, iv = .int .i64 i ∧ i ≤ n ∧ Hid (w.grownBy wr none)) (fun iv _ => n - (intOf iv).toNat)
  case atStart => exact ⟨0, rfl, by omega, hid (grefl _ _)⟩
  case round =>
    obtain ⟨i, rfl, hi, HG⟩ := hrel
    obtain ⟨w0, hw0⟩ : ∃ x : World, x = wr := ⟨_, rfl⟩
    rw [← hw0] at HG ⊢
    clear hw0
    by_cases hlt : i < n
    · as_aux_lemma =>
      have hlt' : (i : Int) < (n : Int) := by omega
      have hiL : i < E.length := by rw [HN.out]; exact hlt
      have hiC : i < (cont E).length := by rw [len_cont]; exact hiL
      obtain ⟨rfl, hfb, -⟩ := (HAb.out w0 HG.out).at_ (by omega)
      obtain ⟨f, Hq⟩ : ∃ x, Hid (E[i] = x) := ⟨_, hid rfl⟩
      have HfE : Hid (f ∈ E) := hid (by rw [← Hq.out]; exact List.getElem_mem _)
      obtain ⟨s, v, l⟩ := f
      have HLt : Hid (Lent w0 B v l) := hid ((HAa.out w0 HG.out).lent _ HfE.out)
      have HLl : Hid (l.length ≤ 1000000000) := hid (HBl.out _ HfE.out)
      obtain ⟨ba, bc, rfl⟩ := HLt.out.len
      obtain ⟨bn, HBn⟩ : ∃ x, Hid (l.length = x) := ⟨_, hid rfl⟩
      have HCc := hid ((HAa.out w0 HG.out).cells.2.2.2.1 i hiL)
      rw [Hq.out] at HCc
      have HDd := hid ((HAb.out w0 HG.out).each i hiC)
      have hqc : (cont E)[i] = (s, l) := by simp [cont, Hq.out]
      rw [hqc] at HDd
      obtain ⟨v', hu1, hu2⟩ := HDd.out.2
      have HV' := hid hu2
      obtain ⟨ca, -, -, cc, rfl, -⟩ := hu2
      rw [HBn.out] at HV' hu1 HLt HCc
      have hfa : fa < w0.heap.size := (HAa.out w0 HG.out).cells.2.2.1
      have HRA : Hid (∀ u, w0.grownBy u none → u.rangeAt fa (0 + i * 2) [.string s, .slice ba bn bc]) := hid (fun u hu => by
        rw [Nat.zero_add]
        exact two_range ((cell_at hu hfa (by simp)).trans HCc.out.1) ((cell_at hu hfa (by simp)).trans HCc.out.2))
      have HRB : Hid (∀ u, w0.grownBy u none → u.rangeAt fb (go + i * 2) [.string s, .slice ca bn cc]) := hid (fun u hu =>
        two_range ((cell_at hu hfb (by simp)).trans HDd.out.1) ((cell_at hu hfb (by simp)).trans hu1))
      have HEq : Hid (∀ u, w0.grownBy u none → Calls Tryz.prog 126 #[.agg [Value.string s, .slice ba bn bc].toArray, .agg [Value.string s, .slice ca bn cc].toArray] u fun e w' => ∃ v, e = .returned v ∧ u.grownBy w' none ∧ v = Value.bool true) := hid (fun u hu => (backFile_any u s ba ca bn bc cc B Fb l (HLt.out.keep hu) (HV'.out.keep hu) HLl.out).mono fun e w' ⟨h1, h2⟩ => ⟨_, h1, h2, rfl⟩)
      clear hu1 HCc HDd Hq hqc HfE HLt HV'
      go_upto_region 6 with fail
      refine wp_region_listX (by kernel_rfl) [fun v _ => v = (Value.slice (some ⟨fa, 0, none⟩) n fc), fun v _ => v = (Value.int .i64 (i : Nat)), fun v _ => v = (Value.pointer (some ⟨fa, 0 + i * 2, none⟩)), fun v _ => v = (Value.agg [Value.string s, Value.slice ba bn bc].toArray), fun v _ => v = (Value.slice (some ⟨fb, go, none⟩) n gc), fun v _ => v = (Value.int .i64 (i : Nat)), fun v _ => v = (Value.pointer (some ⟨fb, go + i * 2, none⟩)), fun v _ => v = (Value.agg [Value.string s, Value.slice ca bn cc].toArray), fun v _ => v = Value.bool true, fun v _ => v = (Value.bool false)] (none) (fun _ => none) 10 (by kernel_rfl) (by kernel_rfl) (by kernel_rfl) (by kernel_rfl) (by decide) noRow_one (fun _ => .inl rfl) ⟨fun i v u u' hki h hg => h, fun i v u u' hki h hg => h, fun i v u u' hki h hg => h, fun i v u u' hki h hg => h, fun i v u u' hki h hg => h, fun i v u u' hki h hg => h, fun i v u u' hki h hg => h, fun i v u u' hki h hg => h, fun i v u u' hki h hg => h, fun i v u u' hki h hg => h, trivial⟩ ⟨?_, ?_, ?_, ?_, ?_, ?_, ?_, ?_, ?_, ?_, trivial⟩ ?_
      · intro A u hu hpu hsz hout hdeps
        have e0 : A.eval (.tmp 0) = (.slice (some ⟨fa, 0, none⟩) n fc) := (hout 0 (by kernel_rfl)).trans rfl
        refine ifw_none rfl ?_
        with_reducible refine shown_q (Value.slice (some ⟨fa, 0, none⟩) n fc) ?qq_1_0 (fun _ _ => ?qr_1_0)
        case qr_1_0 => exact (rfl : (Value.slice (some ⟨fa, 0, none⟩) n fc) = (Value.slice (some ⟨fa, 0, none⟩) n fc))
        with_reducible refine quietAt_mv (.tmp 0) (Value.slice (some ⟨fa, 0, none⟩) n fc) ?h0_1_0 ?h1_1_0
        case h0_1_0 => rfl
        case h1_1_0 => exact e0
      · intro A u hu hpu hsz hout hdeps
        have e5 : A.eval (.tmp 5) = (.int .i64 (i : Nat)) := (hout 5 (by kernel_rfl)).trans rfl
        refine ifw_none rfl ?_
        with_reducible refine shown_q (Value.int .i64 (i : Nat)) ?qq_1_1 (fun _ _ => ?qr_1_1)
        case qr_1_1 => exact (rfl : (Value.int .i64 (i : Nat)) = (Value.int .i64 (i : Nat)))
        with_reducible refine quietAt_mv (.tmp 5) (Value.int .i64 (i : Nat)) ?h0_1_1 ?h1_1_1
        case h0_1_1 => rfl
        case h1_1_1 => exact e5
      · intro A u hu hpu hsz hout hdeps
        have e19 : A.eval (.tmp 19) = (.slice (some ⟨fa, 0, none⟩) n fc) := by have h := depL hdeps 0 (by kernel_rfl) 19 (by kernel_rfl); exact h
        have e20 : A.eval (.tmp 20) = (.int .i64 (i : Nat)) := by have h := depL hdeps 1 (by kernel_rfl) 20 (by kernel_rfl); exact h
        refine ifw_none rfl ?_
        with_reducible refine shown_q (Value.pointer (some ⟨fa, 0 + i * 2, none⟩)) ?qq_1_2 (fun _ _ => ?qr_1_2)
        case qr_1_2 => exact (rfl : (Value.pointer (some ⟨fa, 0 + i * 2, none⟩)) = (Value.pointer (some ⟨fa, 0 + i * 2, none⟩)))
        with_reducible refine quietAt_idx 66 (.tmp 19) (.tmp 20) (Value.slice (some ⟨fa, 0, none⟩) n fc) (Value.int .i64 (i : Nat)) (Value.pointer (some ⟨fa, 0 + i * 2, none⟩)) ?h0_1_2 ?h1_1_2 ?h2_1_2 ?h3_1_2
        case h0_1_2 => rfl
        case h1_1_2 => exact e19
        case h2_1_2 => exact e20
        case h3_1_2 => exact idx34 fa 0 n fc i hlt u
      · intro A u hu hpu hsz hout hdeps
        have e21 : A.eval (.tmp 21) = (.pointer (some ⟨fa, 0 + i * 2, none⟩)) := by have h := depL hdeps 2 (by kernel_rfl) 21 (by kernel_rfl); exact h
        refine ifw_none rfl ?_
        with_reducible refine shown_q (Value.agg [Value.string s, Value.slice ba bn bc].toArray) ?qq_1_3 (fun _ _ => ?qr_1_3)
        case qr_1_3 => exact (rfl : (Value.agg [Value.string s, Value.slice ba bn bc].toArray) = (Value.agg [Value.string s, Value.slice ba bn bc].toArray))
        with_reducible refine quietAt_load 130 (.tmp 21) ?h0_1_3 fa (0 + i * 2) [Value.string s, Value.slice ba bn bc] (.struct (Tryz.prog.fieldsOf 130)) ?h1_1_3 ?h2_1_3 ?h3_1_3 ?h4_1_3 ?h5_1_3
        case h0_1_3 => rfl
        case h1_1_3 => exact e21
        case h2_1_3 => exact (HRA.out u hu)
        case h3_1_3 => exact Tryz.underlying130
        case h4_1_3 => rfl
        case h5_1_3 => exact Tryz.size130
      · intro A u hu hpu hsz hout hdeps
        have e1 : A.eval (.tmp 1) = (.slice (some ⟨fb, go, none⟩) n gc) := (hout 1 (by kernel_rfl)).trans rfl
        refine ifw_none rfl ?_
        with_reducible refine shown_q (Value.slice (some ⟨fb, go, none⟩) n gc) ?qq_1_4 (fun _ _ => ?qr_1_4)
        case qr_1_4 => exact (rfl : (Value.slice (some ⟨fb, go, none⟩) n gc) = (Value.slice (some ⟨fb, go, none⟩) n gc))
        with_reducible refine quietAt_mv (.tmp 1) (Value.slice (some ⟨fb, go, none⟩) n gc) ?h0_1_4 ?h1_1_4
        case h0_1_4 => rfl
        case h1_1_4 => exact e1
      · intro A u hu hpu hsz hout hdeps
        have e5 : A.eval (.tmp 5) = (.int .i64 (i : Nat)) := (hout 5 (by kernel_rfl)).trans rfl
        refine ifw_none rfl ?_
        with_reducible refine shown_q (Value.int .i64 (i : Nat)) ?qq_1_5 (fun _ _ => ?qr_1_5)
        case qr_1_5 => exact (rfl : (Value.int .i64 (i : Nat)) = (Value.int .i64 (i : Nat)))
        with_reducible refine quietAt_mv (.tmp 5) (Value.int .i64 (i : Nat)) ?h0_1_5 ?h1_1_5
        case h0_1_5 => rfl
        case h1_1_5 => exact e5
      · intro A u hu hpu hsz hout hdeps
        have e23 : A.eval (.tmp 23) = (.slice (some ⟨fb, go, none⟩) n gc) := by have h := depL hdeps 4 (by kernel_rfl) 23 (by kernel_rfl); exact h
        have e24 : A.eval (.tmp 24) = (.int .i64 (i : Nat)) := by have h := depL hdeps 5 (by kernel_rfl) 24 (by kernel_rfl); exact h
        refine ifw_none rfl ?_
        with_reducible refine shown_q (Value.pointer (some ⟨fb, go + i * 2, none⟩)) ?qq_1_6 (fun _ _ => ?qr_1_6)
        case qr_1_6 => exact (rfl : (Value.pointer (some ⟨fb, go + i * 2, none⟩)) = (Value.pointer (some ⟨fb, go + i * 2, none⟩)))
        with_reducible refine quietAt_idx 66 (.tmp 23) (.tmp 24) (Value.slice (some ⟨fb, go, none⟩) n gc) (Value.int .i64 (i : Nat)) (Value.pointer (some ⟨fb, go + i * 2, none⟩)) ?h0_1_6 ?h1_1_6 ?h2_1_6 ?h3_1_6
        case h0_1_6 => rfl
        case h1_1_6 => exact e23
        case h2_1_6 => exact e24
        case h3_1_6 => exact idx34 fb go n gc i hlt u
      · intro A u hu hpu hsz hout hdeps
        have e25 : A.eval (.tmp 25) = (.pointer (some ⟨fb, go + i * 2, none⟩)) := by have h := depL hdeps 6 (by kernel_rfl) 25 (by kernel_rfl); exact h
        refine ifw_none rfl ?_
        with_reducible refine shown_q (Value.agg [Value.string s, Value.slice ca bn cc].toArray) ?qq_1_7 (fun _ _ => ?qr_1_7)
        case qr_1_7 => exact (rfl : (Value.agg [Value.string s, Value.slice ca bn cc].toArray) = (Value.agg [Value.string s, Value.slice ca bn cc].toArray))
        with_reducible refine quietAt_load 130 (.tmp 25) ?h0_1_7 fb (go + i * 2) [Value.string s, Value.slice ca bn cc] (.struct (Tryz.prog.fieldsOf 130)) ?h1_1_7 ?h2_1_7 ?h3_1_7 ?h4_1_7 ?h5_1_7
        case h0_1_7 => rfl
        case h1_1_7 => exact e25
        case h2_1_7 => exact (HRB.out u hu)
        case h3_1_7 => exact Tryz.underlying130
        case h4_1_7 => rfl
        case h5_1_7 => exact Tryz.size130
      · intro A u hu hpu hsz hout hdeps
        have e22 : A.eval (.tmp 22) = (.agg [Value.string s, .slice ba bn bc].toArray) := by have h := depL hdeps 3 (by kernel_rfl) 22 (by kernel_rfl); exact h
        have e26 : A.eval (.tmp 26) = (.agg [Value.string s, .slice ca bn cc].toArray) := by have h := depL hdeps 7 (by kernel_rfl) 26 (by kernel_rfl); exact h
        refine ifw_none rfl ?_
        with_reducible refine shown_call 126 Tryz.f126 ?h0_1_8 ?h1_1_8 ?h2_1_8 #[.tmp 22, .tmp 26] #[130, 130] ?h3_1_8 #[(Value.agg [Value.string s, Value.slice ba bn bc].toArray), (Value.agg [Value.string s, Value.slice ca bn cc].toArray)] ?h4_1_8 ?h5_1_8
        case h0_1_8 => exact Tryz.func126
        case h1_1_8 => kernel_rfl
        case h2_1_8 => kernel_rfl
        case h3_1_8 => rfl
        case h4_1_8 => exact map2 _ _ _ _ _ e22 e26
        case h5_1_8 => exact HEq.out u hu
      · intro A u hu hpu hsz hout hdeps
        have f27 : (fun v _ => v = Value.bool true) (A.eval (.tmp 27)) u := by have h := depL hdeps 8 (by kernel_rfl) 27 (by kernel_rfl); exact h
        have e27 := (f27 : _ = Value.bool true)
        refine ifw_none rfl ?_
        with_reducible refine shown_q (Value.bool false) ?qq_1_9 (fun _ _ => ?qr_1_9)
        case qr_1_9 => exact (rfl : (Value.bool false) = (Value.bool false))
        with_reducible refine quietAt_un .not 4 (.tmp 27) (Value.bool true) (Value.bool false) ?h0_1_9 ?h1_1_9 ?h2_1_9
        case h0_1_9 => rfl
        case h1_1_9 => exact e27
        case h2_1_9 => rfl
      · intro A u8 listed hh hall
        have hA := hh.frame
        have HU := hid hh.grown
        obtain ⟨x19, hx19⟩ : ∃ x, A.eval (.tmp 19) = x := ⟨_, rfl⟩
        have f19 : (fun v _ => v = (Value.slice (some ⟨fa, 0, none⟩) n fc)) x19 u8 := by rw [← hx19]; exact hh.got 0 _ 19 rfl rfl (hall 0 (by decide))
        obtain ⟨x20, hx20⟩ : ∃ x, A.eval (.tmp 20) = x := ⟨_, rfl⟩
        have f20 : (fun v _ => v = (Value.int .i64 (i : Nat))) x20 u8 := by rw [← hx20]; exact hh.got 1 _ 20 rfl rfl (hall 1 (by decide))
        obtain ⟨x21, hx21⟩ : ∃ x, A.eval (.tmp 21) = x := ⟨_, rfl⟩
        have f21 : (fun v _ => v = (Value.pointer (some ⟨fa, 0 + i * 2, none⟩))) x21 u8 := by rw [← hx21]; exact hh.got 2 _ 21 rfl rfl (hall 2 (by decide))
        obtain ⟨x22, hx22⟩ : ∃ x, A.eval (.tmp 22) = x := ⟨_, rfl⟩
        have f22 : (fun v _ => v = (Value.agg [Value.string s, Value.slice ba bn bc].toArray)) x22 u8 := by rw [← hx22]; exact hh.got 3 _ 22 rfl rfl (hall 3 (by decide))
        obtain ⟨x23, hx23⟩ : ∃ x, A.eval (.tmp 23) = x := ⟨_, rfl⟩
        have f23 : (fun v _ => v = (Value.slice (some ⟨fb, go, none⟩) n gc)) x23 u8 := by rw [← hx23]; exact hh.got 4 _ 23 rfl rfl (hall 4 (by decide))
        obtain ⟨x24, hx24⟩ : ∃ x, A.eval (.tmp 24) = x := ⟨_, rfl⟩
        have f24 : (fun v _ => v = (Value.int .i64 (i : Nat))) x24 u8 := by rw [← hx24]; exact hh.got 5 _ 24 rfl rfl (hall 5 (by decide))
        obtain ⟨x25, hx25⟩ : ∃ x, A.eval (.tmp 25) = x := ⟨_, rfl⟩
        have f25 : (fun v _ => v = (Value.pointer (some ⟨fb, go + i * 2, none⟩))) x25 u8 := by rw [← hx25]; exact hh.got 6 _ 25 rfl rfl (hall 6 (by decide))
        obtain ⟨x26, hx26⟩ : ∃ x, A.eval (.tmp 26) = x := ⟨_, rfl⟩
        have f26 : (fun v _ => v = (Value.agg [Value.string s, Value.slice ca bn cc].toArray)) x26 u8 := by rw [← hx26]; exact hh.got 7 _ 26 rfl rfl (hall 7 (by decide))
        obtain ⟨x27, hx27⟩ : ∃ x, A.eval (.tmp 27) = x := ⟨_, rfl⟩
        have f27 : (fun v _ => v = Value.bool true) x27 u8 := by rw [← hx27]; exact hh.got 8 _ 27 rfl rfl (hall 8 (by decide))
        obtain ⟨x28, hx28⟩ : ∃ x, A.eval (.tmp 28) = x := ⟨_, rfl⟩
        have f28 : (fun v _ => v = (Value.bool false)) x28 u8 := by rw [← hx28]; exact hh.got 9 _ 28 rfl rfl (hall 9 (by decide))
        dsimp only [wrote, List.foldl] at hA
        rw [hx19, hx20, hx21, hx22, hx23, hx24, hx25, hx26, hx27, hx28] at hA
        clear hh hall hx19 hx20 hx21 hx22 hx23 hx24 hx25 hx26 hx27 hx28
        replace f19 := (f19 : x19 = (.slice (some ⟨fa, 0, none⟩) n fc))
        subst f19
        replace f20 := (f20 : x20 = (.int .i64 (i : Nat)))
        subst f20
        replace f21 := (f21 : x21 = (.pointer (some ⟨fa, 0 + i * 2, none⟩)))
        subst f21
        replace f22 := (f22 : x22 = (.agg [Value.string s, .slice ba bn bc].toArray))
        subst f22
        replace f23 := (f23 : x23 = (.slice (some ⟨fb, go, none⟩) n gc))
        subst f23
        replace f24 := (f24 : x24 = (.int .i64 (i : Nat)))
        subst f24
        replace f25 := (f25 : x25 = (.pointer (some ⟨fb, go + i * 2, none⟩)))
        subst f25
        replace f26 := (f26 : x26 = (.agg [Value.string s, .slice ca bn cc].toArray))
        subst f26
        have e27 := (f27 : _ = Value.bool true)
        subst e27
        replace f28 := (f28 : x28 = (.bool false))
        subst f28
        subst hA
        show wpList _ _ _ [] _ _
        unfold wpList
        simp only [Act.put, List.setIfInBounds_toArray, List.set_cons_succ, List.set_cons_zero]
        go_wp2_with fail
        go_roundw
        case rel => exact ⟨i + 1, by go_num, by omega, hid (gtrans HG.out HU.out)⟩
        case measure => simp [intOf]; omega
    · as_aux_lemma =>
      have hge : ¬ (i : Int) < (n : Int) := by omega
      go_upto_region 10 with fail
      go_loopw [7] (fun iv wr => ∃ j : Nat, iv = .int .i64 (n + j : Nat) ∧ j ≤ 9 ∧ Hid (w.grownBy wr none)) (fun iv _ => n + 9 - (intOf iv).toNat)
      case atStart => exact ⟨0, rfl, by omega, HG⟩
      case round =>
        obtain ⟨j, rfl, hj, HG2⟩ := hrel
        obtain ⟨v0, hv0⟩ : ∃ x : World, x = wr := ⟨_, rfl⟩
        rw [← hv0] at HG2 ⊢
        clear hv0
        obtain ⟨m, hm⟩ : ∃ m, n + j = m := ⟨_, rfl⟩
        rw [hm]
        by_cases hjl : j < 9
        · as_aux_lemma =>
          have hml : (m : Int) < (n : Int) + 9 := by omega
          have hc9 := (HAa.out v0 HG2.out).cells.2.2.2.2 j hjl
          rw [hm] at hc9
          obtain ⟨c1, c2⟩ := hc9
          replace c1 : v0.cell? ⟨fa, m * 2, none⟩ = some (.string ⟨#[109, 97, 114, 107]⟩) := c1
          go_wp2_with fail
          go_roundw
          case rel => exact ⟨j + 1, by rw [← hm]; go_num, by omega, HG2⟩
          case measure => simp [intOf]; omega
        · as_aux_lemma =>
          have hmg : ¬ (m : Int) < (n : Int) + 9 := by omega
          go_wp2_with fail
          go_ret
          exact ⟨rfl, HG2.out⟩
end Go.Proofs.YtlgjmdianmijeaaGreat

namespace Go.Proofs.YtlgjmdianmijeaaGreat
open Go Go.RowKit Go.MapKept Go.MuLone
open Go.RowKit (wrap32 wrap64)

variable {w w' u u' : World} {B : Nat}
def ovN : ByteArray := ⟨#[111, 118, 101, 114]⟩
theorem builtO : Tryz.prog.built 130 [(0, .string ovN)] = some [Value.string ovN, .slice none 0 0].toArray := by kernel_rfl
theorem splice_behind (cs : List Value) (x y : Value) (i k : Nat) (hi : i + 2 ≤ cs.length) (hk : i + 2 ≤ k) : (splice cs i [x, y])[k]? = cs[k]? := by
  unfold splice
  rw [List.getElem?_append_right (by simp; omega), List.getElem?_append_right (by simp; omega), List.getElem?_drop]
  congr 1
  simp
  omega
/-- Files under way: those from i on stand yet. -/
structure OvF (B : Nat) (w u : World) (g i : Nat) (E : List Fl) (P : Nat → Prop) : Prop where
  blk : ∃ cs, Blk u g cs 130 ∧ E.length * 2 ≤ cs.length ∧ ∀ j, i ≤ j → (hj : j < E.length) → cs[j * 2]? = some (.string (E[j]).nm) ∧ cs[j * 2 + 1]? = some (E[j]).v
  own : ∀ j, i ≤ j → (hj : j < E.length) → Out B u (E[j]).v (E[j]).bs
  df : DF w u P
set_option maxRecDepth 100000 in
set_option maxHeartbeats 4000000 in
theorem overFiles_any (w : World) (B C : Nat) (v : Value) (E : List Fl) (hA : LentF B w v E) (hv : ∀ k, v.ownBlock = some k → k < C) (hf : ∀ f ∈ E, ∀ k, f.v.ownBlock = some k → k < C) (hL : E.length ≤ 100000) (hb : ∀ f ∈ E, f.bs.length ≤ 1000000000) :
    Calls Tryz.prog 78 #[v] w fun e w' => e = .returned (.tuple #[]) ∧ DF w w' (fun k => B ≤ k ∧ k < C) := by
  obtain ⟨g, cap, rfl, hcap, hO⟩ := hA.row
  have HSt : Hid (OvF B w w g 0 E (fun k => B ≤ k ∧ k < C)) := hid (by
    obtain ⟨q1, cs, q2, q3, q4, -⟩ := hO.blk
    refine ⟨⟨cs, q2, by omega, fun j _ hj => ?_⟩, fun j _ hj => (hA.lent _ (List.getElem_mem hj)).out, DF.of (grefl _ _)⟩
    have q5 := hA.cells.2.2.2.1 j hj
    exact ⟨(q2.cell _).symm.trans q5.1, (q2.cell _).symm.trans q5.2⟩)
  have hgB : B ≤ g := hO.low g rfl
  have hgC : g < C := hv g rfl
  have HF := hid hf
  have HAp := hid hA.apart
  have HBl := hid hb
  have HEr : Hid (∀ f ∈ E, ∀ k, f.v.ownBlock = some k → B ≤ k ∧ k < C) := hid (fun f hq k hk => ⟨(hA.lent f hq).out.block k hk, hf f hq k hk⟩)
  obtain ⟨n, HN⟩ : ∃ n, Hid (E.length = n) := ⟨_, hid rfl⟩
  rw [HN.out] at hL ⊢
  clear hA hv hf hb hO hcap
  go_enter Tryz.func78, Tryz.ntmps78
  go_upto_region 1 with fail
  go_loopw [2] (fun iv wr => ∃ i : Nat, iv = .int .i64 i ∧ i ≤ n ∧ Hid (OvF B w wr g i E (fun k => B ≤ k ∧ k < C))) (fun iv _ => n - (intOf iv).toNat)
  case atStart => exact ⟨0, rfl, by omega, HSt⟩
  case round =>
    clear HSt
    obtain ⟨i, rfl, hi, HS⟩ := hrel
    obtain ⟨w0, hw0⟩ : ∃ x : World, x = wr := ⟨_, rfl⟩
    rw [← hw0] at HS ⊢
    clear hw0
    by_cases hlt : i < n
    · as_aux_lemma =>
      have hlt' : (i : Int) < (n : Int) := by omega
      have hiL : i < E.length := by rw [HN.out]; exact hlt
      obtain ⟨cs, HCs⟩ : ∃ cs, Hid (Blk w0 g cs 130 ∧ E.length * 2 ≤ cs.length ∧ ∀ j, i ≤ j → (hj : j < E.length) → cs[j * 2]? = some (.string (E[j]).nm) ∧ cs[j * 2 + 1]? = some (E[j]).v) := ⟨HS.out.blk.choose, hid HS.out.blk.choose_spec⟩
      obtain ⟨f, Hq⟩ : ∃ x, Hid (E[i] = x) := ⟨_, hid rfl⟩
      have HfE : Hid (f ∈ E) := hid (by rw [← Hq.out]; exact List.getElem_mem _)
      obtain ⟨s, v, l⟩ := f
      have HO : Hid (Out B w0 v l) := hid (by have := HS.out.own i (Nat.le_refl _) hiL; rw [Hq.out] at this; exact this)
      have HLl : Hid (l.length ≤ 1000000000) := hid (HBl.out _ HfE.out)
      obtain ⟨ba, bc, rfl⟩ := HO.out.len
      obtain ⟨bn, HBn⟩ : ∃ x, Hid (l.length = x) := ⟨_, hid rfl⟩
      rw [HBn.out] at HO
      have HR : Hid (w0.rangeAt g (i * 2) [.string s, .slice ba bn bc]) := hid (by
        have q := HCs.out.2.2 i (Nat.le_refl _) hiL
        rw [Hq.out] at q
        refine two_range ((HCs.out.1.cell _).trans q.1) ((HCs.out.1.cell _).trans ?_)
        rw [← HBn.out]
        exact q.2)
      have HOv := hid (overFile_any w0 s ba bn bc B l HO.out (by have := HLl.out; omega))
      obtain ⟨r, Hr⟩ : ∃ x, Hid ((Value.slice ba bn bc).ownBlock = x) := ⟨_, hid rfl⟩
      rw [Hr.out] at HOv
      have hrg : r ≠ some g := fun e => out_ne HO.out HCs.out.1 (by decide) (Hr.out.trans e)
      have HRg := hid hrg
      have HFit : Hid (i * 2 + 2 ≤ cs.length) := hid (by have := HCs.out.2.1; omega)
      clear hrg
      go_wp2_with (first
        | (with_reducible refine wpList_load_part (by with_unfolding_all rfl) 130 _ (by with_unfolding_all rfl) g (i * 2) [.string s, .slice ba bn bc] _ (by with_unfolding_all rfl) HR.out Tryz.underlying130 (by with_unfolding_all rfl) (by with_unfolding_all exact Tryz.size130) ?_)
        | (go_at_call 127; (with_reducible refine HOv.out.mono ?_); rintro e w1 ⟨rfl, hg⟩; have HG1 := hid hg; clear hg)
        | (with_reducible refine wpList_build_of (by with_unfolding_all rfl) 130 _ (by with_unfolding_all rfl) [(0, .string ovN)] (by with_unfolding_all rfl) [Value.string ovN, .slice none 0 0] builtO ?_)
        | ((with_reducible refine wpList_store_part (by with_unfolding_all rfl) 130 _ _ (by with_unfolding_all rfl) g (i * 2) cs [.string ovN, .slice none 0 0] 130 (by with_unfolding_all rfl) (by with_unfolding_all rfl) (HCs.out.1.on HG1.out HRg.out) (by with_unfolding_all exact HFit.out) (by with_unfolding_all exact Tryz.size130) (file_one _ _ _ _) ?_); intro w2 B2 g2 s2; have HB2 := hid B2; have HG2 := hid g2; clear B2 g2 s2))
      have HRl : Hid (OvF B w w2 g (i + 1) E (fun k => B ≤ k ∧ k < C)) := hid (by
        refine ⟨⟨_, HB2.out, ?_, fun j hj hjl => ?_⟩, fun j hj hjl => ?_, ?_⟩
        · have := HCs.out.2.1
          unfold splice
          simp
          omega
        · have q := HCs.out.2.2 j (by omega) hjl
          rw [splice_behind cs _ _ (i * 2) (j * 2) HFit.out (by omega), splice_behind cs _ _ (i * 2) (j * 2 + 1) HFit.out (by omega)]
          exact q
        · have q := HS.out.own j (by omega) hjl
          have q1 := q.on HG1.out (fun k hk e => by
            have h1 := (List.pairwise_iff_getElem.1 HAp.out) i j hiL hjl (by omega)
            rw [Hq.out] at h1
            have h2 : (Value.slice ba l.length bc).ownBlock = some k := by rw [HBn.out]; exact Hr.out.trans hk
            rcases h1 with h1 | h1
            · rw [h2] at h1; cases h1
            · exact h1 (h2.trans e.symm))
          exact q1.on HG2.out (fun k hk e => by
            injection hk with hk
            subst hk
            exact out_ne q1 (HCs.out.1.on HG1.out HRg.out) (by decide) e)
        · refine (HS.out.df.trans (DF.opt HG1.out (P := fun k => B ≤ k ∧ k < C) (fun k hk => ?_)) (fun _ _ q => q)).trans (DF.one HG2.out ⟨hgB, hgC⟩) (fun _ _ q => q)
          exact HEr.out _ HfE.out k (by show (Value.slice ba l.length bc).ownBlock = some k; rw [HBn.out]; exact Hr.out.trans hk))
      go_roundw
      case rel => exact ⟨i + 1, by go_num, by omega, HRl⟩
      case measure => simp [intOf]; omega
    · as_aux_lemma =>
      have hge : ¬ (i : Int) < (n : Int) := by omega
      go_wp2_with fail
      go_end0
      exact ⟨rfl, HS.out.df⟩
end Go.Proofs.YtlgjmdianmijeaaGreat

namespace Go.Proofs.YtlgjmdianmijeaaGreat
open Go Go.RowKit Go.MapKept Go.MuLone
open Go.RowKit (wrap32 wrap64)

variable {w w' u u' : World} {B : Nat}
theorem LentF.ar {g n cap : Nat} {E : List Fl} (h : LentF B w (.slice (some ⟨g, 0, none⟩) n cap) E) : ArF w (fun k => B ≤ k) (some ⟨g, 0, none⟩) g 0 (cont E) := by
  obtain ⟨h1, h2, h3, h4, -⟩ := h.cells
  have hB : B ≤ g := by
    obtain ⟨g', cap', e, -, hO⟩ := h.row
    injection e with e1
    injection e1 with e1
    injection e1 with e1 _ _
    subst e1
    exact hO.low g rfl
  refine ⟨fun _ => ⟨rfl, h3, hB⟩, fun i hi => ?_⟩
  have hi' : i < E.length := by rw [len_cont] at hi; exact hi
  have e : (cont E)[i] = ((E[i]).nm, (E[i]).bs) := by simp [cont]
  rw [e, Nat.zero_add]
  exact ⟨(h4 i hi').1, _, (h4 i hi').2, (h.lent _ (List.getElem_mem hi')).out.rd⟩
theorem LentF.lt {v : Value} {E : List Fl} (h : LentF B w v E) : (∀ k, v.ownBlock = some k → k < w.heap.size) ∧ ∀ f ∈ E, ∀ k, f.v.ownBlock = some k → k < w.heap.size := by
  obtain ⟨⟨g, cap, rfl, -, hO⟩, h4, -⟩ := h
  exact ⟨fun k hk => (hO.row.lt k hk).2, fun f hf k hk => ((h4 f hf).out.lt k hk).2⟩
set_option maxRecDepth 100000 in
set_option maxHeartbeats 4000000 in
/-- Load where both refuse. -/
theorem load_refused {sb k : Nat} (w : World) (F : Nat → Prop) (a : Option Addr) (g off c : Nat) (L : Cn) (E0 room : Int) (hA : ArF w F a g off L) (hL : L.length ≤ 100000) (hb : ∀ p ∈ L, p.2.length ≤ 1000000000)
    (h1 : Hid (∀ u (x : Option Addr) (b0 c0 : Nat) (Fx : Nat → Prop), ArF u Fx x b0 0 L → Calls Tryz.prog 76 #[.slice x L.length c0, .int .i64 room] u fun e w' => e = .returned (.tuple #[.pointer none, .int .i64 E0]) ∧ u.grownBy w' none))
    (h2 : Hid (∀ u, ArF u F a g off L → Calls Tryz.prog 51 #[.slice a L.length c, .int .i64 room] u fun e w' => e = .returned (.tuple #[.pointer none, .int .i64 E0]) ∧ u.grownBy w' none)) :
    Calls Tryz.prog 35 #[.pointer (some ⟨sb, 0, none⟩), .int .i64 (k : Nat), .slice a L.length c, .int .i64 room] w fun e w' => e = .returned (.bool true) ∧ w.grownBy w' none := by
  have HLe : Hid (Calls Tryz.prog 75 #[.slice a L.length c] w fun e w' => ∃ g1 c1 E, e = .returned (.slice (some ⟨g1, 0, none⟩) L.length c1) ∧ LentF w.heap.size w' (.slice (some ⟨g1, 0, none⟩) L.length c1) E ∧ cont E = L ∧ w.grownBy w' none) := hid ((lendFiles_any w F a g off c L hA hL hb).mono fun e w' ⟨v, E, q1, q2, q3, q4⟩ => by
    obtain ⟨g1, c1, e1, -⟩ := q2.row
    have e2 : E.length = L.length := by rw [← q3, len_cont]
    rw [e2] at e1
    subst e1
    exact ⟨g1, c1, E, q1, q2, q3, q4⟩)
  have HAr : Hid (∀ u, w.grownBy u none → ArF u F a g off L) := hid (fun u hu => hA.keep hu)
  have HBk : Hid (∀ (u : World) (v : Value) (E : List Fl), w.grownBy u none → LentF w.heap.size u v E → cont E = L → Calls Tryz.prog 77 #[v, .slice a L.length c] u fun e w' => e = .returned (.bool true) ∧ u.grownBy w' none) := hid (fun u v E hu hl hc => by
    have e2 : E.length = L.length := by rw [← hc, len_cont]
    have := backFiles_any u _ v E F a g off c hl (by rw [hc]; exact hA.keep hu) (by omega) (fun f hf => hb (f.nm, f.bs) (by rw [← hc]; exact List.mem_map.2 ⟨f, hf, rfl⟩))
    rw [e2] at this
    exact this)
  have HOv : Hid (∀ (u : World) (C : Nat) (v : Value) (E : List Fl), LentF w.heap.size u v E → cont E = L → (∀ k, v.ownBlock = some k → k < C) → (∀ f ∈ E, ∀ k, f.v.ownBlock = some k → k < C) → Calls Tryz.prog 78 #[v] u fun e w' => e = .returned (.tuple #[]) ∧ DF u w' (fun k => w.heap.size ≤ k ∧ k < C)) := hid (fun u C v E hl hc q1 q2 => by
    have e2 : E.length = L.length := by rw [← hc, len_cont]
    exact overFiles_any u _ C v E hl q1 q2 (by omega) (fun f hf => hb (f.nm, f.bs) (by rw [← hc]; exact List.mem_map.2 ⟨f, hf, rfl⟩)))
  have H3 : Hid (∀ w, Calls Tryz.prog 20 #[.pointer (some ⟨sb, 0, none⟩), .int .i64 (k : Nat), .pointer none, .int .i64 E0, .pointer none, .int .i64 E0] w fun e w' => e = .returned (.bool true) ∧ w.grownBy w' none) := hid (fun w => put_no w sb _ E0)
  obtain ⟨n, HN⟩ : ∃ n, Hid (L.length = n) := ⟨_, hid rfl⟩
  rw [HN.out] at h1 h2 HLe HBk ⊢
  clear hA hL hb
  go_enter Tryz.func35, Tryz.ntmps35
  go_wp2_with (first
    | (go_at_call 75; (with_reducible refine HLe.out.mono ?_); rintro e w1 ⟨g1, c1, E, rfl, hl, hc, hg⟩; have HL1 := hid hl; have HC1 := hid hc; have HG1 := hid hg; clear hl hc hg)
    | (go_at_call 76; (with_reducible refine (h1.out _ _ g1 _ (fun k => w.heap.size ≤ k) (by have := HL1.out.ar; rw [HC1.out] at this; exact this)).mono ?_); rintro e w2 ⟨rfl, hg⟩; have HL2 := hid (HL1.out.keep hg); have HG2 := hid (gtrans HG1.out hg); clear hg)
    | (go_at_call 77; (with_reducible refine (HBk.out _ _ E HG2.out HL2.out HC1.out).mono ?_); rintro e w3 ⟨rfl, hg⟩; have HL3 := hid (HL2.out.keep hg); have HG3 := hid (gtrans HG2.out hg); clear hg)
    | (go_at_call 78; (with_reducible refine (HOv.out _ w1.heap.size _ E HL3.out HC1.out HL1.out.lt.1 HL1.out.lt.2).mono ?_); rintro e w4 ⟨rfl, hg⟩; have HG4 := hid (((DF.of HG3.out (P := fun k => w.heap.size ≤ k)).trans hg (fun _ _ q => q.1)).grown (fun _ q => q)); clear hg)
    | (go_at_call 51; (with_reducible refine (h2.out _ (HAr.out _ HG4.out)).mono ?_); rintro e w5 ⟨rfl, hg⟩; have HG5 := hid (gtrans HG4.out hg); clear hg)
    | (go_at_call 20; (with_reducible refine (H3.out _).mono ?_); rintro e w6 ⟨rfl, hg⟩; have HG6 := hid (gtrans HG5.out hg); clear hg))
  go_ret
  exact ⟨rfl, HG6.out⟩
set_option maxRecDepth 100000 in
set_option maxHeartbeats 4000000 in
/-- Load where both take it. -/
theorem load_taken {sb k : Nat} {cs : List Value} {A D : Ab} (w : World) (F : Nat → Prop) (a : Option Addr) (g off c : Nat) (L : Cn) (room : Int) (hS : Blk w sb cs 78) (hcs : cs.length = 9) (hk : k < 2) (hA : ArF w F a g off L) (hL : L.length ≤ 100000) (hb : ∀ p ∈ L, p.2.length ≤ 1000000000)
    (h1 : Hid (∀ u (x : Option Addr) (b0 c0 : Nat) (Fx : Nat → Prop), ArF u Fx x b0 0 L → Calls Tryz.prog 76 #[.slice x L.length c0, .int .i64 room] u fun e w' => ∃ d, e = .returned (.tuple #[.pointer (some ⟨d, 0, none⟩), .int .i64 0]) ∧ DkP w' u.heap.size d A (fun k => u.heap.size ≤ k ∧ k < w'.heap.size) ∧ u.grownBy w' none))
    (h2 : Hid (∀ u, ArF u F a g off L → Calls Tryz.prog 51 #[.slice a L.length c, .int .i64 room] u fun e w' => ∃ d, e = .returned (.tuple #[.pointer (some ⟨d, 0, none⟩), .int .i64 0]) ∧ (∃ sv E, Rk w' u.heap.size d D sv E) ∧ u.grownBy w' none)) :
    Calls Tryz.prog 35 #[.pointer (some ⟨sb, 0, none⟩), .int .i64 (k : Nat), .slice a L.length c, .int .i64 room] w fun e w' => e = .returned (.bool true) ∧ ∃ d q m, w.heap.size ≤ m ∧ m ≤ w'.heap.size ∧ DkP w' w.heap.size d A (fun j => w.heap.size ≤ j ∧ j < m) ∧ (∃ sv E, Rk w' m q D sv E ∧ ∀ j, Rfp q sv E j → m ≤ j ∧ j < w'.heap.size) ∧ Blk w' sb (updS k cs d q) 78 ∧ w.grownBy w' (some sb) := by
  have HLe : Hid (Calls Tryz.prog 75 #[.slice a L.length c] w fun e w' => ∃ g1 c1 E, e = .returned (.slice (some ⟨g1, 0, none⟩) L.length c1) ∧ LentF w.heap.size w' (.slice (some ⟨g1, 0, none⟩) L.length c1) E ∧ cont E = L ∧ w.grownBy w' none) := hid ((lendFiles_any w F a g off c L hA hL hb).mono fun e w' ⟨v, E, q1, q2, q3, q4⟩ => by
    obtain ⟨g1, c1, e1, -⟩ := q2.row
    have e2 : E.length = L.length := by rw [← q3, len_cont]
    rw [e2] at e1
    subst e1
    exact ⟨g1, c1, E, q1, q2, q3, q4⟩)
  have HAr : Hid (∀ u, w.grownBy u none → ArF u F a g off L) := hid (fun u hu => hA.keep hu)
  have HBk : Hid (∀ (u : World) (v : Value) (E : List Fl), w.grownBy u none → LentF w.heap.size u v E → cont E = L → Calls Tryz.prog 77 #[v, .slice a L.length c] u fun e w' => e = .returned (.bool true) ∧ u.grownBy w' none) := hid (fun u v E hu hl hc => by
    have e2 : E.length = L.length := by rw [← hc, len_cont]
    have := backFiles_any u _ v E F a g off c hl (by rw [hc]; exact hA.keep hu) (by omega) (fun f hf => hb (f.nm, f.bs) (by rw [← hc]; exact List.mem_map.2 ⟨f, hf, rfl⟩))
    rw [e2] at this
    exact this)
  have HOv : Hid (∀ (u : World) (C : Nat) (v : Value) (E : List Fl), LentF w.heap.size u v E → cont E = L → (∀ k, v.ownBlock = some k → k < C) → (∀ f ∈ E, ∀ k, f.v.ownBlock = some k → k < C) → Calls Tryz.prog 78 #[v] u fun e w' => e = .returned (.tuple #[]) ∧ DF u w' (fun k => w.heap.size ≤ k ∧ k < C)) := hid (fun u C v E hl hc q1 q2 => by
    have e2 : E.length = L.length := by rw [← hc, len_cont]
    exact overFiles_any u _ C v E hl q1 q2 (by omega) (fun f hf => hb (f.nm, f.bs) (by rw [← hc]; exact List.mem_map.2 ⟨f, hf, rfl⟩)))
  have H3 : Hid (∀ u d q, Blk u sb cs 78 → Calls Tryz.prog 20 #[.pointer (some ⟨sb, 0, none⟩), .int .i64 (k : Nat), .pointer (some ⟨d, 0, none⟩), .int .i64 0, .pointer (some ⟨q, 0, none⟩), .int .i64 0] u fun e w' => e = .returned (.bool true) ∧ Blk w' sb (updS k cs d q) 78 ∧ u.grownBy w' (some sb)) := hid (fun u d q hw => put_some hw hcs hk 0 d q)
  have HS := hid hS
  obtain ⟨n, HN⟩ : ∃ n, Hid (L.length = n) := ⟨_, hid rfl⟩
  rw [HN.out] at h1 h2 HLe HBk ⊢
  clear hA hL hb hS hcs hk
  go_enter Tryz.func35, Tryz.ntmps35
  go_wp2_with (first
    | (go_at_call 75; (with_reducible refine HLe.out.mono ?_); rintro e w1 ⟨g1, c1, E, rfl, hl, hc, hg⟩; have HL1 := hid hl; have HC1 := hid hc; have HG1 := hid hg; clear hl hc hg)
    | (go_at_call 76; (with_reducible refine (h1.out _ _ g1 _ (fun k => w.heap.size ≤ k) (by have := HL1.out.ar; rw [HC1.out] at this; exact this)).mono ?_); rintro e w2 ⟨d, rfl, hd, hg⟩; have HD2 := hid hd; clear hd; have HS2 := hid hg.size; have HL2 := hid (HL1.out.keep hg); have HG2 := hid (gtrans HG1.out hg); clear hg)
    | (go_at_call 77; (with_reducible refine (HBk.out _ _ E HG2.out HL2.out HC1.out).mono ?_); rintro e w3 ⟨rfl, hg⟩; have HD3 := hid (HD2.out.keep hg); have HS3 := hid hg.size; have HL3 := hid (HL2.out.keep hg); have HG3 := hid (gtrans HG2.out hg); clear hg)
    | (go_at_call 78; (with_reducible refine (HOv.out _ w1.heap.size _ E HL3.out HC1.out HL1.out.lt.1 HL1.out.lt.2).mono ?_); rintro e w4 ⟨rfl, hg⟩; have HD4 := hid (HD3.out.df hg (fun j _ hj q => by have := hj.1; have := q.2; omega)); have HS4 := hid hg.size; have HG4 := hid (((DF.of HG3.out (P := fun k => w.heap.size ≤ k)).trans hg (fun _ _ q => q.1)).grown (fun _ q => q)); clear hg)
    | (go_at_call 51; (with_reducible refine (h2.out _ (HAr.out _ HG4.out)).mono ?_); rintro e w5 ⟨q, rfl, hr, hg⟩; have HR5 := hid hr; clear hr; have HS5 := hid hg.size; have HD5 := hid (HD4.out.keep hg); have HG5 := hid (gtrans HG4.out hg); clear hg)
    | (go_at_call 20; (with_reducible refine (H3.out _ _ _ (HS.out.keep HG5.out)).mono ?_); rintro e w6 ⟨rfl, hb, hg⟩; have HB6 := hid hb; have HG6 := hid hg; clear hb hg))
  go_ret
  have hd6 := DF.one HG6.out (P := fun j => j = sb) rfl
  have hl := HS.out.lt
  have z1 := HG1.out.size
  have z2 := HS2.out
  have z3 := HS3.out
  have z4 := HS4.out
  have z5 := HS5.out
  have z6 := HG6.out.size
  obtain ⟨sv, E', hr⟩ := HR5.out
  have hD := (HD5.out.df hd6 (fun j _ hj e => by have := hj.1; omega)).mono (Q := fun j => w.heap.size ≤ j ∧ j < w4.heap.size) (fun j _ _ hj => ⟨by have := hj.1; omega, by have := hj.2; omega⟩)
  obtain ⟨hk1, m', F', hk2, hk3, hk4⟩ := hD
  refine ⟨rfl, d, q, w4.heap.size, by omega, by omega, ⟨hk1, m', F', ⟨hk2.blk, hk2.map, fun f hf => (hk2.own f hf).below z1, hk2.apart, ⟨Nat.le_trans z1 hk2.low.1, Nat.le_trans z1 hk2.low.2⟩⟩, hk3, hk4⟩, ⟨sv, E', hr.df hd6 (fun j hj e => ?_), fun j hj => ?_⟩, HB6.out, gtrans (gsome HG5.out (some sb)) HG6.out⟩
  · have := (hr.lt hj).1
    omega
  · have := hr.lt hj
    omega
end Go.Proofs.YtlgjmdianmijeaaGreat
