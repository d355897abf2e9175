/- The reference's Check. -/
import Derived.Test.YtlgjmhemgfjgnaaGreatXA
import Derived.Test.YtlgjmhemgfjgnaaGreatVM
import Derived.Deep.CutRange
import Derived.Deep.CutBlock
namespace Go.Proofs.YtlgjmhemgfjgnaaGreat
open Go Go.RowKit
open Go.RowKit (wrap32 wrap64)

theorem gti {x y : Operand} (i : Nat) (h : 0 < i) (u : World) : (do eqGuard .gtr 3 x y (.int .i64 (i : Nat)) (.int .i64 0); binOp .gtr 3 (.int .i64 (i : Nat)) (.int .i64 0) : Sem Value).run Tryz.prog u = .ok (.bool true) u := by
  have h : (0 : Int) < (i : Int) := by omega
  generalize (i : Int) = z at *
  go_simp
theorem subi {x y : Operand} (i j : Nat) (h : i = j + 1) {n : Nat} (hn : n ≤ 1099511627776) (hi : i < n) (u : World) : (do eqGuard .sub 3 x y (.int .i64 (i : Nat)) (.int .i64 1); binOp .sub 3 (.int .i64 (i : Nat)) (.int .i64 1) : Sem Value).run Tryz.prog u = .ok (.int .i64 (j : Nat)) u := by
  subst h
  exact subj j u (by omega)
theorem mf_ahd (x y : Ky) : mf x y = (ahd2 x y && (if x.g = y.g then !(x.wh || y.wh) else true)) := by
  unfold mf ahd2
  by_cases h : x.g = y.g
  · rw [if_pos h, if_pos h, if_pos h]
    cases x.wh <;> cases y.wh <;> simp
  · rw [if_neg h, if_neg h, if_neg h, Bool.and_true]
set_option maxRecDepth 100000 in
set_option maxHeartbeats 6400000 in
theorem rcheck_any (w : World) (v : Value) (F : Nat → Prop) (l : List Ky) (hv : RdK w F v l) (hl : l.length ≤ 1099511627776) :
    Calls Tryz.prog 18 #[v] w fun e w' => e = .returned (.int .i64 (if chk l = true then 0 else 140)) ∧ w.grownBy w' none := by
  obtain ⟨ho, a, b, off, c, rfl, hc, Ha, Hc⟩ := hv.open
  obtain ⟨n, HN⟩ : ∃ n, Hid (l.length = n) := ⟨_, hid rfl⟩
  obtain ⟨R, HR⟩ : ∃ R, Hid (chk l = R) := ⟨_, hid rfl⟩
  have HR0 : Hid (R = chkR l 0) := hid (by rw [← HR.out]; rfl)
  have HO := hid ho
  have HLn : Hid (n ≤ 1099511627776) := hid (by rw [← HN.out]; exact hl)
  have HA : Hid (0 < n → a = some ⟨b, off, none⟩) := hid (fun h => (Ha.out (by rw [HN.out]; exact h)).1)
  obtain ⟨EE, HEE⟩ : ∃ x, Hid ((if R = true then 0 else 140 : Int) = x) := ⟨_, hid rfl⟩
  rw [HR.out, HN.out, HEE.out]
  rw [HN.out] at hl
  clear hv hc ho Ha HR
  go_enter Tryz.func18, Tryz.ntmps18
  go_wp2_with fail
  go_loopw [3] (fun iv wr => ∃ i : Nat, iv = .int .i64 i ∧ i ≤ n ∧ Hid (R = chkR l i) ∧ Hid (w.grownBy wr none)) (fun iv _ => n - (intOf iv).toNat)
  case atStart => exact ⟨0, rfl, Nat.zero_le _, HR0, hid (grefl _ _)⟩
  case round =>
    clear HR0
    obtain ⟨i, rfl, hi, HRg, HG⟩ := hrel
    by_cases hlt : i < n
    · have hil : i < l.length := by rw [HN.out]; exact hlt
      have hlt' : (i : Int) < (n : Int) := by omega
      obtain rfl : a = some ⟨b, off, none⟩ := HA.out (by omega)
      have hko := HO.out _ (List.getElem_mem hil)
      have HPr0 : Hid (∀ j (h : j < l.length) u, w.grownBy u none → u.rangeAt b (off + j * 19) l[j].cells) := hid (fun j h u hu => (Hc.out u hu j h).1)
      have HKr : Hid (∀ u, w.grownBy u none → u.rangeAt b (off + i * 19) l[i].cells) := hid (fun u hu => (Hc.out u hu i hil).1)
      have HPL0 : Hid (∀ j (h : j < l.length), (Tryz.prog.info? 85).map (·.size) = some l[j].cells.length) := hid (fun j h => by rw [Ky.cells_length (HO.out _ (List.getElem_mem h)).2.1]; exact Tryz.size85)
      have HKL := hid (HPL0.out i hil)
      have HJr : Hid (∀ u, w.grownBy u none → u.rangeAt b (off + i * 19 + 2) (Lib.byteCells l[i].id)) := hid (fun u hu => range_sub (A := [.bool l[i].wh, .int .u64 l[i].g]) (C := [.int .i64 l[i].ex]) (Hc.out u hu i hil).1)
      have HPc0 : Hid (∀ j (h : j < l.length) u, w.grownBy u none → u.cell? ⟨b, off + j * 19, none⟩ = some (.bool l[j].wh) ∧ u.cell? ⟨b, off + j * 19 + 1, none⟩ = some (.int .u64 l[j].g)) := hid (fun j h u hu => ⟨(Hc.out u hu j h).1 0 _ (Ky.c0 _), (Hc.out u hu j h).1 1 _ (Ky.c1 _)⟩)
      have HKc := hid (HPc0.out i hil)
      have HJL : Hid ((Tryz.prog.info? 69).map (·.size) = some (Lib.byteCells l[i].id).length) := hid (by rw [byteCells_length, hko.2.1]; exact Tryz.size69)
      have HBz : Hid (Tryz.prog.built 69 [] = some (Lib.byteCells z16).toArray) := hid (by kernel_rfl)
      have HNz : Hid (∀ (x y : Operand) (u : World), (do eqGuard .neq 69 x y (.agg (Lib.byteCells l[i].id).toArray) (.agg (Lib.byteCells z16).toArray); binOp .neq 69 (.agg (Lib.byteCells l[i].id).toArray) (.agg (Lib.byteCells z16).toArray) : Sem Value).run Tryz.prog u = .ok (.bool (!(l[i].id == z16))) u) := hid (fun x y u => neq_id _ _ hko.2.1 rfl u)
      have HOk : Hid (okW l[i] = !(l[i].wh && !(l[i].id == z16))) := hid rfl
      have HSt0 : Hid (chkR l i = (okW l[i] && (if i = 0 then chkR l 1 else (mf (l.getD (i - 1) zky) l[i] && chkR l (i + 1))))) := hid (by
        cases i with
        | zero => rw [if_pos rfl]; exact chkR_step0 l hil
        | succ j =>
          rw [if_neg (by omega), Nat.add_sub_cancel, chkR_step l j hil]
          have : l.getD j zky = l[j] := by rw [List.getD_eq_getElem?_getD, List.getElem?_eq_getElem (by omega)]; rfl
          rw [this])
      have HAh0 : Hid (∀ j (h : j < l.length) u, Calls Tryz.prog 32 #[.agg l[j].cells.toArray, .agg l[i].cells.toArray] u fun e w' => e = .returned (.bool (ahd2 l[j] l[i])) ∧ u.grownBy w' none) := hid (fun j h u => ahead_any u _ _ (HO.out _ (List.getElem_mem h)).2.1 hko.2.1)
      obtain ⟨q, hq⟩ : ∃ q, l[i] = q := ⟨_, rfl⟩
      rw [hq] at HKr HKL HJr HKc HJL HNz HOk HSt0 HAh0
      obtain ⟨cw, hcw⟩ : ∃ x, q.wh = x := ⟨_, rfl⟩
      obtain ⟨cg, hcg⟩ : ∃ x, q.g = x := ⟨_, rfl⟩
      obtain ⟨ez, hez⟩ : ∃ x, (q.id == z16) = x := ⟨_, rfl⟩
      rw [hcw, hez] at HOk
      rw [hcw, hcg] at HKc
      rw [hez] at HNz
      rw [HOk.out] at HSt0
      obtain ⟨J, HJe⟩ : ∃ x, Hid (Lib.byteCells q.id = x) := ⟨_, hid rfl⟩
      obtain ⟨Z, HZe⟩ : ∃ x, Hid (Lib.byteCells z16 = x) := ⟨_, hid rfl⟩
      obtain ⟨K, HKe⟩ : ∃ x, Hid (q.cells = x) := ⟨_, hid rfl⟩
      rw [HJe.out] at HJr HJL HNz
      rw [HZe.out] at HBz HNz
      rw [HKe.out] at HKr HKL HAh0
      have HQg := hid (And.intro hcw hcg)
      obtain ⟨TT, HTT⟩ : ∃ x, Hid ((cw && !ez) = x) := ⟨_, hid rfl⟩
      rw [HTT.out] at HSt0
      obtain ⟨r3, r4⟩ := HKc.out wr HG.out
      have HRw := hid (HJr.out wr HG.out)
      have HRq := hid HRg.out
      rw [HSt0.out] at HRq
      clear hko HOk HJe HZe HKe hcw hcg hez Hc HO hq HRg HSt0 hi
      go_upto_region 4 with fail
      go_cut [23] from 10 to 23 (fun p wc => p = .bool TT ∧ wr = wc)
      case first =>
        cases cw with
        | false =>
          have HT1 : Hid (TT = false) := hid HTT.out.symm
          go_wp2_with fail
          go_meet
          exact ⟨by rw [HT1.out], rfl⟩
        | true =>
          have HT1 : Hid (TT = !ez) := hid (by rw [← HTT.out]; rfl)
          go_wp2_with (first
            | (with_reducible refine wpList_load_partW (by with_unfolding_all rfl) 69 _ (by with_unfolding_all rfl) b (off + i * 19 + 2) J _ (by with_unfolding_all rfl) HRw.out Tryz.underlying69 (by with_unfolding_all rfl) HJL.out ?_)
            | (with_reducible refine wpList_build_ofW (by with_unfolding_all rfl) 69 _ (by with_unfolding_all rfl) [] (by with_unfolding_all rfl) Z HBz.out ?_)
            | (with_reducible refine wpList_binW (by with_unfolding_all rfl) .neq 69 _ _ _ (by with_unfolding_all rfl) _ _ _ (by with_unfolding_all rfl) (by with_unfolding_all rfl) (HNz.out _ _ _) ?_))
          go_meet
          exact ⟨by rw [HT1.out], rfl⟩
      case rest =>
        obtain ⟨rfl, rfl⟩ := hcut
        clear HTT HRw HJr HJL HBz HNz
        cases TT with
        | true =>
          as_aux_lemma =>
          have HRf : Hid (R = false) := hid (by rw [HRq.out]; rfl)
          go_wp2_with fail
          go_ret
          exact ⟨by rw [← HEE.out, HRf.out]; rfl, HG.out⟩
        | false =>
          have HSt1 : Hid (R = (if i = 0 then chkR l 1 else (mf (l.getD (i - 1) zky) q && chkR l (i + 1)))) := hid (by rw [HRq.out]; rfl)
          clear HRq
          rcases Nat.eq_zero_or_pos i with hi0 | hi0
          · as_aux_lemma =>
            subst hi0
            have HRt : Hid (R = chkR l 1) := hid (by rw [HSt1.out, if_pos rfl])
            go_wp2_with fail
            go_quiet (fail)
            go_wp2_with fail
            go_quiet (fail)
            go_wp2_with fail
            go_roundw
            case rel => exact ⟨1, by go_num, by omega, HRt, hid (gtrans HG.out (gdrew _ _ _))⟩
            case measure => simp [intOf]; omega
          · obtain ⟨j, HJ⟩ : ∃ j, Hid (i = j + 1) := ⟨i - 1, hid (by omega)⟩
            have hjl : j < l.length := by have := HJ.out; omega
            have hgt : (0 : Int) < (i : Int) := by omega
            have hgtN : 0 < i := hi0
            have hjn : (j : Int) < (n : Int) := by have := HJ.out; omega
            have HJI : Hid (i = j + 1 ∧ j < n ∧ i < n) := hid ⟨HJ.out, by have := HJ.out; omega, hlt⟩
            have hw1 : IntKind.i64.wrap ((i : Int) - 1) = (j : Int) := by rw [IntKind.wrap_i64]; have := HJ.out; have := HLn.out; omega
            have hgd : l.getD (i - 1) zky = l[j] := by rw [HJ.out, Nat.add_sub_cancel, List.getD_eq_getElem?_getD, List.getElem?_eq_getElem hjl]; rfl
            have HSt := hid HSt1.out
            rw [if_neg (by omega), hgd, mf_ahd] at HSt
            have HPr := hid (HPr0.out j hjl)
            have HPL := hid (HPL0.out j hjl)
            have HPc := hid (HPc0.out j hjl)
            have HAh := hid (HAh0.out j hjl)
            obtain ⟨p, hp⟩ : ∃ q, l[j] = q := ⟨_, rfl⟩
            rw [hp] at HPr HPL HPc HAh HSt
            obtain ⟨A, hA⟩ : ∃ x, ahd2 p q = x := ⟨_, rfl⟩
            rw [hA] at HAh HSt
            obtain ⟨pw, hpw⟩ : ∃ x, p.wh = x := ⟨_, rfl⟩
            obtain ⟨pg, hpg⟩ : ∃ x, p.g = x := ⟨_, rfl⟩
            rw [hpw, hpg, HQg.out.1, HQg.out.2] at HSt
            rw [hpw, hpg] at HPc
            obtain ⟨KP, HKe⟩ : ∃ x, Hid (p.cells = x) := ⟨_, hid rfl⟩
            rw [HKe.out] at HPr HPL HAh
            obtain ⟨MM, HMo⟩ : ∃ x, Hid ((if pg = cg then !(pw || cw) else true) = x) := ⟨_, hid rfl⟩
            rw [HMo.out] at HSt
            have HMf := hid HMo.out.symm
            clear HMo
            clear hgd hp hA hpw hpg HKe HSt1 HPr0 HPL0 HPc0 HAh0 hlt hi0 HJ hjl HQg hil
            cases A with
            | false =>
              as_aux_lemma =>
              have HRf : Hid (R = false) := hid (by rw [HSt.out]; rfl)
              go_upto_region 6 with fail
              refine wp_region_listX (by kernel_rfl) [fun v _ => v = (Value.int .i64 (i : Nat)), fun v _ => v = (Value.bool true), fun v _ => v = (Value.bool true), fun v _ => v = (Value.slice (some ⟨b, off, none⟩) n c), fun v _ => v = (Value.int .i64 (i : Nat)), fun v _ => v = (Value.int .i64 (j : Nat)), fun v _ => v = (Value.pointer (some ⟨b, off + j * 19, none⟩)), fun v _ => v = (Value.agg KP.toArray), fun v _ => v = (Value.slice (some ⟨b, off, none⟩) n c), fun v _ => v = (Value.int .i64 (i : Nat)), fun v _ => v = (Value.pointer (some ⟨b, off + i * 19, none⟩)), fun v _ => v = (Value.agg K.toArray), fun v _ => v = (Value.bool false), fun v _ => v = (Value.bool true), fun v _ => v = (Value.bool true)] (none) (fun _ => none) 15 (by kernel_rfl) (by kernel_rfl) (by kernel_rfl) (by kernel_rfl) (by decide) noRow_one (fun _ => .inl rfl) ⟨fun i v u u' hki h hg => h, fun i v u u' hki h hg => h, fun i v u u' hki h hg => h, fun i v u u' hki h hg => h, fun i v u u' hki h hg => h, fun i v u u' hki h hg => h, fun i v u u' hki h hg => h, fun i v u u' hki h hg => h, fun i v u u' hki h hg => h, fun i v u u' hki h hg => h, fun i v u u' hki h hg => h, fun i v u u' hki h hg => h, fun i v u u' hki h hg => h, fun i v u u' hki h hg => h, fun i v u u' hki h hg => h, trivial⟩ ⟨?_, ?_, ?_, ?_, ?_, ?_, ?_, ?_, ?_, ?_, ?_, ?_, ?_, ?_, ?_, trivial⟩ ?_
              · intro A u hu hpu hsz hout hdeps
                have e3 : A.eval (.tmp 3) = (.int .i64 (i : Nat)) := (hout 3 (by kernel_rfl)).trans rfl
                refine ifw_none rfl ?_
                with_reducible refine shown_q (Value.int .i64 (i : Nat)) ?qq_1zfalse_0 (fun _ _ => ?qr_1zfalse_0)
                case qr_1zfalse_0 => exact (rfl : (Value.int .i64 (i : Nat)) = (Value.int .i64 (i : Nat)))
                with_reducible refine quietAt_mv (.tmp 3) (Value.int .i64 (i : Nat)) ?h0_1zfalse_0 ?h1_1zfalse_0
                case h0_1zfalse_0 => rfl
                case h1_1zfalse_0 => exact e3
              · intro A u hu hpu hsz hout hdeps
                have e24 : A.eval (.tmp 24) = (.int .i64 (i : Nat)) := by have h := depL hdeps 0 (by kernel_rfl) 24 (by kernel_rfl); exact h
                refine ifw_none rfl ?_
                with_reducible refine shown_q (Value.bool true) ?qq_1zfalse_1 (fun _ _ => ?qr_1zfalse_1)
                case qr_1zfalse_1 => exact (rfl : (Value.bool true) = (Value.bool true))
                with_reducible refine quietAt_bin .gtr 3 (.tmp 24) (.const (.int .i64 0)) 3 (Value.int .i64 (i : Nat)) (Value.int .i64 0) (Value.bool true) ?h0_1zfalse_1 ?h1_1zfalse_1 ?h2_1zfalse_1 ?h3_1zfalse_1
                case h0_1zfalse_1 => rfl
                case h1_1zfalse_1 => exact e24
                case h2_1zfalse_1 => exact rfl
                case h3_1zfalse_1 => exact (gti i (by have := HJI.out.1; omega) u)
              · intro A u hu hpu hsz hout hdeps
                have e25 : A.eval (.tmp 25) = (.bool true) := by have h := depL hdeps 1 (by kernel_rfl) 25 (by kernel_rfl); exact h
                refine ifw_none rfl ?_
                with_reducible refine shown_q (Value.bool true) ?qq_1zfalse_2 (fun _ _ => ?qr_1zfalse_2)
                case qr_1zfalse_2 => exact (rfl : (Value.bool true) = (Value.bool true))
                with_reducible refine quietAt_mv (.tmp 25) (Value.bool true) ?h0_1zfalse_2 ?h1_1zfalse_2
                case h0_1zfalse_2 => rfl
                case h1_1zfalse_2 => exact e25
              · intro A u hu hpu hsz hout hdeps
                have e26 : A.eval (.tmp 26) = (.bool true) := by have h := depL hdeps 2 (by kernel_rfl) 26 (by kernel_rfl); exact h
                have e0 : A.eval (.tmp 0) = (.slice (some ⟨b, off, none⟩) n c) := (hout 0 (by kernel_rfl)).trans rfl
                refine ifw_want 2 true 26 rfl rfl e26 ?_
                with_reducible refine shown_q (Value.slice (some ⟨b, off, none⟩) n c) ?qq_1zfalse_3 (fun _ _ => ?qr_1zfalse_3)
                case qr_1zfalse_3 => exact (rfl : (Value.slice (some ⟨b, off, none⟩) n c) = (Value.slice (some ⟨b, off, none⟩) n c))
                with_reducible refine quietAt_mv (.tmp 0) (Value.slice (some ⟨b, off, none⟩) n c) ?h0_1zfalse_3 ?h1_1zfalse_3
                case h0_1zfalse_3 => rfl
                case h1_1zfalse_3 => exact e0
              · intro A u hu hpu hsz hout hdeps
                have e26 : A.eval (.tmp 26) = (.bool true) := by have h := depL hdeps 2 (by kernel_rfl) 26 (by kernel_rfl); exact h
                have e3 : A.eval (.tmp 3) = (.int .i64 (i : Nat)) := (hout 3 (by kernel_rfl)).trans rfl
                refine ifw_want 2 true 26 rfl rfl e26 ?_
                with_reducible refine shown_q (Value.int .i64 (i : Nat)) ?qq_1zfalse_4 (fun _ _ => ?qr_1zfalse_4)
                case qr_1zfalse_4 => exact (rfl : (Value.int .i64 (i : Nat)) = (Value.int .i64 (i : Nat)))
                with_reducible refine quietAt_mv (.tmp 3) (Value.int .i64 (i : Nat)) ?h0_1zfalse_4 ?h1_1zfalse_4
                case h0_1zfalse_4 => rfl
                case h1_1zfalse_4 => exact e3
              · intro A u hu hpu hsz hout hdeps
                have e26 : A.eval (.tmp 26) = (.bool true) := by have h := depL hdeps 2 (by kernel_rfl) 26 (by kernel_rfl); exact h
                have e28 : A.eval (.tmp 28) = (.int .i64 (i : Nat)) := by have h := depL hdeps 4 (by kernel_rfl) 28 (by kernel_rfl); exact h
                refine ifw_want 2 true 26 rfl rfl e26 ?_
                with_reducible refine shown_q (Value.int .i64 (j : Nat)) ?qq_1zfalse_5 (fun _ _ => ?qr_1zfalse_5)
                case qr_1zfalse_5 => exact (rfl : (Value.int .i64 (j : Nat)) = (Value.int .i64 (j : Nat)))
                with_reducible refine quietAt_bin .sub 3 (.tmp 28) (.const (.int .i64 1)) 3 (Value.int .i64 (i : Nat)) (Value.int .i64 1) (Value.int .i64 (j : Nat)) ?h0_1zfalse_5 ?h1_1zfalse_5 ?h2_1zfalse_5 ?h3_1zfalse_5
                case h0_1zfalse_5 => rfl
                case h1_1zfalse_5 => exact e28
                case h2_1zfalse_5 => exact rfl
                case h3_1zfalse_5 => exact (subi i j HJI.out.1 HLn.out HJI.out.2.2 u)
              · intro A u hu hpu hsz hout hdeps
                have e26 : A.eval (.tmp 26) = (.bool true) := by have h := depL hdeps 2 (by kernel_rfl) 26 (by kernel_rfl); exact h
                have e27 : A.eval (.tmp 27) = (.slice (some ⟨b, off, none⟩) n c) := by have h := depL hdeps 3 (by kernel_rfl) 27 (by kernel_rfl); exact h
                have e29 : A.eval (.tmp 29) = (.int .i64 (j : Nat)) := by have h := depL hdeps 5 (by kernel_rfl) 29 (by kernel_rfl); exact h
                refine ifw_want 2 true 26 rfl rfl e26 ?_
                with_reducible refine shown_q (Value.pointer (some ⟨b, off + j * 19, none⟩)) ?qq_1zfalse_6 (fun _ _ => ?qr_1zfalse_6)
                case qr_1zfalse_6 => exact (rfl : (Value.pointer (some ⟨b, off + j * 19, none⟩)) = (Value.pointer (some ⟨b, off + j * 19, none⟩)))
                with_reducible refine quietAt_idx 57 (.tmp 27) (.tmp 29) (Value.slice (some ⟨b, off, none⟩) n c) (Value.int .i64 (j : Nat)) (Value.pointer (some ⟨b, off + j * 19, none⟩)) ?h0_1zfalse_6 ?h1_1zfalse_6 ?h2_1zfalse_6 ?h3_1zfalse_6
                case h0_1zfalse_6 => rfl
                case h1_1zfalse_6 => exact e27
                case h2_1zfalse_6 => exact e29
                case h3_1zfalse_6 => exact (idx23 b off n c j HJI.out.2.1 u)
              · intro A u hu hpu hsz hout hdeps
                have e26 : A.eval (.tmp 26) = (.bool true) := by have h := depL hdeps 2 (by kernel_rfl) 26 (by kernel_rfl); exact h
                have e30 : A.eval (.tmp 30) = (.pointer (some ⟨b, off + j * 19, none⟩)) := by have h := depL hdeps 6 (by kernel_rfl) 30 (by kernel_rfl); exact h
                refine ifw_want 2 true 26 rfl rfl e26 ?_
                with_reducible refine shown_q (Value.agg KP.toArray) ?qq_1zfalse_7 (fun _ _ => ?qr_1zfalse_7)
                case qr_1zfalse_7 => exact (rfl : (Value.agg KP.toArray) = (Value.agg KP.toArray))
                with_reducible refine quietAt_load 85 (.tmp 30) ?h0_1zfalse_7 b (off + j * 19) KP (.struct (Tryz.prog.fieldsOf 85)) ?h1_1zfalse_7 ?h2_1zfalse_7 ?h3_1zfalse_7 ?h4_1zfalse_7 ?h5_1zfalse_7
                case h0_1zfalse_7 => rfl
                case h1_1zfalse_7 => exact e30
                case h2_1zfalse_7 => exact (HPr.out u (gtrans HG.out hu))
                case h3_1zfalse_7 => exact Tryz.under48
                case h4_1zfalse_7 => rfl
                case h5_1zfalse_7 => exact HPL.out
              · intro A u hu hpu hsz hout hdeps
                have e26 : A.eval (.tmp 26) = (.bool true) := by have h := depL hdeps 2 (by kernel_rfl) 26 (by kernel_rfl); exact h
                have e0 : A.eval (.tmp 0) = (.slice (some ⟨b, off, none⟩) n c) := (hout 0 (by kernel_rfl)).trans rfl
                refine ifw_want 2 true 26 rfl rfl e26 ?_
                with_reducible refine shown_q (Value.slice (some ⟨b, off, none⟩) n c) ?qq_1zfalse_8 (fun _ _ => ?qr_1zfalse_8)
                case qr_1zfalse_8 => exact (rfl : (Value.slice (some ⟨b, off, none⟩) n c) = (Value.slice (some ⟨b, off, none⟩) n c))
                with_reducible refine quietAt_mv (.tmp 0) (Value.slice (some ⟨b, off, none⟩) n c) ?h0_1zfalse_8 ?h1_1zfalse_8
                case h0_1zfalse_8 => rfl
                case h1_1zfalse_8 => exact e0
              · intro A u hu hpu hsz hout hdeps
                have e26 : A.eval (.tmp 26) = (.bool true) := by have h := depL hdeps 2 (by kernel_rfl) 26 (by kernel_rfl); exact h
                have e3 : A.eval (.tmp 3) = (.int .i64 (i : Nat)) := (hout 3 (by kernel_rfl)).trans rfl
                refine ifw_want 2 true 26 rfl rfl e26 ?_
                with_reducible refine shown_q (Value.int .i64 (i : Nat)) ?qq_1zfalse_9 (fun _ _ => ?qr_1zfalse_9)
                case qr_1zfalse_9 => exact (rfl : (Value.int .i64 (i : Nat)) = (Value.int .i64 (i : Nat)))
                with_reducible refine quietAt_mv (.tmp 3) (Value.int .i64 (i : Nat)) ?h0_1zfalse_9 ?h1_1zfalse_9
                case h0_1zfalse_9 => rfl
                case h1_1zfalse_9 => exact e3
              · intro A u hu hpu hsz hout hdeps
                have e26 : A.eval (.tmp 26) = (.bool true) := by have h := depL hdeps 2 (by kernel_rfl) 26 (by kernel_rfl); exact h
                have e32 : A.eval (.tmp 32) = (.slice (some ⟨b, off, none⟩) n c) := by have h := depL hdeps 8 (by kernel_rfl) 32 (by kernel_rfl); exact h
                have e33 : A.eval (.tmp 33) = (.int .i64 (i : Nat)) := by have h := depL hdeps 9 (by kernel_rfl) 33 (by kernel_rfl); exact h
                refine ifw_want 2 true 26 rfl rfl e26 ?_
                with_reducible refine shown_q (Value.pointer (some ⟨b, off + i * 19, none⟩)) ?qq_1zfalse_10 (fun _ _ => ?qr_1zfalse_10)
                case qr_1zfalse_10 => exact (rfl : (Value.pointer (some ⟨b, off + i * 19, none⟩)) = (Value.pointer (some ⟨b, off + i * 19, none⟩)))
                with_reducible refine quietAt_idx 57 (.tmp 32) (.tmp 33) (Value.slice (some ⟨b, off, none⟩) n c) (Value.int .i64 (i : Nat)) (Value.pointer (some ⟨b, off + i * 19, none⟩)) ?h0_1zfalse_10 ?h1_1zfalse_10 ?h2_1zfalse_10 ?h3_1zfalse_10
                case h0_1zfalse_10 => rfl
                case h1_1zfalse_10 => exact e32
                case h2_1zfalse_10 => exact e33
                case h3_1zfalse_10 => exact (idx23 b off n c i HJI.out.2.2 u)
              · intro A u hu hpu hsz hout hdeps
                have e26 : A.eval (.tmp 26) = (.bool true) := by have h := depL hdeps 2 (by kernel_rfl) 26 (by kernel_rfl); exact h
                have e34 : A.eval (.tmp 34) = (.pointer (some ⟨b, off + i * 19, none⟩)) := by have h := depL hdeps 10 (by kernel_rfl) 34 (by kernel_rfl); exact h
                refine ifw_want 2 true 26 rfl rfl e26 ?_
                with_reducible refine shown_q (Value.agg K.toArray) ?qq_1zfalse_11 (fun _ _ => ?qr_1zfalse_11)
                case qr_1zfalse_11 => exact (rfl : (Value.agg K.toArray) = (Value.agg K.toArray))
                with_reducible refine quietAt_load 85 (.tmp 34) ?h0_1zfalse_11 b (off + i * 19) K (.struct (Tryz.prog.fieldsOf 85)) ?h1_1zfalse_11 ?h2_1zfalse_11 ?h3_1zfalse_11 ?h4_1zfalse_11 ?h5_1zfalse_11
                case h0_1zfalse_11 => rfl
                case h1_1zfalse_11 => exact e34
                case h2_1zfalse_11 => exact (HKr.out u (gtrans HG.out hu))
                case h3_1zfalse_11 => exact Tryz.under48
                case h4_1zfalse_11 => rfl
                case h5_1zfalse_11 => exact HKL.out
              · intro A u hu hpu hsz hout hdeps
                have e26 : A.eval (.tmp 26) = (.bool true) := by have h := depL hdeps 2 (by kernel_rfl) 26 (by kernel_rfl); exact h
                have e31 : A.eval (.tmp 31) = (.agg KP.toArray) := by have h := depL hdeps 7 (by kernel_rfl) 31 (by kernel_rfl); exact h
                have e35 : A.eval (.tmp 35) = (.agg K.toArray) := by have h := depL hdeps 11 (by kernel_rfl) 35 (by kernel_rfl); exact h
                refine ifw_want 2 true 26 rfl rfl e26 ?_
                with_reducible refine shown_q (Value.bool false) ?qq_1zfalse_12 (fun _ _ => ?qr_1zfalse_12)
                case qr_1zfalse_12 => exact (rfl : (Value.bool false) = (Value.bool false))
                with_reducible refine quietAt_call 32 Tryz.f32 ?h0_1zfalse_12 ?h1_1zfalse_12 ?h2_1zfalse_12 #[.tmp 31, .tmp 35] #[85, 85] ?h3_1zfalse_12 (Value.bool false) #[(Value.agg KP.toArray), (Value.agg K.toArray)] ?h4_1zfalse_12 ?h5_1zfalse_12
                case h0_1zfalse_12 => exact Tryz.func32
                case h1_1zfalse_12 => kernel_rfl
                case h2_1zfalse_12 => kernel_rfl
                case h3_1zfalse_12 => rfl
                case h4_1zfalse_12 => exact map2 _ _ _ _ _ e31 e35
                case h5_1zfalse_12 => exact HAh.out u
              · intro A u hu hpu hsz hout hdeps
                have e26 : A.eval (.tmp 26) = (.bool true) := by have h := depL hdeps 2 (by kernel_rfl) 26 (by kernel_rfl); exact h
                have e36 : A.eval (.tmp 36) = (.bool false) := by have h := depL hdeps 12 (by kernel_rfl) 36 (by kernel_rfl); exact h
                refine ifw_want 2 true 26 rfl rfl e26 ?_
                with_reducible refine shown_q (Value.bool true) ?qq_1zfalse_13 (fun _ _ => ?qr_1zfalse_13)
                case qr_1zfalse_13 => exact (rfl : (Value.bool true) = (Value.bool true))
                with_reducible refine quietAt_un .not 4 (.tmp 36) (Value.bool false) (Value.bool true) ?h0_1zfalse_13 ?h1_1zfalse_13 ?h2_1zfalse_13
                case h0_1zfalse_13 => rfl
                case h1_1zfalse_13 => exact e36
                case h2_1zfalse_13 => rfl
              · intro A u hu hpu hsz hout hdeps
                have e26 : A.eval (.tmp 26) = (.bool true) := by have h := depL hdeps 2 (by kernel_rfl) 26 (by kernel_rfl); exact h
                have e37 : A.eval (.tmp 37) = (.bool true) := by have h := depL hdeps 13 (by kernel_rfl) 37 (by kernel_rfl); exact h
                refine ifw_none rfl ?_
                with_reducible refine shown_q (Value.bool true) ?qq_1zfalse_14 (fun _ _ => ?qr_1zfalse_14)
                case qr_1zfalse_14 => exact (rfl : (Value.bool true) = (Value.bool true))
                with_reducible refine quietAt_pick (.tmp 26) (.tmp 37) (.const (.bool false)) true (Value.bool true) ?h0_1zfalse_14 ?h1_1zfalse_14 ?h2_1zfalse_14
                case h0_1zfalse_14 => rfl
                case h1_1zfalse_14 => exact e26
                case h2_1zfalse_14 => rw [if_pos rfl]; exact e37
              · intro A u8 listed hh hall
                have hA := hh.frame
                have HU := hid hh.grown
                obtain ⟨x24, hx24⟩ : ∃ x, A.eval (.tmp 24) = x := ⟨_, rfl⟩
                have f24 : (fun v _ => v = (Value.int .i64 (i : Nat))) x24 u8 := by rw [← hx24]; exact hh.got 0 _ 24 rfl rfl (hall 0 (by decide))
                obtain ⟨x25, hx25⟩ : ∃ x, A.eval (.tmp 25) = x := ⟨_, rfl⟩
                have f25 : (fun v _ => v = (Value.bool true)) x25 u8 := by rw [← hx25]; exact hh.got 1 _ 25 rfl rfl (hall 1 (by decide))
                obtain ⟨x26, hx26⟩ : ∃ x, A.eval (.tmp 26) = x := ⟨_, rfl⟩
                have f26 : (fun v _ => v = (Value.bool true)) x26 u8 := by rw [← hx26]; exact hh.got 2 _ 26 rfl rfl (hall 2 (by decide))
                obtain ⟨x27, hx27⟩ : ∃ x, A.eval (.tmp 27) = x := ⟨_, rfl⟩
                have f27 : (fun v _ => v = (Value.slice (some ⟨b, off, none⟩) n c)) x27 u8 := by rw [← hx27]; exact hh.got 3 _ 27 rfl rfl (hall 3 (by decide))
                obtain ⟨x28, hx28⟩ : ∃ x, A.eval (.tmp 28) = x := ⟨_, rfl⟩
                have f28 : (fun v _ => v = (Value.int .i64 (i : Nat))) x28 u8 := by rw [← hx28]; exact hh.got 4 _ 28 rfl rfl (hall 4 (by decide))
                obtain ⟨x29, hx29⟩ : ∃ x, A.eval (.tmp 29) = x := ⟨_, rfl⟩
                have f29 : (fun v _ => v = (Value.int .i64 (j : Nat))) x29 u8 := by rw [← hx29]; exact hh.got 5 _ 29 rfl rfl (hall 5 (by decide))
                obtain ⟨x30, hx30⟩ : ∃ x, A.eval (.tmp 30) = x := ⟨_, rfl⟩
                have f30 : (fun v _ => v = (Value.pointer (some ⟨b, off + j * 19, none⟩))) x30 u8 := by rw [← hx30]; exact hh.got 6 _ 30 rfl rfl (hall 6 (by decide))
                obtain ⟨x31, hx31⟩ : ∃ x, A.eval (.tmp 31) = x := ⟨_, rfl⟩
                have f31 : (fun v _ => v = (Value.agg KP.toArray)) x31 u8 := by rw [← hx31]; exact hh.got 7 _ 31 rfl rfl (hall 7 (by decide))
                obtain ⟨x32, hx32⟩ : ∃ x, A.eval (.tmp 32) = x := ⟨_, rfl⟩
                have f32 : (fun v _ => v = (Value.slice (some ⟨b, off, none⟩) n c)) x32 u8 := by rw [← hx32]; exact hh.got 8 _ 32 rfl rfl (hall 8 (by decide))
                obtain ⟨x33, hx33⟩ : ∃ x, A.eval (.tmp 33) = x := ⟨_, rfl⟩
                have f33 : (fun v _ => v = (Value.int .i64 (i : Nat))) x33 u8 := by rw [← hx33]; exact hh.got 9 _ 33 rfl rfl (hall 9 (by decide))
                obtain ⟨x34, hx34⟩ : ∃ x, A.eval (.tmp 34) = x := ⟨_, rfl⟩
                have f34 : (fun v _ => v = (Value.pointer (some ⟨b, off + i * 19, none⟩))) x34 u8 := by rw [← hx34]; exact hh.got 10 _ 34 rfl rfl (hall 10 (by decide))
                obtain ⟨x35, hx35⟩ : ∃ x, A.eval (.tmp 35) = x := ⟨_, rfl⟩
                have f35 : (fun v _ => v = (Value.agg K.toArray)) x35 u8 := by rw [← hx35]; exact hh.got 11 _ 35 rfl rfl (hall 11 (by decide))
                obtain ⟨x36, hx36⟩ : ∃ x, A.eval (.tmp 36) = x := ⟨_, rfl⟩
                have f36 : (fun v _ => v = (Value.bool false)) x36 u8 := by rw [← hx36]; exact hh.got 12 _ 36 rfl rfl (hall 12 (by decide))
                obtain ⟨x37, hx37⟩ : ∃ x, A.eval (.tmp 37) = x := ⟨_, rfl⟩
                have f37 : (fun v _ => v = (Value.bool true)) x37 u8 := by rw [← hx37]; exact hh.got 13 _ 37 rfl rfl (hall 13 (by decide))
                obtain ⟨x38, hx38⟩ : ∃ x, A.eval (.tmp 38) = x := ⟨_, rfl⟩
                have f38 : (fun v _ => v = (Value.bool true)) x38 u8 := by rw [← hx38]; exact hh.got 14 _ 38 rfl rfl (hall 14 (by decide))
                dsimp only [wrote, List.foldl] at hA
                rw [hx24, hx25, hx26, hx27, hx28, hx29, hx30, hx31, hx32, hx33, hx34, hx35, hx36, hx37, hx38] at hA
                clear hh hall hx24 hx25 hx26 hx27 hx28 hx29 hx30 hx31 hx32 hx33 hx34 hx35 hx36 hx37 hx38
                replace f24 := (f24 : x24 = (.int .i64 (i : Nat)))
                subst f24
                replace f25 := (f25 : x25 = (.bool true))
                subst f25
                replace f26 := (f26 : x26 = (.bool true))
                subst f26
                replace f27 := (f27 : x27 = (.slice (some ⟨b, off, none⟩) n c))
                subst f27
                replace f28 := (f28 : x28 = (.int .i64 (i : Nat)))
                subst f28
                replace f29 := (f29 : x29 = (.int .i64 (j : Nat)))
                subst f29
                replace f30 := (f30 : x30 = (.pointer (some ⟨b, off + j * 19, none⟩)))
                subst f30
                replace f31 := (f31 : x31 = (.agg KP.toArray))
                subst f31
                replace f32 := (f32 : x32 = (.slice (some ⟨b, off, none⟩) n c))
                subst f32
                replace f33 := (f33 : x33 = (.int .i64 (i : Nat)))
                subst f33
                replace f34 := (f34 : x34 = (.pointer (some ⟨b, off + i * 19, none⟩)))
                subst f34
                replace f35 := (f35 : x35 = (.agg K.toArray))
                subst f35
                replace f36 := (f36 : x36 = (.bool false))
                subst f36
                replace f37 := (f37 : x37 = (.bool true))
                subst f37
                replace f38 := (f38 : x38 = (.bool true))
                subst f38
                subst hA
                show wpList _ _ _ [] _ _
                unfold wpList
                simp only [Act.put, List.setIfInBounds_toArray, List.set_cons_succ, List.set_cons_zero]
                have HUz := hid (gtrans HG.out HU.out)
                go_wp2_with fail
                go_ret
                exact ⟨by rw [← HEE.out, HRf.out]; rfl, HUz.out⟩
            | true =>
              go_upto_region 6 with fail
              refine wp_region_listX (by kernel_rfl) [fun v _ => v = (Value.int .i64 (i : Nat)), fun v _ => v = (Value.bool true), fun v _ => v = (Value.bool true), fun v _ => v = (Value.slice (some ⟨b, off, none⟩) n c), fun v _ => v = (Value.int .i64 (i : Nat)), fun v _ => v = (Value.int .i64 (j : Nat)), fun v _ => v = (Value.pointer (some ⟨b, off + j * 19, none⟩)), fun v _ => v = (Value.agg KP.toArray), fun v _ => v = (Value.slice (some ⟨b, off, none⟩) n c), fun v _ => v = (Value.int .i64 (i : Nat)), fun v _ => v = (Value.pointer (some ⟨b, off + i * 19, none⟩)), fun v _ => v = (Value.agg K.toArray), fun v _ => v = (Value.bool true), fun v _ => v = (Value.bool false), fun v _ => v = (Value.bool false)] (none) (fun _ => none) 15 (by kernel_rfl) (by kernel_rfl) (by kernel_rfl) (by kernel_rfl) (by decide) noRow_one (fun _ => .inl rfl) ⟨fun i v u u' hki h hg => h, fun i v u u' hki h hg => h, fun i v u u' hki h hg => h, fun i v u u' hki h hg => h, fun i v u u' hki h hg => h, fun i v u u' hki h hg => h, fun i v u u' hki h hg => h, fun i v u u' hki h hg => h, fun i v u u' hki h hg => h, fun i v u u' hki h hg => h, fun i v u u' hki h hg => h, fun i v u u' hki h hg => h, fun i v u u' hki h hg => h, fun i v u u' hki h hg => h, fun i v u u' hki h hg => h, trivial⟩ ⟨?_, ?_, ?_, ?_, ?_, ?_, ?_, ?_, ?_, ?_, ?_, ?_, ?_, ?_, ?_, trivial⟩ ?_
              · intro A u hu hpu hsz hout hdeps
                have e3 : A.eval (.tmp 3) = (.int .i64 (i : Nat)) := (hout 3 (by kernel_rfl)).trans rfl
                refine ifw_none rfl ?_
                with_reducible refine shown_q (Value.int .i64 (i : Nat)) ?qq_2ztrue_0 (fun _ _ => ?qr_2ztrue_0)
                case qr_2ztrue_0 => exact (rfl : (Value.int .i64 (i : Nat)) = (Value.int .i64 (i : Nat)))
                with_reducible refine quietAt_mv (.tmp 3) (Value.int .i64 (i : Nat)) ?h0_2ztrue_0 ?h1_2ztrue_0
                case h0_2ztrue_0 => rfl
                case h1_2ztrue_0 => exact e3
              · intro A u hu hpu hsz hout hdeps
                have e24 : A.eval (.tmp 24) = (.int .i64 (i : Nat)) := by have h := depL hdeps 0 (by kernel_rfl) 24 (by kernel_rfl); exact h
                refine ifw_none rfl ?_
                with_reducible refine shown_q (Value.bool true) ?qq_2ztrue_1 (fun _ _ => ?qr_2ztrue_1)
                case qr_2ztrue_1 => exact (rfl : (Value.bool true) = (Value.bool true))
                with_reducible refine quietAt_bin .gtr 3 (.tmp 24) (.const (.int .i64 0)) 3 (Value.int .i64 (i : Nat)) (Value.int .i64 0) (Value.bool true) ?h0_2ztrue_1 ?h1_2ztrue_1 ?h2_2ztrue_1 ?h3_2ztrue_1
                case h0_2ztrue_1 => rfl
                case h1_2ztrue_1 => exact e24
                case h2_2ztrue_1 => exact rfl
                case h3_2ztrue_1 => exact (gti i (by have := HJI.out.1; omega) u)
              · intro A u hu hpu hsz hout hdeps
                have e25 : A.eval (.tmp 25) = (.bool true) := by have h := depL hdeps 1 (by kernel_rfl) 25 (by kernel_rfl); exact h
                refine ifw_none rfl ?_
                with_reducible refine shown_q (Value.bool true) ?qq_2ztrue_2 (fun _ _ => ?qr_2ztrue_2)
                case qr_2ztrue_2 => exact (rfl : (Value.bool true) = (Value.bool true))
                with_reducible refine quietAt_mv (.tmp 25) (Value.bool true) ?h0_2ztrue_2 ?h1_2ztrue_2
                case h0_2ztrue_2 => rfl
                case h1_2ztrue_2 => exact e25
              · intro A u hu hpu hsz hout hdeps
                have e26 : A.eval (.tmp 26) = (.bool true) := by have h := depL hdeps 2 (by kernel_rfl) 26 (by kernel_rfl); exact h
                have e0 : A.eval (.tmp 0) = (.slice (some ⟨b, off, none⟩) n c) := (hout 0 (by kernel_rfl)).trans rfl
                refine ifw_want 2 true 26 rfl rfl e26 ?_
                with_reducible refine shown_q (Value.slice (some ⟨b, off, none⟩) n c) ?qq_2ztrue_3 (fun _ _ => ?qr_2ztrue_3)
                case qr_2ztrue_3 => exact (rfl : (Value.slice (some ⟨b, off, none⟩) n c) = (Value.slice (some ⟨b, off, none⟩) n c))
                with_reducible refine quietAt_mv (.tmp 0) (Value.slice (some ⟨b, off, none⟩) n c) ?h0_2ztrue_3 ?h1_2ztrue_3
                case h0_2ztrue_3 => rfl
                case h1_2ztrue_3 => exact e0
              · intro A u hu hpu hsz hout hdeps
                have e26 : A.eval (.tmp 26) = (.bool true) := by have h := depL hdeps 2 (by kernel_rfl) 26 (by kernel_rfl); exact h
                have e3 : A.eval (.tmp 3) = (.int .i64 (i : Nat)) := (hout 3 (by kernel_rfl)).trans rfl
                refine ifw_want 2 true 26 rfl rfl e26 ?_
                with_reducible refine shown_q (Value.int .i64 (i : Nat)) ?qq_2ztrue_4 (fun _ _ => ?qr_2ztrue_4)
                case qr_2ztrue_4 => exact (rfl : (Value.int .i64 (i : Nat)) = (Value.int .i64 (i : Nat)))
                with_reducible refine quietAt_mv (.tmp 3) (Value.int .i64 (i : Nat)) ?h0_2ztrue_4 ?h1_2ztrue_4
                case h0_2ztrue_4 => rfl
                case h1_2ztrue_4 => exact e3
              · intro A u hu hpu hsz hout hdeps
                have e26 : A.eval (.tmp 26) = (.bool true) := by have h := depL hdeps 2 (by kernel_rfl) 26 (by kernel_rfl); exact h
                have e28 : A.eval (.tmp 28) = (.int .i64 (i : Nat)) := by have h := depL hdeps 4 (by kernel_rfl) 28 (by kernel_rfl); exact h
                refine ifw_want 2 true 26 rfl rfl e26 ?_
                with_reducible refine shown_q (Value.int .i64 (j : Nat)) ?qq_2ztrue_5 (fun _ _ => ?qr_2ztrue_5)
                case qr_2ztrue_5 => exact (rfl : (Value.int .i64 (j : Nat)) = (Value.int .i64 (j : Nat)))
                with_reducible refine quietAt_bin .sub 3 (.tmp 28) (.const (.int .i64 1)) 3 (Value.int .i64 (i : Nat)) (Value.int .i64 1) (Value.int .i64 (j : Nat)) ?h0_2ztrue_5 ?h1_2ztrue_5 ?h2_2ztrue_5 ?h3_2ztrue_5
                case h0_2ztrue_5 => rfl
                case h1_2ztrue_5 => exact e28
                case h2_2ztrue_5 => exact rfl
                case h3_2ztrue_5 => exact (subi i j HJI.out.1 HLn.out HJI.out.2.2 u)
              · intro A u hu hpu hsz hout hdeps
                have e26 : A.eval (.tmp 26) = (.bool true) := by have h := depL hdeps 2 (by kernel_rfl) 26 (by kernel_rfl); exact h
                have e27 : A.eval (.tmp 27) = (.slice (some ⟨b, off, none⟩) n c) := by have h := depL hdeps 3 (by kernel_rfl) 27 (by kernel_rfl); exact h
                have e29 : A.eval (.tmp 29) = (.int .i64 (j : Nat)) := by have h := depL hdeps 5 (by kernel_rfl) 29 (by kernel_rfl); exact h
                refine ifw_want 2 true 26 rfl rfl e26 ?_
                with_reducible refine shown_q (Value.pointer (some ⟨b, off + j * 19, none⟩)) ?qq_2ztrue_6 (fun _ _ => ?qr_2ztrue_6)
                case qr_2ztrue_6 => exact (rfl : (Value.pointer (some ⟨b, off + j * 19, none⟩)) = (Value.pointer (some ⟨b, off + j * 19, none⟩)))
                with_reducible refine quietAt_idx 57 (.tmp 27) (.tmp 29) (Value.slice (some ⟨b, off, none⟩) n c) (Value.int .i64 (j : Nat)) (Value.pointer (some ⟨b, off + j * 19, none⟩)) ?h0_2ztrue_6 ?h1_2ztrue_6 ?h2_2ztrue_6 ?h3_2ztrue_6
                case h0_2ztrue_6 => rfl
                case h1_2ztrue_6 => exact e27
                case h2_2ztrue_6 => exact e29
                case h3_2ztrue_6 => exact (idx23 b off n c j HJI.out.2.1 u)
              · intro A u hu hpu hsz hout hdeps
                have e26 : A.eval (.tmp 26) = (.bool true) := by have h := depL hdeps 2 (by kernel_rfl) 26 (by kernel_rfl); exact h
                have e30 : A.eval (.tmp 30) = (.pointer (some ⟨b, off + j * 19, none⟩)) := by have h := depL hdeps 6 (by kernel_rfl) 30 (by kernel_rfl); exact h
                refine ifw_want 2 true 26 rfl rfl e26 ?_
                with_reducible refine shown_q (Value.agg KP.toArray) ?qq_2ztrue_7 (fun _ _ => ?qr_2ztrue_7)
                case qr_2ztrue_7 => exact (rfl : (Value.agg KP.toArray) = (Value.agg KP.toArray))
                with_reducible refine quietAt_load 85 (.tmp 30) ?h0_2ztrue_7 b (off + j * 19) KP (.struct (Tryz.prog.fieldsOf 85)) ?h1_2ztrue_7 ?h2_2ztrue_7 ?h3_2ztrue_7 ?h4_2ztrue_7 ?h5_2ztrue_7
                case h0_2ztrue_7 => rfl
                case h1_2ztrue_7 => exact e30
                case h2_2ztrue_7 => exact (HPr.out u (gtrans HG.out hu))
                case h3_2ztrue_7 => exact Tryz.under48
                case h4_2ztrue_7 => rfl
                case h5_2ztrue_7 => exact HPL.out
              · intro A u hu hpu hsz hout hdeps
                have e26 : A.eval (.tmp 26) = (.bool true) := by have h := depL hdeps 2 (by kernel_rfl) 26 (by kernel_rfl); exact h
                have e0 : A.eval (.tmp 0) = (.slice (some ⟨b, off, none⟩) n c) := (hout 0 (by kernel_rfl)).trans rfl
                refine ifw_want 2 true 26 rfl rfl e26 ?_
                with_reducible refine shown_q (Value.slice (some ⟨b, off, none⟩) n c) ?qq_2ztrue_8 (fun _ _ => ?qr_2ztrue_8)
                case qr_2ztrue_8 => exact (rfl : (Value.slice (some ⟨b, off, none⟩) n c) = (Value.slice (some ⟨b, off, none⟩) n c))
                with_reducible refine quietAt_mv (.tmp 0) (Value.slice (some ⟨b, off, none⟩) n c) ?h0_2ztrue_8 ?h1_2ztrue_8
                case h0_2ztrue_8 => rfl
                case h1_2ztrue_8 => exact e0
              · intro A u hu hpu hsz hout hdeps
                have e26 : A.eval (.tmp 26) = (.bool true) := by have h := depL hdeps 2 (by kernel_rfl) 26 (by kernel_rfl); exact h
                have e3 : A.eval (.tmp 3) = (.int .i64 (i : Nat)) := (hout 3 (by kernel_rfl)).trans rfl
                refine ifw_want 2 true 26 rfl rfl e26 ?_
                with_reducible refine shown_q (Value.int .i64 (i : Nat)) ?qq_2ztrue_9 (fun _ _ => ?qr_2ztrue_9)
                case qr_2ztrue_9 => exact (rfl : (Value.int .i64 (i : Nat)) = (Value.int .i64 (i : Nat)))
                with_reducible refine quietAt_mv (.tmp 3) (Value.int .i64 (i : Nat)) ?h0_2ztrue_9 ?h1_2ztrue_9
                case h0_2ztrue_9 => rfl
                case h1_2ztrue_9 => exact e3
              · intro A u hu hpu hsz hout hdeps
                have e26 : A.eval (.tmp 26) = (.bool true) := by have h := depL hdeps 2 (by kernel_rfl) 26 (by kernel_rfl); exact h
                have e32 : A.eval (.tmp 32) = (.slice (some ⟨b, off, none⟩) n c) := by have h := depL hdeps 8 (by kernel_rfl) 32 (by kernel_rfl); exact h
                have e33 : A.eval (.tmp 33) = (.int .i64 (i : Nat)) := by have h := depL hdeps 9 (by kernel_rfl) 33 (by kernel_rfl); exact h
                refine ifw_want 2 true 26 rfl rfl e26 ?_
                with_reducible refine shown_q (Value.pointer (some ⟨b, off + i * 19, none⟩)) ?qq_2ztrue_10 (fun _ _ => ?qr_2ztrue_10)
                case qr_2ztrue_10 => exact (rfl : (Value.pointer (some ⟨b, off + i * 19, none⟩)) = (Value.pointer (some ⟨b, off + i * 19, none⟩)))
                with_reducible refine quietAt_idx 57 (.tmp 32) (.tmp 33) (Value.slice (some ⟨b, off, none⟩) n c) (Value.int .i64 (i : Nat)) (Value.pointer (some ⟨b, off + i * 19, none⟩)) ?h0_2ztrue_10 ?h1_2ztrue_10 ?h2_2ztrue_10 ?h3_2ztrue_10
                case h0_2ztrue_10 => rfl
                case h1_2ztrue_10 => exact e32
                case h2_2ztrue_10 => exact e33
                case h3_2ztrue_10 => exact (idx23 b off n c i HJI.out.2.2 u)
              · intro A u hu hpu hsz hout hdeps
                have e26 : A.eval (.tmp 26) = (.bool true) := by have h := depL hdeps 2 (by kernel_rfl) 26 (by kernel_rfl); exact h
                have e34 : A.eval (.tmp 34) = (.pointer (some ⟨b, off + i * 19, none⟩)) := by have h := depL hdeps 10 (by kernel_rfl) 34 (by kernel_rfl); exact h
                refine ifw_want 2 true 26 rfl rfl e26 ?_
                with_reducible refine shown_q (Value.agg K.toArray) ?qq_2ztrue_11 (fun _ _ => ?qr_2ztrue_11)
                case qr_2ztrue_11 => exact (rfl : (Value.agg K.toArray) = (Value.agg K.toArray))
                with_reducible refine quietAt_load 85 (.tmp 34) ?h0_2ztrue_11 b (off + i * 19) K (.struct (Tryz.prog.fieldsOf 85)) ?h1_2ztrue_11 ?h2_2ztrue_11 ?h3_2ztrue_11 ?h4_2ztrue_11 ?h5_2ztrue_11
                case h0_2ztrue_11 => rfl
                case h1_2ztrue_11 => exact e34
                case h2_2ztrue_11 => exact (HKr.out u (gtrans HG.out hu))
                case h3_2ztrue_11 => exact Tryz.under48
                case h4_2ztrue_11 => rfl
                case h5_2ztrue_11 => exact HKL.out
              · intro A u hu hpu hsz hout hdeps
                have e26 : A.eval (.tmp 26) = (.bool true) := by have h := depL hdeps 2 (by kernel_rfl) 26 (by kernel_rfl); exact h
                have e31 : A.eval (.tmp 31) = (.agg KP.toArray) := by have h := depL hdeps 7 (by kernel_rfl) 31 (by kernel_rfl); exact h
                have e35 : A.eval (.tmp 35) = (.agg K.toArray) := by have h := depL hdeps 11 (by kernel_rfl) 35 (by kernel_rfl); exact h
                refine ifw_want 2 true 26 rfl rfl e26 ?_
                with_reducible refine shown_q (Value.bool true) ?qq_2ztrue_12 (fun _ _ => ?qr_2ztrue_12)
                case qr_2ztrue_12 => exact (rfl : (Value.bool true) = (Value.bool true))
                with_reducible refine quietAt_call 32 Tryz.f32 ?h0_2ztrue_12 ?h1_2ztrue_12 ?h2_2ztrue_12 #[.tmp 31, .tmp 35] #[85, 85] ?h3_2ztrue_12 (Value.bool true) #[(Value.agg KP.toArray), (Value.agg K.toArray)] ?h4_2ztrue_12 ?h5_2ztrue_12
                case h0_2ztrue_12 => exact Tryz.func32
                case h1_2ztrue_12 => kernel_rfl
                case h2_2ztrue_12 => kernel_rfl
                case h3_2ztrue_12 => rfl
                case h4_2ztrue_12 => exact map2 _ _ _ _ _ e31 e35
                case h5_2ztrue_12 => exact HAh.out u
              · intro A u hu hpu hsz hout hdeps
                have e26 : A.eval (.tmp 26) = (.bool true) := by have h := depL hdeps 2 (by kernel_rfl) 26 (by kernel_rfl); exact h
                have e36 : A.eval (.tmp 36) = (.bool true) := by have h := depL hdeps 12 (by kernel_rfl) 36 (by kernel_rfl); exact h
                refine ifw_want 2 true 26 rfl rfl e26 ?_
                with_reducible refine shown_q (Value.bool false) ?qq_2ztrue_13 (fun _ _ => ?qr_2ztrue_13)
                case qr_2ztrue_13 => exact (rfl : (Value.bool false) = (Value.bool false))
                with_reducible refine quietAt_un .not 4 (.tmp 36) (Value.bool true) (Value.bool false) ?h0_2ztrue_13 ?h1_2ztrue_13 ?h2_2ztrue_13
                case h0_2ztrue_13 => rfl
                case h1_2ztrue_13 => exact e36
                case h2_2ztrue_13 => rfl
              · intro A u hu hpu hsz hout hdeps
                have e26 : A.eval (.tmp 26) = (.bool true) := by have h := depL hdeps 2 (by kernel_rfl) 26 (by kernel_rfl); exact h
                have e37 : A.eval (.tmp 37) = (.bool false) := by have h := depL hdeps 13 (by kernel_rfl) 37 (by kernel_rfl); exact h
                refine ifw_none rfl ?_
                with_reducible refine shown_q (Value.bool false) ?qq_2ztrue_14 (fun _ _ => ?qr_2ztrue_14)
                case qr_2ztrue_14 => exact (rfl : (Value.bool false) = (Value.bool false))
                with_reducible refine quietAt_pick (.tmp 26) (.tmp 37) (.const (.bool false)) true (Value.bool false) ?h0_2ztrue_14 ?h1_2ztrue_14 ?h2_2ztrue_14
                case h0_2ztrue_14 => rfl
                case h1_2ztrue_14 => exact e26
                case h2_2ztrue_14 => rw [if_pos rfl]; exact e37
              · intro A u8 listed hh hall
                have hA := hh.frame
                have HU := hid hh.grown
                obtain ⟨x24, hx24⟩ : ∃ x, A.eval (.tmp 24) = x := ⟨_, rfl⟩
                have f24 : (fun v _ => v = (Value.int .i64 (i : Nat))) x24 u8 := by rw [← hx24]; exact hh.got 0 _ 24 rfl rfl (hall 0 (by decide))
                obtain ⟨x25, hx25⟩ : ∃ x, A.eval (.tmp 25) = x := ⟨_, rfl⟩
                have f25 : (fun v _ => v = (Value.bool true)) x25 u8 := by rw [← hx25]; exact hh.got 1 _ 25 rfl rfl (hall 1 (by decide))
                obtain ⟨x26, hx26⟩ : ∃ x, A.eval (.tmp 26) = x := ⟨_, rfl⟩
                have f26 : (fun v _ => v = (Value.bool true)) x26 u8 := by rw [← hx26]; exact hh.got 2 _ 26 rfl rfl (hall 2 (by decide))
                obtain ⟨x27, hx27⟩ : ∃ x, A.eval (.tmp 27) = x := ⟨_, rfl⟩
                have f27 : (fun v _ => v = (Value.slice (some ⟨b, off, none⟩) n c)) x27 u8 := by rw [← hx27]; exact hh.got 3 _ 27 rfl rfl (hall 3 (by decide))
                obtain ⟨x28, hx28⟩ : ∃ x, A.eval (.tmp 28) = x := ⟨_, rfl⟩
                have f28 : (fun v _ => v = (Value.int .i64 (i : Nat))) x28 u8 := by rw [← hx28]; exact hh.got 4 _ 28 rfl rfl (hall 4 (by decide))
                obtain ⟨x29, hx29⟩ : ∃ x, A.eval (.tmp 29) = x := ⟨_, rfl⟩
                have f29 : (fun v _ => v = (Value.int .i64 (j : Nat))) x29 u8 := by rw [← hx29]; exact hh.got 5 _ 29 rfl rfl (hall 5 (by decide))
                obtain ⟨x30, hx30⟩ : ∃ x, A.eval (.tmp 30) = x := ⟨_, rfl⟩
                have f30 : (fun v _ => v = (Value.pointer (some ⟨b, off + j * 19, none⟩))) x30 u8 := by rw [← hx30]; exact hh.got 6 _ 30 rfl rfl (hall 6 (by decide))
                obtain ⟨x31, hx31⟩ : ∃ x, A.eval (.tmp 31) = x := ⟨_, rfl⟩
                have f31 : (fun v _ => v = (Value.agg KP.toArray)) x31 u8 := by rw [← hx31]; exact hh.got 7 _ 31 rfl rfl (hall 7 (by decide))
                obtain ⟨x32, hx32⟩ : ∃ x, A.eval (.tmp 32) = x := ⟨_, rfl⟩
                have f32 : (fun v _ => v = (Value.slice (some ⟨b, off, none⟩) n c)) x32 u8 := by rw [← hx32]; exact hh.got 8 _ 32 rfl rfl (hall 8 (by decide))
                obtain ⟨x33, hx33⟩ : ∃ x, A.eval (.tmp 33) = x := ⟨_, rfl⟩
                have f33 : (fun v _ => v = (Value.int .i64 (i : Nat))) x33 u8 := by rw [← hx33]; exact hh.got 9 _ 33 rfl rfl (hall 9 (by decide))
                obtain ⟨x34, hx34⟩ : ∃ x, A.eval (.tmp 34) = x := ⟨_, rfl⟩
                have f34 : (fun v _ => v = (Value.pointer (some ⟨b, off + i * 19, none⟩))) x34 u8 := by rw [← hx34]; exact hh.got 10 _ 34 rfl rfl (hall 10 (by decide))
                obtain ⟨x35, hx35⟩ : ∃ x, A.eval (.tmp 35) = x := ⟨_, rfl⟩
                have f35 : (fun v _ => v = (Value.agg K.toArray)) x35 u8 := by rw [← hx35]; exact hh.got 11 _ 35 rfl rfl (hall 11 (by decide))
                obtain ⟨x36, hx36⟩ : ∃ x, A.eval (.tmp 36) = x := ⟨_, rfl⟩
                have f36 : (fun v _ => v = (Value.bool true)) x36 u8 := by rw [← hx36]; exact hh.got 12 _ 36 rfl rfl (hall 12 (by decide))
                obtain ⟨x37, hx37⟩ : ∃ x, A.eval (.tmp 37) = x := ⟨_, rfl⟩
                have f37 : (fun v _ => v = (Value.bool false)) x37 u8 := by rw [← hx37]; exact hh.got 13 _ 37 rfl rfl (hall 13 (by decide))
                obtain ⟨x38, hx38⟩ : ∃ x, A.eval (.tmp 38) = x := ⟨_, rfl⟩
                have f38 : (fun v _ => v = (Value.bool false)) x38 u8 := by rw [← hx38]; exact hh.got 14 _ 38 rfl rfl (hall 14 (by decide))
                dsimp only [wrote, List.foldl] at hA
                rw [hx24, hx25, hx26, hx27, hx28, hx29, hx30, hx31, hx32, hx33, hx34, hx35, hx36, hx37, hx38] at hA
                clear hh hall hx24 hx25 hx26 hx27 hx28 hx29 hx30 hx31 hx32 hx33 hx34 hx35 hx36 hx37 hx38
                replace f24 := (f24 : x24 = (.int .i64 (i : Nat)))
                subst f24
                replace f25 := (f25 : x25 = (.bool true))
                subst f25
                replace f26 := (f26 : x26 = (.bool true))
                subst f26
                replace f27 := (f27 : x27 = (.slice (some ⟨b, off, none⟩) n c))
                subst f27
                replace f28 := (f28 : x28 = (.int .i64 (i : Nat)))
                subst f28
                replace f29 := (f29 : x29 = (.int .i64 (j : Nat)))
                subst f29
                replace f30 := (f30 : x30 = (.pointer (some ⟨b, off + j * 19, none⟩)))
                subst f30
                replace f31 := (f31 : x31 = (.agg KP.toArray))
                subst f31
                replace f32 := (f32 : x32 = (.slice (some ⟨b, off, none⟩) n c))
                subst f32
                replace f33 := (f33 : x33 = (.int .i64 (i : Nat)))
                subst f33
                replace f34 := (f34 : x34 = (.pointer (some ⟨b, off + i * 19, none⟩)))
                subst f34
                replace f35 := (f35 : x35 = (.agg K.toArray))
                subst f35
                replace f36 := (f36 : x36 = (.bool true))
                subst f36
                replace f37 := (f37 : x37 = (.bool false))
                subst f37
                replace f38 := (f38 : x38 = (.bool false))
                subst f38
                subst hA
                show wpList _ _ _ [] _ _
                unfold wpList
                simp only [Act.put, List.setIfInBounds_toArray, List.set_cons_succ, List.set_cons_zero]
                have HUz := hid (gtrans HG.out HU.out)
                obtain ⟨r1, r2⟩ := HPc.out u8 HUz.out
                obtain ⟨r3, r4⟩ := HKc.out u8 HUz.out
                clear HU
                by_cases hgg : pg = cg
                · rw [if_pos hgg] at HMf
                  have hgg' : ((pg : Int) == (cg : Int)) = true := by rw [beq_iff_eq]; omega
                  subst hgg
                  cases pw with
                  | true =>
                    as_aux_lemma =>
                    have HRf : Hid (R = false) := hid (by rw [HSt.out, HMf.out]; rfl)
                    go_wp2_with fail
                    go_quiet (fail)
                    go_wp2_with fail
                    go_ret
                    exact ⟨by rw [← HEE.out, HRf.out]; rfl, gtrans HUz.out (gdrew _ _ _)⟩
                  | false =>
                    cases cw with
                    | true =>
                      as_aux_lemma =>
                      have HRf : Hid (R = false) := hid (by rw [HSt.out, HMf.out]; rfl)
                      go_wp2_with fail
                      go_quiet (fail)
                      go_wp2_with fail
                      go_ret
                      exact ⟨by rw [← HEE.out, HRf.out]; rfl, gtrans HUz.out (gdrew _ _ _)⟩
                    | false =>
                      as_aux_lemma =>
                      have HRt : Hid (R = chkR l (i + 1)) := hid (by rw [HSt.out, HMf.out]; rfl)
                      go_wp2_with fail
                      go_quiet (fail)
                      go_wp2_with fail
                      go_roundw
                      case rel => exact ⟨i + 1, by go_num, by have := HJI.out.2.2; omega, HRt, hid (gtrans HUz.out (gdrew _ _ _))⟩
                      case measure => have := HJI.out.2.2; simp [intOf]; omega
                · as_aux_lemma =>
                  rw [if_neg hgg] at HMf
                  have hgg' : ((pg : Int) == (cg : Int)) = false := beq_eq_false_iff_ne.2 (by omega)
                  have hgg2 : ¬ (pg : Int) = (cg : Int) := by omega
                  have HRt : Hid (R = chkR l (i + 1)) := hid (by rw [HSt.out, HMf.out]; rfl)
                  clear hgg
                  go_wp2_with fail
                  go_quiet (fail)
                  go_wp2_with fail
                  go_roundw
                  case rel => exact ⟨i + 1, by go_num, by have := HJI.out.2.2; omega, HRt, hid (gtrans HUz.out (gdrew _ _ _))⟩
                  case measure => have := HJI.out.2.2; simp [intOf]; omega
    · as_aux_lemma =>
      have hlt' : ¬ (i : Int) < (n : Int) := by omega
      have HRt : Hid (R = true) := hid (by rw [HRg.out]; exact chkR_end l i (by rw [HN.out]; omega))
      go_wp2_with fail
      go_ret
      exact ⟨by rw [← HEE.out, HRt.out]; rfl, HG.out⟩
end Go.Proofs.YtlgjmhemgfjgnaaGreat
