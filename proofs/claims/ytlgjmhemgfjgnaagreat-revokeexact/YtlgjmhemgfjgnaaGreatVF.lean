/- Check. -/
import Derived.Test.YtlgjmhemgfjgnaaGreatVE
import Derived.Test.YtlgjmhemgfjgnaaGreatGrowX
namespace Go.Proofs.YtlgjmhemgfjgnaaGreat
open Go Go.RowKit
open Go.RowKit (wrap32 wrap64)

set_option maxRecDepth 100000 in
theorem ld4 (b i : Nat) (x : Bool) (u : World) (h : u.cell? ⟨b, i, none⟩ = some (.bool x)) : (Instr.loadAt 4 (.pointer (some ⟨b, i, none⟩))).run Tryz.prog u = .ok (.bool x) u := by go_simp
set_option maxRecDepth 100000 in
theorem ifw_undef {o : Oper} {ops : Array Oper} {A : Act} {X Y : Prop} (j : Nat) (b : Bool) (d : Tmp) (hg : o.guard = some (j, b)) (hd : ((ops[j]?).bind (·.dst)) = some d) (hb : A.eval (.tmp d) = undef) (h : Y) : if Region.wanted o (yielded ops A.tmps) = true then X else Y := by
  have hy : yielded ops A.tmps j = none := by
    unfold yielded
    rw [hd]
    have h2 : A.tmps.getD d undef = undef := hb
    rw [Array.getD_eq_getD_getElem?] at h2
    show (match A.tmps[d]? with | some (.bool b) => some b | _ => none) = none
    cases e : A.tmps[d]? with
    | none => rfl
    | some v => rw [e] at h2; have h3 : v = undef := h2; subst h3; rfl
  rw [if_neg (by simp [Region.wanted, hg, hy])]
  exact h
set_option maxRecDepth 100000 in
theorem quietAt_build {P : Program} {C : World → Prop} {o : Oper} {A : Act} {u : World} (t : TypeId) (xs : Array (Nat × Operand)) (ho : o.op = .build t xs) (vs : List (Nat × Value)) (hx : (xs.map fun (i, x) => (i, A.eval x)) = vs.toArray) (z : List Value) (hz : P.built t vs = some z.toArray) : o.quietAt P A C u (.agg z.toArray) := by
  have e : P.built t (xs.map fun (i, x) => (i, A.eval x)).toList = some z.toArray := by rw [hx]; exact hz
  unfold Oper.quietAt execOp
  simp only [ho, Sem.run_bind, run_build u t _ _ e]
  exact ⟨rfl, rfl⟩
set_option maxRecDepth 100000 in
theorem Blk.cell0 {u : World} {b : Nat} {cs : List Value} {t : TypeId} (h : Blk u b cs t) {v : Value} (h0 : Hid (cs[0]? = some v)) : u.cell? ⟨b, 0, none⟩ = some v := by rw [h.cell]; exact h0.out
set_option maxRecDepth 100000 in
theorem gt0 {x y : Operand} (u : World) : (do eqGuard .gtr 3 x y (.int .i64 ((0 : Nat) : Int)) (.int .i64 0); binOp .gtr 3 (.int .i64 ((0 : Nat) : Int)) (.int .i64 0) : Sem Value).run Tryz.prog u = .ok (.bool false) u := by go_simp
set_option maxRecDepth 100000 in
theorem gtj {x y : Operand} (j : Nat) (u : World) (_hj : j < 1099511627776) : (do eqGuard .gtr 3 x y (.int .i64 ((j + 1 : Nat) : Int)) (.int .i64 0); binOp .gtr 3 (.int .i64 ((j + 1 : Nat) : Int)) (.int .i64 0) : Sem Value).run Tryz.prog u = .ok (.bool true) u := by
  have h : (0 : Int) < ((j + 1 : Nat) : Int) := by omega
  generalize ((j + 1 : Nat) : Int) = z at *
  go_simp
set_option maxRecDepth 100000 in
theorem subj {x y : Operand} (j : Nat) (u : World) (hj : j < 1099511627776) : (do eqGuard .sub 3 x y (.int .i64 ((j + 1 : Nat) : Int)) (.int .i64 1); binOp .sub 3 (.int .i64 ((j + 1 : Nat) : Int)) (.int .i64 1) : Sem Value).run Tryz.prog u = .ok (.int .i64 (j : Nat)) u := by
  have h : IntKind.i64.wrap (((j + 1 : Nat) : Int) - 1) = (j : Int) := by
    rw [IntKind.wrap_i64]
    omega
  generalize ((j + 1 : Nat) : Int) = z at *
  go_simp
set_option maxRecDepth 100000 in
theorem idx23 (b o n c i : Nat) (h : i < n) (u : World) : (Instr.indexAt 57 (.slice (some ⟨b, o, none⟩) n c) (.int .i64 (i : Nat))).run Tryz.prog u = .ok (.pointer (some ⟨b, o + i * 19, none⟩)) u := by
  have h0 : ¬ ((i : Int) < 0) := by omega
  have h1 : (i : Int) < (n : Int) := by omega
  have hs : (sizeOf (Tryz.prog.elem 57)).run Tryz.prog u = .ok 19 u := by kernel_rfl
  go_simp
set_option maxRecDepth 100000 in
set_option maxHeartbeats 6400000 in
theorem check_any (w : World) (v : Value) (F : Nat → Prop) (l : List Ky) (hv : RdK w F v l) (hl : l.length ≤ 1099511627776) :
    Calls Tryz.prog 17 #[v] w fun e w' => e = .returned (.int .i64 (if chk l = true then 0 else 140)) ∧ w.grownBy w' none := by
  obtain ⟨ho, a, b, off, c, rfl, hc, Ha, Hc⟩ := hv.open
  obtain ⟨n, HN⟩ : ∃ n, Hid (l.length = n) := ⟨_, hid rfl⟩
  obtain ⟨R, HR⟩ : ∃ R, Hid (chk l = R) := ⟨_, hid rfl⟩
  have HR0 : Hid (R = chkR l 0) := hid (by rw [← HR.out]; rfl)
  have HO := hid ho
  have HLn : Hid (n ≤ 1099511627776) := hid (by rw [← HN.out]; exact hl)
  have HA : Hid (0 < n → a = some ⟨b, off, none⟩) := hid (fun h => (Ha.out (by rw [HN.out]; exact h)).1)
  obtain ⟨EE, HEE⟩ : ∃ x, Hid ((if R = true then 0 else 140 : Int) = x) := ⟨_, hid rfl⟩
  rw [HR.out, HN.out, HEE.out]
  rw [HN.out] at hl
  clear hv hc ho Ha HR
  go_enter Tryz.func17, Tryz.ntmps17
  go_wp2_with fail
  go_loopw [7] (fun iv wr => ∃ i : Nat, iv = .int .i64 i ∧ i ≤ n ∧ Hid (R = chkR l i) ∧ Hid (w.grownBy wr none)) (fun iv _ => n - (intOf iv).toNat)
  case atStart => exact ⟨0, rfl, Nat.zero_le _, HR0, hid (grefl _ _)⟩
  case round =>
    clear HR0
    obtain ⟨i, rfl, hi, HRg, HG⟩ := hrel
    by_cases hlt : i < n
    · have hil : i < l.length := by rw [HN.out]; exact hlt
      have hlt' : (i : Int) < (n : Int) := by omega
      obtain rfl : a = some ⟨b, off, none⟩ := HA.out (by omega)
      have hko := HO.out _ (List.getElem_mem hil)
      have HRr := hid (Hc.out wr HG.out i hil).1
      have HPr0 : Hid (∀ j (h : j < l.length) u, w.grownBy u none → u.rangeAt b (off + j * 19) l[j].cells) := hid (fun j h u hu => (Hc.out u hu j h).1)
      have HKL : Hid (l[i].cells.length = 19) := hid (Ky.cells_length hko.2.1)
      have HK1 : Hid (∀ v ∈ l[i].cells, v.oneCell' = true) := hid (Ky.one _)
      have HK0 : Hid (l[i].cells[0]? = some (.bool l[i].wh)) := hid (Ky.c0 _)
      have HJr : Hid (∀ u, Blk u wr.heap.size l[i].cells 85 → u.rangeAt wr.heap.size 2 (Lib.byteCells l[i].id)) := hid (fun u h => h.idr)
      have HJL : Hid ((Lib.byteCells l[i].id).length = 16) := hid (by rw [byteCells_length]; exact hko.2.1)
      have HBz : Hid (Tryz.prog.built 69 [] = some (Lib.byteCells z16).toArray) := hid (by kernel_rfl)
      have HNz : Hid (∀ (x y : Operand) (u : World), (do eqGuard .neq 69 x y (.agg (Lib.byteCells l[i].id).toArray) (.agg (Lib.byteCells z16).toArray); binOp .neq 69 (.agg (Lib.byteCells l[i].id).toArray) (.agg (Lib.byteCells z16).toArray) : Sem Value).run Tryz.prog u = .ok (.bool (!(l[i].id == z16))) u) := hid (fun x y u => neq_id _ _ hko.2.1 rfl u)
      have HOk : Hid (okW l[i] = !(l[i].wh && !(l[i].id == z16))) := hid rfl
      have HSt : Hid (chkR l i = (okW l[i] && (if i = 0 then chkR l 1 else (mf (l.getD (i - 1) zky) l[i] && chkR l (i + 1))))) := hid (by
        cases i with
        | zero => rw [if_pos rfl]; exact chkR_step0 l hil
        | succ j =>
          rw [if_neg (by omega), Nat.add_sub_cancel, chkR_step l j hil]
          have : l.getD j zky = l[j] := by rw [List.getD_eq_getElem?_getD, List.getElem?_eq_getElem (by omega)]; rfl
          rw [this])
      have HMf0 : Hid (∀ j (h : j < l.length) u, Calls Tryz.prog 31 #[.agg l[j].cells.toArray, .agg l[i].cells.toArray] u fun e w' => e = .returned (.bool (mf l[j] l[i])) ∧ u.grownBy w' none) := hid (fun j h u => mayFollow_any u _ _ (HO.out _ (List.getElem_mem h)).2.1 hko.2.1)
      have HPL0 : Hid (∀ j (h : j < l.length), l[j].cells.length = 19) := hid (fun j h => Ky.cells_length (HO.out _ (List.getElem_mem h)).2.1)
      obtain ⟨q, hq⟩ : ∃ q, l[i] = q := ⟨_, rfl⟩
      rw [hq] at HRr HKL HK1 HK0 HJr HJL HNz HOk HSt HMf0
      obtain ⟨wh, hwh⟩ : ∃ x, q.wh = x := ⟨_, rfl⟩
      obtain ⟨ez, hez⟩ : ∃ x, (q.id == z16) = x := ⟨_, rfl⟩
      rw [hwh] at HK0 HOk
      rw [hez] at HNz HOk
      rw [HOk.out] at HSt
      obtain ⟨J, HJe⟩ : ∃ x, Hid (Lib.byteCells q.id = x) := ⟨_, hid rfl⟩
      obtain ⟨Z, HZe⟩ : ∃ x, Hid (Lib.byteCells z16 = x) := ⟨_, hid rfl⟩
      obtain ⟨K, HKe⟩ : ∃ x, Hid (q.cells = x) := ⟨_, hid rfl⟩
      rw [HJe.out] at HJr HJL HNz
      rw [HZe.out] at HBz HNz
      rw [HKe.out] at HRr HKL HK1 HK0 HJr HMf0
      clear hko HOk HJe HZe HKe hwh hez Hc HO hq
      cases i with
      | zero =>
        rw [if_pos rfl] at HSt
        clear HPr0 HMf0 HPL0 hil
        cases wh
        case false =>
          as_aux_lemma =>
          have HRt : Hid (R = chkR l 1) := hid (by rw [HRg.out, HSt.out]; first | rfl | (cases ez <;> rfl))
          clear HRg HSt
          go_upto_region 4 with (first
            | ((with_reducible refine wpList_store_all (by with_unfolding_all rfl) 85 _ _ (by with_unfolding_all rfl) _ zky.cells K 85 (by with_unfolding_all rfl) (by with_unfolding_all rfl) HB3.out (by rw [HKL.out]; with_unfolding_all rfl) (by rw [HKL.out]; exact Tryz.size85) HK1.out ?_); intro w4 BB gg ss; have HC4 := hid BB; have HU4 := hid (gtrans HG.out (HG3.out.andThen gg (fun j hj => .inl (by injection hj with hj; omega)))); clear BB gg ss)
            | ((with_reducible refine wpList_alloc_row (by with_unfolding_all rfl) 85 (by with_unfolding_all rfl) zky.cells Tryz.zero85 ?_); intro w3 BB ss gg; have HB3 := hid BB; have HG3 := hid gg; clear BB ss gg)
            | (with_reducible refine wpList_load_part (by with_unfolding_all rfl) 85 _ (by with_unfolding_all rfl) b (off + 0 * 19) K _ (by with_unfolding_all rfl) HRr.out Tryz.underlying85 (by with_unfolding_all rfl) (by rw [HKL.out]; exact Tryz.size85) ?_))
          obtain ⟨p4, hp4⟩ : ∃ x, wr.heap.size = x := ⟨_, rfl⟩
          rw [hp4] at HC4 HJr
          simp only [hp4]
          clear hp4 HB3 HG3
          refine wp_region_listX (by kernel_rfl) [fun v _ => v = (Value.pointer (some ⟨p4, 0, none⟩)), fun v _ => v = (Value.bool false), fun v _ => v = (Value.bool false), fun v _ => v = undef, fun v _ => v = undef, fun v _ => v = undef, fun v _ => v = undef, fun v _ => v = (Value.bool false), fun v _ => v = (Value.bool false), fun v _ => v = (Value.int .i64 (0 : Nat)), fun v _ => v = (Value.bool false), fun v _ => v = (Value.bool false), fun v _ => v = undef, fun v _ => v = undef, fun v _ => v = undef, fun v _ => v = undef, fun v _ => v = undef, fun v _ => v = undef, fun v _ => v = undef, fun v _ => v = undef, fun v _ => v = (Value.bool false), fun v _ => v = (Value.bool false)] (none) (fun _ => none) 22 (by kernel_rfl) (by kernel_rfl) (by kernel_rfl) (by kernel_rfl) (by decide) noRow_one (fun _ => .inl rfl) ⟨fun i v u u' hki h hg => h, fun i v u u' hki h hg => h, fun i v u u' hki h hg => h, fun i v u u' hki h hg => h, fun i v u u' hki h hg => h, fun i v u u' hki h hg => h, fun i v u u' hki h hg => h, fun i v u u' hki h hg => h, fun i v u u' hki h hg => h, fun i v u u' hki h hg => h, fun i v u u' hki h hg => h, fun i v u u' hki h hg => h, fun i v u u' hki h hg => h, fun i v u u' hki h hg => h, fun i v u u' hki h hg => h, fun i v u u' hki h hg => h, fun i v u u' hki h hg => h, fun i v u u' hki h hg => h, fun i v u u' hki h hg => h, fun i v u u' hki h hg => h, fun i v u u' hki h hg => h, fun i v u u' hki h hg => h, trivial⟩ ⟨?_, ?_, ?_, ?_, ?_, ?_, ?_, ?_, ?_, ?_, ?_, ?_, ?_, ?_, ?_, ?_, ?_, ?_, ?_, ?_, ?_, ?_, trivial⟩ ?_
          · intro A u hu hpu hsz hout hdeps
            have e4 : A.eval (.tmp 4) = (.pointer (some ⟨p4, 0, none⟩)) := (hout 4 (by kernel_rfl)).trans rfl
            refine ifw_none rfl ?_
            with_reducible refine shown_q (Value.pointer (some ⟨p4, 0, none⟩)) ?qq_1ka0_0 (fun _ _ => ?qr_1ka0_0)
            case qr_1ka0_0 => exact (rfl : (Value.pointer (some ⟨p4, 0, none⟩)) = (Value.pointer (some ⟨p4, 0, none⟩)))
            with_reducible refine quietAt_field 85 (.tmp 4) 0 ?h0_1ka0_0 ⟨p4, 0, none⟩ ⟨p4, 0, none⟩ ?h1_1ka0_0 ?h2_1ka0_0
            case h0_1ka0_0 => rfl
            case h1_1ka0_0 => exact e4
            case h2_1ka0_0 => kernel_rfl
          · intro A u hu hpu hsz hout hdeps
            have e12 : A.eval (.tmp 12) = (.pointer (some ⟨p4, 0, none⟩)) := by have h := depL hdeps 0 (by kernel_rfl) 12 (by kernel_rfl); exact h
            refine ifw_none rfl ?_
            with_reducible refine shown_q (Value.bool false) ?qq_1ka0_1 (fun _ _ => ?qr_1ka0_1)
            case qr_1ka0_1 => exact (rfl : (Value.bool false) = (Value.bool false))
            with_reducible refine quietAt_ld 4 (.tmp 12) (Value.pointer (some ⟨p4, 0, none⟩)) (Value.bool false) ?h0_1ka0_1 ?h1_1ka0_1 ?h2_1ka0_1
            case h0_1ka0_1 => rfl
            case h1_1ka0_1 => exact e12
            case h2_1ka0_1 => exact ld4 p4 0 false u (HC4.out.keep hu |>.cell0 HK0)
          · intro A u hu hpu hsz hout hdeps
            have e13 : A.eval (.tmp 13) = (.bool false) := by have h := depL hdeps 1 (by kernel_rfl) 13 (by kernel_rfl); exact h
            refine ifw_none rfl ?_
            with_reducible refine shown_q (Value.bool false) ?qq_1ka0_2 (fun _ _ => ?qr_1ka0_2)
            case qr_1ka0_2 => exact (rfl : (Value.bool false) = (Value.bool false))
            with_reducible refine quietAt_mv (.tmp 13) (Value.bool false) ?h0_1ka0_2 ?h1_1ka0_2
            case h0_1ka0_2 => rfl
            case h1_1ka0_2 => exact e13
          · intro A u hu hpu hsz hout hdeps
            have e14 : A.eval (.tmp 14) = (.bool false) := by have h := depL hdeps 2 (by kernel_rfl) 14 (by kernel_rfl); exact h
            refine ifw_pass 2 true false 14 rfl rfl e14 (by decide) ?_
            exact rfl
          · intro A u hu hpu hsz hout hdeps
            have e14 : A.eval (.tmp 14) = (.bool false) := by have h := depL hdeps 2 (by kernel_rfl) 14 (by kernel_rfl); exact h
            refine ifw_pass 2 true false 14 rfl rfl e14 (by decide) ?_
            exact rfl
          · intro A u hu hpu hsz hout hdeps
            have e14 : A.eval (.tmp 14) = (.bool false) := by have h := depL hdeps 2 (by kernel_rfl) 14 (by kernel_rfl); exact h
            refine ifw_pass 2 true false 14 rfl rfl e14 (by decide) ?_
            exact rfl
          · intro A u hu hpu hsz hout hdeps
            have e14 : A.eval (.tmp 14) = (.bool false) := by have h := depL hdeps 2 (by kernel_rfl) 14 (by kernel_rfl); exact h
            refine ifw_pass 2 true false 14 rfl rfl e14 (by decide) ?_
            exact rfl
          · intro A u hu hpu hsz hout hdeps
            have e14 : A.eval (.tmp 14) = (.bool false) := by have h := depL hdeps 2 (by kernel_rfl) 14 (by kernel_rfl); exact h
            refine ifw_none rfl ?_
            with_reducible refine shown_q (Value.bool false) ?qq_1ka0_7 (fun _ _ => ?qr_1ka0_7)
            case qr_1ka0_7 => exact (rfl : (Value.bool false) = (Value.bool false))
            with_reducible refine quietAt_pick (.tmp 14) (.tmp 18) (.const (.bool false)) false (Value.bool false) ?h0_1ka0_7 ?h1_1ka0_7 ?h2_1ka0_7
            case h0_1ka0_7 => rfl
            case h1_1ka0_7 => exact e14
            case h2_1ka0_7 => rw [if_neg (by decide)]; exact rfl
          · intro A u hu hpu hsz hout hdeps
            have e19 : A.eval (.tmp 19) = (.bool false) := by have h := depL hdeps 7 (by kernel_rfl) 19 (by kernel_rfl); exact h
            refine ifw_none rfl ?_
            with_reducible refine shown_q (Value.bool false) ?qq_1ka0_8 (fun _ _ => ?qr_1ka0_8)
            case qr_1ka0_8 => exact (rfl : (Value.bool false) = (Value.bool false))
            with_reducible refine quietAt_mv (.tmp 19) (Value.bool false) ?h0_1ka0_8 ?h1_1ka0_8
            case h0_1ka0_8 => rfl
            case h1_1ka0_8 => exact e19
          · intro A u hu hpu hsz hout hdeps
            have e20 : A.eval (.tmp 20) = (.bool false) := by have h := depL hdeps 8 (by kernel_rfl) 20 (by kernel_rfl); exact h
            have e3 : A.eval (.tmp 3) = (.int .i64 (0 : Nat)) := (hout 3 (by kernel_rfl)).trans rfl
            refine ifw_want 8 false 20 rfl rfl e20 ?_
            with_reducible refine shown_q (Value.int .i64 (0 : Nat)) ?qq_1ka0_9 (fun _ _ => ?qr_1ka0_9)
            case qr_1ka0_9 => exact (rfl : (Value.int .i64 (0 : Nat)) = (Value.int .i64 (0 : Nat)))
            with_reducible refine quietAt_mv (.tmp 3) (Value.int .i64 (0 : Nat)) ?h0_1ka0_9 ?h1_1ka0_9
            case h0_1ka0_9 => rfl
            case h1_1ka0_9 => exact e3
          · intro A u hu hpu hsz hout hdeps
            have e20 : A.eval (.tmp 20) = (.bool false) := by have h := depL hdeps 8 (by kernel_rfl) 20 (by kernel_rfl); exact h
            have e21 : A.eval (.tmp 21) = (.int .i64 (0 : Nat)) := by have h := depL hdeps 9 (by kernel_rfl) 21 (by kernel_rfl); exact h
            refine ifw_want 8 false 20 rfl rfl e20 ?_
            with_reducible refine shown_q (Value.bool false) ?qq_1ka0_10 (fun _ _ => ?qr_1ka0_10)
            case qr_1ka0_10 => exact (rfl : (Value.bool false) = (Value.bool false))
            with_reducible refine quietAt_bin .gtr 3 (.tmp 21) (.const (.int .i64 0)) 3 (Value.int .i64 (0 : Nat)) (Value.int .i64 0) (Value.bool false) ?h0_1ka0_10 ?h1_1ka0_10 ?h2_1ka0_10 ?h3_1ka0_10
            case h0_1ka0_10 => rfl
            case h1_1ka0_10 => exact e21
            case h2_1ka0_10 => exact rfl
            case h3_1ka0_10 => exact (gt0 u)
          · intro A u hu hpu hsz hout hdeps
            have e20 : A.eval (.tmp 20) = (.bool false) := by have h := depL hdeps 8 (by kernel_rfl) 20 (by kernel_rfl); exact h
            have e22 : A.eval (.tmp 22) = (.bool false) := by have h := depL hdeps 10 (by kernel_rfl) 22 (by kernel_rfl); exact h
            refine ifw_want 8 false 20 rfl rfl e20 ?_
            with_reducible refine shown_q (Value.bool false) ?qq_1ka0_11 (fun _ _ => ?qr_1ka0_11)
            case qr_1ka0_11 => exact (rfl : (Value.bool false) = (Value.bool false))
            with_reducible refine quietAt_mv (.tmp 22) (Value.bool false) ?h0_1ka0_11 ?h1_1ka0_11
            case h0_1ka0_11 => rfl
            case h1_1ka0_11 => exact e22
          · intro A u hu hpu hsz hout hdeps
            have e23 : A.eval (.tmp 23) = (.bool false) := by have h := depL hdeps 11 (by kernel_rfl) 23 (by kernel_rfl); exact h
            refine ifw_pass 11 true false 23 rfl rfl e23 (by decide) ?_
            exact rfl
          · intro A u hu hpu hsz hout hdeps
            have e23 : A.eval (.tmp 23) = (.bool false) := by have h := depL hdeps 11 (by kernel_rfl) 23 (by kernel_rfl); exact h
            refine ifw_pass 11 true false 23 rfl rfl e23 (by decide) ?_
            exact rfl
          · intro A u hu hpu hsz hout hdeps
            have e23 : A.eval (.tmp 23) = (.bool false) := by have h := depL hdeps 11 (by kernel_rfl) 23 (by kernel_rfl); exact h
            refine ifw_pass 11 true false 23 rfl rfl e23 (by decide) ?_
            exact rfl
          · intro A u hu hpu hsz hout hdeps
            have e23 : A.eval (.tmp 23) = (.bool false) := by have h := depL hdeps 11 (by kernel_rfl) 23 (by kernel_rfl); exact h
            refine ifw_pass 11 true false 23 rfl rfl e23 (by decide) ?_
            exact rfl
          · intro A u hu hpu hsz hout hdeps
            have e23 : A.eval (.tmp 23) = (.bool false) := by have h := depL hdeps 11 (by kernel_rfl) 23 (by kernel_rfl); exact h
            refine ifw_pass 11 true false 23 rfl rfl e23 (by decide) ?_
            exact rfl
          · intro A u hu hpu hsz hout hdeps
            have e23 : A.eval (.tmp 23) = (.bool false) := by have h := depL hdeps 11 (by kernel_rfl) 23 (by kernel_rfl); exact h
            refine ifw_pass 11 true false 23 rfl rfl e23 (by decide) ?_
            exact rfl
          · intro A u hu hpu hsz hout hdeps
            have e23 : A.eval (.tmp 23) = (.bool false) := by have h := depL hdeps 11 (by kernel_rfl) 23 (by kernel_rfl); exact h
            refine ifw_pass 11 true false 23 rfl rfl e23 (by decide) ?_
            exact rfl
          · intro A u hu hpu hsz hout hdeps
            have e23 : A.eval (.tmp 23) = (.bool false) := by have h := depL hdeps 11 (by kernel_rfl) 23 (by kernel_rfl); exact h
            refine ifw_pass 11 true false 23 rfl rfl e23 (by decide) ?_
            exact rfl
          · intro A u hu hpu hsz hout hdeps
            have e20 : A.eval (.tmp 20) = (.bool false) := by have h := depL hdeps 8 (by kernel_rfl) 20 (by kernel_rfl); exact h
            have e23 : A.eval (.tmp 23) = (.bool false) := by have h := depL hdeps 11 (by kernel_rfl) 23 (by kernel_rfl); exact h
            refine ifw_want 8 false 20 rfl rfl e20 ?_
            with_reducible refine shown_q (Value.bool false) ?qq_1ka0_20 (fun _ _ => ?qr_1ka0_20)
            case qr_1ka0_20 => exact (rfl : (Value.bool false) = (Value.bool false))
            with_reducible refine quietAt_pick (.tmp 23) (.tmp 31) (.const (.bool false)) false (Value.bool false) ?h0_1ka0_20 ?h1_1ka0_20 ?h2_1ka0_20
            case h0_1ka0_20 => rfl
            case h1_1ka0_20 => exact e23
            case h2_1ka0_20 => rw [if_neg (by decide)]; exact rfl
          · intro A u hu hpu hsz hout hdeps
            have e20 : A.eval (.tmp 20) = (.bool false) := by have h := depL hdeps 8 (by kernel_rfl) 20 (by kernel_rfl); exact h
            have e32 : A.eval (.tmp 32) = (.bool false) := by have h := depL hdeps 20 (by kernel_rfl) 32 (by kernel_rfl); exact h
            refine ifw_none rfl ?_
            with_reducible refine shown_q (Value.bool false) ?qq_1ka0_21 (fun _ _ => ?qr_1ka0_21)
            case qr_1ka0_21 => exact (rfl : (Value.bool false) = (Value.bool false))
            with_reducible refine quietAt_pick (.tmp 20) (.const (.bool true)) (.tmp 32) false (Value.bool false) ?h0_1ka0_21 ?h1_1ka0_21 ?h2_1ka0_21
            case h0_1ka0_21 => rfl
            case h1_1ka0_21 => exact e20
            case h2_1ka0_21 => rw [if_neg (by decide)]; exact e32
          · intro A u8 listed hh hall
            have hA := hh.frame
            have HU := hid hh.grown
            obtain ⟨x12, hx12⟩ : ∃ x, A.eval (.tmp 12) = x := ⟨_, rfl⟩
            have f12 : (fun v _ => v = (Value.pointer (some ⟨p4, 0, none⟩))) x12 u8 := by rw [← hx12]; exact hh.got 0 _ 12 rfl rfl (hall 0 (by decide))
            obtain ⟨x13, hx13⟩ : ∃ x, A.eval (.tmp 13) = x := ⟨_, rfl⟩
            have f13 : (fun v _ => v = (Value.bool false)) x13 u8 := by rw [← hx13]; exact hh.got 1 _ 13 rfl rfl (hall 1 (by decide))
            obtain ⟨x14, hx14⟩ : ∃ x, A.eval (.tmp 14) = x := ⟨_, rfl⟩
            have f14 : (fun v _ => v = (Value.bool false)) x14 u8 := by rw [← hx14]; exact hh.got 2 _ 14 rfl rfl (hall 2 (by decide))
            obtain ⟨x15, hx15⟩ : ∃ x, A.eval (.tmp 15) = x := ⟨_, rfl⟩
            have f15 : (fun v _ => v = undef) x15 u8 := by rw [← hx15]; exact hh.got 3 _ 15 rfl rfl (hall 3 (by decide))
            obtain ⟨x16, hx16⟩ : ∃ x, A.eval (.tmp 16) = x := ⟨_, rfl⟩
            have f16 : (fun v _ => v = undef) x16 u8 := by rw [← hx16]; exact hh.got 4 _ 16 rfl rfl (hall 4 (by decide))
            obtain ⟨x17, hx17⟩ : ∃ x, A.eval (.tmp 17) = x := ⟨_, rfl⟩
            have f17 : (fun v _ => v = undef) x17 u8 := by rw [← hx17]; exact hh.got 5 _ 17 rfl rfl (hall 5 (by decide))
            obtain ⟨x18, hx18⟩ : ∃ x, A.eval (.tmp 18) = x := ⟨_, rfl⟩
            have f18 : (fun v _ => v = undef) x18 u8 := by rw [← hx18]; exact hh.got 6 _ 18 rfl rfl (hall 6 (by decide))
            obtain ⟨x19, hx19⟩ : ∃ x, A.eval (.tmp 19) = x := ⟨_, rfl⟩
            have f19 : (fun v _ => v = (Value.bool false)) x19 u8 := by rw [← hx19]; exact hh.got 7 _ 19 rfl rfl (hall 7 (by decide))
            obtain ⟨x20, hx20⟩ : ∃ x, A.eval (.tmp 20) = x := ⟨_, rfl⟩
            have f20 : (fun v _ => v = (Value.bool false)) x20 u8 := by rw [← hx20]; exact hh.got 8 _ 20 rfl rfl (hall 8 (by decide))
            obtain ⟨x21, hx21⟩ : ∃ x, A.eval (.tmp 21) = x := ⟨_, rfl⟩
            have f21 : (fun v _ => v = (Value.int .i64 (0 : Nat))) x21 u8 := by rw [← hx21]; exact hh.got 9 _ 21 rfl rfl (hall 9 (by decide))
            obtain ⟨x22, hx22⟩ : ∃ x, A.eval (.tmp 22) = x := ⟨_, rfl⟩
            have f22 : (fun v _ => v = (Value.bool false)) x22 u8 := by rw [← hx22]; exact hh.got 10 _ 22 rfl rfl (hall 10 (by decide))
            obtain ⟨x23, hx23⟩ : ∃ x, A.eval (.tmp 23) = x := ⟨_, rfl⟩
            have f23 : (fun v _ => v = (Value.bool false)) x23 u8 := by rw [← hx23]; exact hh.got 11 _ 23 rfl rfl (hall 11 (by decide))
            obtain ⟨x24, hx24⟩ : ∃ x, A.eval (.tmp 24) = x := ⟨_, rfl⟩
            have f24 : (fun v _ => v = undef) x24 u8 := by rw [← hx24]; exact hh.got 12 _ 24 rfl rfl (hall 12 (by decide))
            obtain ⟨x25, hx25⟩ : ∃ x, A.eval (.tmp 25) = x := ⟨_, rfl⟩
            have f25 : (fun v _ => v = undef) x25 u8 := by rw [← hx25]; exact hh.got 13 _ 25 rfl rfl (hall 13 (by decide))
            obtain ⟨x26, hx26⟩ : ∃ x, A.eval (.tmp 26) = x := ⟨_, rfl⟩
            have f26 : (fun v _ => v = undef) x26 u8 := by rw [← hx26]; exact hh.got 14 _ 26 rfl rfl (hall 14 (by decide))
            obtain ⟨x27, hx27⟩ : ∃ x, A.eval (.tmp 27) = x := ⟨_, rfl⟩
            have f27 : (fun v _ => v = undef) x27 u8 := by rw [← hx27]; exact hh.got 15 _ 27 rfl rfl (hall 15 (by decide))
            obtain ⟨x28, hx28⟩ : ∃ x, A.eval (.tmp 28) = x := ⟨_, rfl⟩
            have f28 : (fun v _ => v = undef) x28 u8 := by rw [← hx28]; exact hh.got 16 _ 28 rfl rfl (hall 16 (by decide))
            obtain ⟨x29, hx29⟩ : ∃ x, A.eval (.tmp 29) = x := ⟨_, rfl⟩
            have f29 : (fun v _ => v = undef) x29 u8 := by rw [← hx29]; exact hh.got 17 _ 29 rfl rfl (hall 17 (by decide))
            obtain ⟨x30, hx30⟩ : ∃ x, A.eval (.tmp 30) = x := ⟨_, rfl⟩
            have f30 : (fun v _ => v = undef) x30 u8 := by rw [← hx30]; exact hh.got 18 _ 30 rfl rfl (hall 18 (by decide))
            obtain ⟨x31, hx31⟩ : ∃ x, A.eval (.tmp 31) = x := ⟨_, rfl⟩
            have f31 : (fun v _ => v = undef) x31 u8 := by rw [← hx31]; exact hh.got 19 _ 31 rfl rfl (hall 19 (by decide))
            obtain ⟨x32, hx32⟩ : ∃ x, A.eval (.tmp 32) = x := ⟨_, rfl⟩
            have f32 : (fun v _ => v = (Value.bool false)) x32 u8 := by rw [← hx32]; exact hh.got 20 _ 32 rfl rfl (hall 20 (by decide))
            obtain ⟨x33, hx33⟩ : ∃ x, A.eval (.tmp 33) = x := ⟨_, rfl⟩
            have f33 : (fun v _ => v = (Value.bool false)) x33 u8 := by rw [← hx33]; exact hh.got 21 _ 33 rfl rfl (hall 21 (by decide))
            dsimp only [wrote, List.foldl] at hA
            rw [hx12, hx13, hx14, hx15, hx16, hx17, hx18, hx19, hx20, hx21, hx22, hx23, hx24, hx25, hx26, hx27, hx28, hx29, hx30, hx31, hx32, hx33] at hA
            clear hh hall hx12 hx13 hx14 hx15 hx16 hx17 hx18 hx19 hx20 hx21 hx22 hx23 hx24 hx25 hx26 hx27 hx28 hx29 hx30 hx31 hx32 hx33
            replace f12 := (f12 : x12 = (.pointer (some ⟨p4, 0, none⟩)))
            subst f12
            replace f13 := (f13 : x13 = (.bool false))
            subst f13
            replace f14 := (f14 : x14 = (.bool false))
            subst f14
            replace f15 := (f15 : x15 = undef)
            subst f15
            replace f16 := (f16 : x16 = undef)
            subst f16
            replace f17 := (f17 : x17 = undef)
            subst f17
            replace f18 := (f18 : x18 = undef)
            subst f18
            replace f19 := (f19 : x19 = (.bool false))
            subst f19
            replace f20 := (f20 : x20 = (.bool false))
            subst f20
            replace f21 := (f21 : x21 = (.int .i64 (0 : Nat)))
            subst f21
            replace f22 := (f22 : x22 = (.bool false))
            subst f22
            replace f23 := (f23 : x23 = (.bool false))
            subst f23
            replace f24 := (f24 : x24 = undef)
            subst f24
            replace f25 := (f25 : x25 = undef)
            subst f25
            replace f26 := (f26 : x26 = undef)
            subst f26
            replace f27 := (f27 : x27 = undef)
            subst f27
            replace f28 := (f28 : x28 = undef)
            subst f28
            replace f29 := (f29 : x29 = undef)
            subst f29
            replace f30 := (f30 : x30 = undef)
            subst f30
            replace f31 := (f31 : x31 = undef)
            subst f31
            replace f32 := (f32 : x32 = (.bool false))
            subst f32
            replace f33 := (f33 : x33 = (.bool false))
            subst f33
            subst hA
            show wpList _ _ _ [] _ _
            unfold wpList
            simp only [Act.put, List.setIfInBounds_toArray, List.set_cons_succ, List.set_cons_zero]
            have HUz := hid (gtrans HU4.out HU.out)
            go_wp2_with fail
            go_roundw
            case rel => exact ⟨1, by go_num, by omega, HRt, HUz⟩
            case measure => simp [intOf]; omega
        case true =>
          cases ez with
          | true =>
            as_aux_lemma =>
            have HRt : Hid (R = chkR l 1) := hid (by rw [HRg.out, HSt.out]; first | rfl | (cases ez <;> rfl))
            clear HRg HSt
            go_upto_region 4 with (first
              | ((with_reducible refine wpList_store_all (by with_unfolding_all rfl) 85 _ _ (by with_unfolding_all rfl) _ zky.cells K 85 (by with_unfolding_all rfl) (by with_unfolding_all rfl) HB3.out (by rw [HKL.out]; with_unfolding_all rfl) (by rw [HKL.out]; exact Tryz.size85) HK1.out ?_); intro w4 BB gg ss; have HC4 := hid BB; have HU4 := hid (gtrans HG.out (HG3.out.andThen gg (fun j hj => .inl (by injection hj with hj; omega)))); clear BB gg ss)
              | ((with_reducible refine wpList_alloc_row (by with_unfolding_all rfl) 85 (by with_unfolding_all rfl) zky.cells Tryz.zero85 ?_); intro w3 BB ss gg; have HB3 := hid BB; have HG3 := hid gg; clear BB ss gg)
              | (with_reducible refine wpList_load_part (by with_unfolding_all rfl) 85 _ (by with_unfolding_all rfl) b (off + 0 * 19) K _ (by with_unfolding_all rfl) HRr.out Tryz.underlying85 (by with_unfolding_all rfl) (by rw [HKL.out]; exact Tryz.size85) ?_))
            obtain ⟨p4, hp4⟩ : ∃ x, wr.heap.size = x := ⟨_, rfl⟩
            rw [hp4] at HC4 HJr
            simp only [hp4]
            clear hp4 HB3 HG3
            refine wp_region_listX (by kernel_rfl) [fun v _ => v = (Value.pointer (some ⟨p4, 0, none⟩)), fun v _ => v = (Value.bool true), fun v _ => v = (Value.bool true), fun v _ => v = (Value.pointer (some ⟨p4, 2, none⟩)), fun v _ => v = (Value.agg J.toArray), fun v _ => v = (Value.agg Z.toArray), fun v _ => v = (Value.bool false), fun v _ => v = (Value.bool false), fun v _ => v = (Value.bool false), fun v _ => v = (Value.int .i64 (0 : Nat)), fun v _ => v = (Value.bool false), fun v _ => v = (Value.bool false), fun v _ => v = undef, fun v _ => v = undef, fun v _ => v = undef, fun v _ => v = undef, fun v _ => v = undef, fun v _ => v = undef, fun v _ => v = undef, fun v _ => v = undef, fun v _ => v = (Value.bool false), fun v _ => v = (Value.bool false)] (none) (fun _ => none) 22 (by kernel_rfl) (by kernel_rfl) (by kernel_rfl) (by kernel_rfl) (by decide) noRow_one (fun _ => .inl rfl) ⟨fun i v u u' hki h hg => h, fun i v u u' hki h hg => h, fun i v u u' hki h hg => h, fun i v u u' hki h hg => h, fun i v u u' hki h hg => h, fun i v u u' hki h hg => h, fun i v u u' hki h hg => h, fun i v u u' hki h hg => h, fun i v u u' hki h hg => h, fun i v u u' hki h hg => h, fun i v u u' hki h hg => h, fun i v u u' hki h hg => h, fun i v u u' hki h hg => h, fun i v u u' hki h hg => h, fun i v u u' hki h hg => h, fun i v u u' hki h hg => h, fun i v u u' hki h hg => h, fun i v u u' hki h hg => h, fun i v u u' hki h hg => h, fun i v u u' hki h hg => h, fun i v u u' hki h hg => h, fun i v u u' hki h hg => h, trivial⟩ ⟨?_, ?_, ?_, ?_, ?_, ?_, ?_, ?_, ?_, ?_, ?_, ?_, ?_, ?_, ?_, ?_, ?_, ?_, ?_, ?_, ?_, ?_, trivial⟩ ?_
            · intro A u hu hpu hsz hout hdeps
              have e4 : A.eval (.tmp 4) = (.pointer (some ⟨p4, 0, none⟩)) := (hout 4 (by kernel_rfl)).trans rfl
              refine ifw_none rfl ?_
              with_reducible refine shown_q (Value.pointer (some ⟨p4, 0, none⟩)) ?qq_2ka1_0 (fun _ _ => ?qr_2ka1_0)
              case qr_2ka1_0 => exact (rfl : (Value.pointer (some ⟨p4, 0, none⟩)) = (Value.pointer (some ⟨p4, 0, none⟩)))
              with_reducible refine quietAt_field 85 (.tmp 4) 0 ?h0_2ka1_0 ⟨p4, 0, none⟩ ⟨p4, 0, none⟩ ?h1_2ka1_0 ?h2_2ka1_0
              case h0_2ka1_0 => rfl
              case h1_2ka1_0 => exact e4
              case h2_2ka1_0 => kernel_rfl
            · intro A u hu hpu hsz hout hdeps
              have e12 : A.eval (.tmp 12) = (.pointer (some ⟨p4, 0, none⟩)) := by have h := depL hdeps 0 (by kernel_rfl) 12 (by kernel_rfl); exact h
              refine ifw_none rfl ?_
              with_reducible refine shown_q (Value.bool true) ?qq_2ka1_1 (fun _ _ => ?qr_2ka1_1)
              case qr_2ka1_1 => exact (rfl : (Value.bool true) = (Value.bool true))
              with_reducible refine quietAt_ld 4 (.tmp 12) (Value.pointer (some ⟨p4, 0, none⟩)) (Value.bool true) ?h0_2ka1_1 ?h1_2ka1_1 ?h2_2ka1_1
              case h0_2ka1_1 => rfl
              case h1_2ka1_1 => exact e12
              case h2_2ka1_1 => exact ld4 p4 0 true u (HC4.out.keep hu |>.cell0 HK0)
            · intro A u hu hpu hsz hout hdeps
              have e13 : A.eval (.tmp 13) = (.bool true) := by have h := depL hdeps 1 (by kernel_rfl) 13 (by kernel_rfl); exact h
              refine ifw_none rfl ?_
              with_reducible refine shown_q (Value.bool true) ?qq_2ka1_2 (fun _ _ => ?qr_2ka1_2)
              case qr_2ka1_2 => exact (rfl : (Value.bool true) = (Value.bool true))
              with_reducible refine quietAt_mv (.tmp 13) (Value.bool true) ?h0_2ka1_2 ?h1_2ka1_2
              case h0_2ka1_2 => rfl
              case h1_2ka1_2 => exact e13
            · intro A u hu hpu hsz hout hdeps
              have e14 : A.eval (.tmp 14) = (.bool true) := by have h := depL hdeps 2 (by kernel_rfl) 14 (by kernel_rfl); exact h
              have e4 : A.eval (.tmp 4) = (.pointer (some ⟨p4, 0, none⟩)) := (hout 4 (by kernel_rfl)).trans rfl
              refine ifw_want 2 true 14 rfl rfl e14 ?_
              with_reducible refine shown_q (Value.pointer (some ⟨p4, 2, none⟩)) ?qq_2ka1_3 (fun _ _ => ?qr_2ka1_3)
              case qr_2ka1_3 => exact (rfl : (Value.pointer (some ⟨p4, 2, none⟩)) = (Value.pointer (some ⟨p4, 2, none⟩)))
              with_reducible refine quietAt_field 85 (.tmp 4) 2 ?h0_2ka1_3 ⟨p4, 0, none⟩ ⟨p4, 2, none⟩ ?h1_2ka1_3 ?h2_2ka1_3
              case h0_2ka1_3 => rfl
              case h1_2ka1_3 => exact e4
              case h2_2ka1_3 => kernel_rfl
            · intro A u hu hpu hsz hout hdeps
              have e14 : A.eval (.tmp 14) = (.bool true) := by have h := depL hdeps 2 (by kernel_rfl) 14 (by kernel_rfl); exact h
              have e15 : A.eval (.tmp 15) = (.pointer (some ⟨p4, 2, none⟩)) := by have h := depL hdeps 3 (by kernel_rfl) 15 (by kernel_rfl); exact h
              refine ifw_want 2 true 14 rfl rfl e14 ?_
              with_reducible refine shown_q (Value.agg J.toArray) ?qq_2ka1_4 (fun _ _ => ?qr_2ka1_4)
              case qr_2ka1_4 => exact (rfl : (Value.agg J.toArray) = (Value.agg J.toArray))
              with_reducible refine quietAt_load 69 (.tmp 15) ?h0_2ka1_4 p4 2 J (.array 16 5) ?h1_2ka1_4 ?h2_2ka1_4 ?h3_2ka1_4 ?h4_2ka1_4 ?h5_2ka1_4
              case h0_2ka1_4 => rfl
              case h1_2ka1_4 => exact e15
              case h2_2ka1_4 => exact (HJr.out _ (HC4.out.keep hu))
              case h3_2ka1_4 => exact Tryz.underlying69
              case h4_2ka1_4 => rfl
              case h5_2ka1_4 => exact (by rw [HJL.out]; exact Tryz.size69)
            · intro A u hu hpu hsz hout hdeps
              have e14 : A.eval (.tmp 14) = (.bool true) := by have h := depL hdeps 2 (by kernel_rfl) 14 (by kernel_rfl); exact h
              refine ifw_want 2 true 14 rfl rfl e14 ?_
              with_reducible refine shown_q (Value.agg Z.toArray) ?qq_2ka1_5 (fun _ _ => ?qr_2ka1_5)
              case qr_2ka1_5 => exact (rfl : (Value.agg Z.toArray) = (Value.agg Z.toArray))
              with_reducible refine quietAt_build 69 #[] ?h0_2ka1_5 [] ?h1_2ka1_5 Z ?h2_2ka1_5
              case h0_2ka1_5 => rfl
              case h1_2ka1_5 => simp only [List.map_toArray, List.map_nil]
              case h2_2ka1_5 => exact HBz.out
            · intro A u hu hpu hsz hout hdeps
              have e14 : A.eval (.tmp 14) = (.bool true) := by have h := depL hdeps 2 (by kernel_rfl) 14 (by kernel_rfl); exact h
              have e16 : A.eval (.tmp 16) = (.agg J.toArray) := by have h := depL hdeps 4 (by kernel_rfl) 16 (by kernel_rfl); exact h
              have e17 : A.eval (.tmp 17) = (.agg Z.toArray) := by have h := depL hdeps 5 (by kernel_rfl) 17 (by kernel_rfl); exact h
              refine ifw_want 2 true 14 rfl rfl e14 ?_
              with_reducible refine shown_q (Value.bool false) ?qq_2ka1_6 (fun _ _ => ?qr_2ka1_6)
              case qr_2ka1_6 => exact (rfl : (Value.bool false) = (Value.bool false))
              with_reducible refine quietAt_bin .neq 69 (.tmp 16) (.tmp 17) 69 (Value.agg J.toArray) (Value.agg Z.toArray) (Value.bool false) ?h0_2ka1_6 ?h1_2ka1_6 ?h2_2ka1_6 ?h3_2ka1_6
              case h0_2ka1_6 => rfl
              case h1_2ka1_6 => exact e16
              case h2_2ka1_6 => exact e17
              case h3_2ka1_6 => exact HNz.out _ _ u
            · intro A u hu hpu hsz hout hdeps
              have e14 : A.eval (.tmp 14) = (.bool true) := by have h := depL hdeps 2 (by kernel_rfl) 14 (by kernel_rfl); exact h
              have e18 : A.eval (.tmp 18) = (.bool false) := by have h := depL hdeps 6 (by kernel_rfl) 18 (by kernel_rfl); exact h
              refine ifw_none rfl ?_
              with_reducible refine shown_q (Value.bool false) ?qq_2ka1_7 (fun _ _ => ?qr_2ka1_7)
              case qr_2ka1_7 => exact (rfl : (Value.bool false) = (Value.bool false))
              with_reducible refine quietAt_pick (.tmp 14) (.tmp 18) (.const (.bool false)) true (Value.bool false) ?h0_2ka1_7 ?h1_2ka1_7 ?h2_2ka1_7
              case h0_2ka1_7 => rfl
              case h1_2ka1_7 => exact e14
              case h2_2ka1_7 => rw [if_pos rfl]; exact e18
            · intro A u hu hpu hsz hout hdeps
              have e19 : A.eval (.tmp 19) = (.bool false) := by have h := depL hdeps 7 (by kernel_rfl) 19 (by kernel_rfl); exact h
              refine ifw_none rfl ?_
              with_reducible refine shown_q (Value.bool false) ?qq_2ka1_8 (fun _ _ => ?qr_2ka1_8)
              case qr_2ka1_8 => exact (rfl : (Value.bool false) = (Value.bool false))
              with_reducible refine quietAt_mv (.tmp 19) (Value.bool false) ?h0_2ka1_8 ?h1_2ka1_8
              case h0_2ka1_8 => rfl
              case h1_2ka1_8 => exact e19
            · intro A u hu hpu hsz hout hdeps
              have e20 : A.eval (.tmp 20) = (.bool false) := by have h := depL hdeps 8 (by kernel_rfl) 20 (by kernel_rfl); exact h
              have e3 : A.eval (.tmp 3) = (.int .i64 (0 : Nat)) := (hout 3 (by kernel_rfl)).trans rfl
              refine ifw_want 8 false 20 rfl rfl e20 ?_
              with_reducible refine shown_q (Value.int .i64 (0 : Nat)) ?qq_2ka1_9 (fun _ _ => ?qr_2ka1_9)
              case qr_2ka1_9 => exact (rfl : (Value.int .i64 (0 : Nat)) = (Value.int .i64 (0 : Nat)))
              with_reducible refine quietAt_mv (.tmp 3) (Value.int .i64 (0 : Nat)) ?h0_2ka1_9 ?h1_2ka1_9
              case h0_2ka1_9 => rfl
              case h1_2ka1_9 => exact e3
            · intro A u hu hpu hsz hout hdeps
              have e20 : A.eval (.tmp 20) = (.bool false) := by have h := depL hdeps 8 (by kernel_rfl) 20 (by kernel_rfl); exact h
              have e21 : A.eval (.tmp 21) = (.int .i64 (0 : Nat)) := by have h := depL hdeps 9 (by kernel_rfl) 21 (by kernel_rfl); exact h
              refine ifw_want 8 false 20 rfl rfl e20 ?_
              with_reducible refine shown_q (Value.bool false) ?qq_2ka1_10 (fun _ _ => ?qr_2ka1_10)
              case qr_2ka1_10 => exact (rfl : (Value.bool false) = (Value.bool false))
              with_reducible refine quietAt_bin .gtr 3 (.tmp 21) (.const (.int .i64 0)) 3 (Value.int .i64 (0 : Nat)) (Value.int .i64 0) (Value.bool false) ?h0_2ka1_10 ?h1_2ka1_10 ?h2_2ka1_10 ?h3_2ka1_10
              case h0_2ka1_10 => rfl
              case h1_2ka1_10 => exact e21
              case h2_2ka1_10 => exact rfl
              case h3_2ka1_10 => exact (gt0 u)
            · intro A u hu hpu hsz hout hdeps
              have e20 : A.eval (.tmp 20) = (.bool false) := by have h := depL hdeps 8 (by kernel_rfl) 20 (by kernel_rfl); exact h
              have e22 : A.eval (.tmp 22) = (.bool false) := by have h := depL hdeps 10 (by kernel_rfl) 22 (by kernel_rfl); exact h
              refine ifw_want 8 false 20 rfl rfl e20 ?_
              with_reducible refine shown_q (Value.bool false) ?qq_2ka1_11 (fun _ _ => ?qr_2ka1_11)
              case qr_2ka1_11 => exact (rfl : (Value.bool false) = (Value.bool false))
              with_reducible refine quietAt_mv (.tmp 22) (Value.bool false) ?h0_2ka1_11 ?h1_2ka1_11
              case h0_2ka1_11 => rfl
              case h1_2ka1_11 => exact e22
            · intro A u hu hpu hsz hout hdeps
              have e23 : A.eval (.tmp 23) = (.bool false) := by have h := depL hdeps 11 (by kernel_rfl) 23 (by kernel_rfl); exact h
              refine ifw_pass 11 true false 23 rfl rfl e23 (by decide) ?_
              exact rfl
            · intro A u hu hpu hsz hout hdeps
              have e23 : A.eval (.tmp 23) = (.bool false) := by have h := depL hdeps 11 (by kernel_rfl) 23 (by kernel_rfl); exact h
              refine ifw_pass 11 true false 23 rfl rfl e23 (by decide) ?_
              exact rfl
            · intro A u hu hpu hsz hout hdeps
              have e23 : A.eval (.tmp 23) = (.bool false) := by have h := depL hdeps 11 (by kernel_rfl) 23 (by kernel_rfl); exact h
              refine ifw_pass 11 true false 23 rfl rfl e23 (by decide) ?_
              exact rfl
            · intro A u hu hpu hsz hout hdeps
              have e23 : A.eval (.tmp 23) = (.bool false) := by have h := depL hdeps 11 (by kernel_rfl) 23 (by kernel_rfl); exact h
              refine ifw_pass 11 true false 23 rfl rfl e23 (by decide) ?_
              exact rfl
            · intro A u hu hpu hsz hout hdeps
              have e23 : A.eval (.tmp 23) = (.bool false) := by have h := depL hdeps 11 (by kernel_rfl) 23 (by kernel_rfl); exact h
              refine ifw_pass 11 true false 23 rfl rfl e23 (by decide) ?_
              exact rfl
            · intro A u hu hpu hsz hout hdeps
              have e23 : A.eval (.tmp 23) = (.bool false) := by have h := depL hdeps 11 (by kernel_rfl) 23 (by kernel_rfl); exact h
              refine ifw_pass 11 true false 23 rfl rfl e23 (by decide) ?_
              exact rfl
            · intro A u hu hpu hsz hout hdeps
              have e23 : A.eval (.tmp 23) = (.bool false) := by have h := depL hdeps 11 (by kernel_rfl) 23 (by kernel_rfl); exact h
              refine ifw_pass 11 true false 23 rfl rfl e23 (by decide) ?_
              exact rfl
            · intro A u hu hpu hsz hout hdeps
              have e23 : A.eval (.tmp 23) = (.bool false) := by have h := depL hdeps 11 (by kernel_rfl) 23 (by kernel_rfl); exact h
              refine ifw_pass 11 true false 23 rfl rfl e23 (by decide) ?_
              exact rfl
            · intro A u hu hpu hsz hout hdeps
              have e20 : A.eval (.tmp 20) = (.bool false) := by have h := depL hdeps 8 (by kernel_rfl) 20 (by kernel_rfl); exact h
              have e23 : A.eval (.tmp 23) = (.bool false) := by have h := depL hdeps 11 (by kernel_rfl) 23 (by kernel_rfl); exact h
              refine ifw_want 8 false 20 rfl rfl e20 ?_
              with_reducible refine shown_q (Value.bool false) ?qq_2ka1_20 (fun _ _ => ?qr_2ka1_20)
              case qr_2ka1_20 => exact (rfl : (Value.bool false) = (Value.bool false))
              with_reducible refine quietAt_pick (.tmp 23) (.tmp 31) (.const (.bool false)) false (Value.bool false) ?h0_2ka1_20 ?h1_2ka1_20 ?h2_2ka1_20
              case h0_2ka1_20 => rfl
              case h1_2ka1_20 => exact e23
              case h2_2ka1_20 => rw [if_neg (by decide)]; exact rfl
            · intro A u hu hpu hsz hout hdeps
              have e20 : A.eval (.tmp 20) = (.bool false) := by have h := depL hdeps 8 (by kernel_rfl) 20 (by kernel_rfl); exact h
              have e32 : A.eval (.tmp 32) = (.bool false) := by have h := depL hdeps 20 (by kernel_rfl) 32 (by kernel_rfl); exact h
              refine ifw_none rfl ?_
              with_reducible refine shown_q (Value.bool false) ?qq_2ka1_21 (fun _ _ => ?qr_2ka1_21)
              case qr_2ka1_21 => exact (rfl : (Value.bool false) = (Value.bool false))
              with_reducible refine quietAt_pick (.tmp 20) (.const (.bool true)) (.tmp 32) false (Value.bool false) ?h0_2ka1_21 ?h1_2ka1_21 ?h2_2ka1_21
              case h0_2ka1_21 => rfl
              case h1_2ka1_21 => exact e20
              case h2_2ka1_21 => rw [if_neg (by decide)]; exact e32
            · intro A u8 listed hh hall
              have hA := hh.frame
              have HU := hid hh.grown
              obtain ⟨x12, hx12⟩ : ∃ x, A.eval (.tmp 12) = x := ⟨_, rfl⟩
              have f12 : (fun v _ => v = (Value.pointer (some ⟨p4, 0, none⟩))) x12 u8 := by rw [← hx12]; exact hh.got 0 _ 12 rfl rfl (hall 0 (by decide))
              obtain ⟨x13, hx13⟩ : ∃ x, A.eval (.tmp 13) = x := ⟨_, rfl⟩
              have f13 : (fun v _ => v = (Value.bool true)) x13 u8 := by rw [← hx13]; exact hh.got 1 _ 13 rfl rfl (hall 1 (by decide))
              obtain ⟨x14, hx14⟩ : ∃ x, A.eval (.tmp 14) = x := ⟨_, rfl⟩
              have f14 : (fun v _ => v = (Value.bool true)) x14 u8 := by rw [← hx14]; exact hh.got 2 _ 14 rfl rfl (hall 2 (by decide))
              obtain ⟨x15, hx15⟩ : ∃ x, A.eval (.tmp 15) = x := ⟨_, rfl⟩
              have f15 : (fun v _ => v = (Value.pointer (some ⟨p4, 2, none⟩))) x15 u8 := by rw [← hx15]; exact hh.got 3 _ 15 rfl rfl (hall 3 (by decide))
              obtain ⟨x16, hx16⟩ : ∃ x, A.eval (.tmp 16) = x := ⟨_, rfl⟩
              have f16 : (fun v _ => v = (Value.agg J.toArray)) x16 u8 := by rw [← hx16]; exact hh.got 4 _ 16 rfl rfl (hall 4 (by decide))
              obtain ⟨x17, hx17⟩ : ∃ x, A.eval (.tmp 17) = x := ⟨_, rfl⟩
              have f17 : (fun v _ => v = (Value.agg Z.toArray)) x17 u8 := by rw [← hx17]; exact hh.got 5 _ 17 rfl rfl (hall 5 (by decide))
              obtain ⟨x18, hx18⟩ : ∃ x, A.eval (.tmp 18) = x := ⟨_, rfl⟩
              have f18 : (fun v _ => v = (Value.bool false)) x18 u8 := by rw [← hx18]; exact hh.got 6 _ 18 rfl rfl (hall 6 (by decide))
              obtain ⟨x19, hx19⟩ : ∃ x, A.eval (.tmp 19) = x := ⟨_, rfl⟩
              have f19 : (fun v _ => v = (Value.bool false)) x19 u8 := by rw [← hx19]; exact hh.got 7 _ 19 rfl rfl (hall 7 (by decide))
              obtain ⟨x20, hx20⟩ : ∃ x, A.eval (.tmp 20) = x := ⟨_, rfl⟩
              have f20 : (fun v _ => v = (Value.bool false)) x20 u8 := by rw [← hx20]; exact hh.got 8 _ 20 rfl rfl (hall 8 (by decide))
              obtain ⟨x21, hx21⟩ : ∃ x, A.eval (.tmp 21) = x := ⟨_, rfl⟩
              have f21 : (fun v _ => v = (Value.int .i64 (0 : Nat))) x21 u8 := by rw [← hx21]; exact hh.got 9 _ 21 rfl rfl (hall 9 (by decide))
              obtain ⟨x22, hx22⟩ : ∃ x, A.eval (.tmp 22) = x := ⟨_, rfl⟩
              have f22 : (fun v _ => v = (Value.bool false)) x22 u8 := by rw [← hx22]; exact hh.got 10 _ 22 rfl rfl (hall 10 (by decide))
              obtain ⟨x23, hx23⟩ : ∃ x, A.eval (.tmp 23) = x := ⟨_, rfl⟩
              have f23 : (fun v _ => v = (Value.bool false)) x23 u8 := by rw [← hx23]; exact hh.got 11 _ 23 rfl rfl (hall 11 (by decide))
              obtain ⟨x24, hx24⟩ : ∃ x, A.eval (.tmp 24) = x := ⟨_, rfl⟩
              have f24 : (fun v _ => v = undef) x24 u8 := by rw [← hx24]; exact hh.got 12 _ 24 rfl rfl (hall 12 (by decide))
              obtain ⟨x25, hx25⟩ : ∃ x, A.eval (.tmp 25) = x := ⟨_, rfl⟩
              have f25 : (fun v _ => v = undef) x25 u8 := by rw [← hx25]; exact hh.got 13 _ 25 rfl rfl (hall 13 (by decide))
              obtain ⟨x26, hx26⟩ : ∃ x, A.eval (.tmp 26) = x := ⟨_, rfl⟩
              have f26 : (fun v _ => v = undef) x26 u8 := by rw [← hx26]; exact hh.got 14 _ 26 rfl rfl (hall 14 (by decide))
              obtain ⟨x27, hx27⟩ : ∃ x, A.eval (.tmp 27) = x := ⟨_, rfl⟩
              have f27 : (fun v _ => v = undef) x27 u8 := by rw [← hx27]; exact hh.got 15 _ 27 rfl rfl (hall 15 (by decide))
              obtain ⟨x28, hx28⟩ : ∃ x, A.eval (.tmp 28) = x := ⟨_, rfl⟩
              have f28 : (fun v _ => v = undef) x28 u8 := by rw [← hx28]; exact hh.got 16 _ 28 rfl rfl (hall 16 (by decide))
              obtain ⟨x29, hx29⟩ : ∃ x, A.eval (.tmp 29) = x := ⟨_, rfl⟩
              have f29 : (fun v _ => v = undef) x29 u8 := by rw [← hx29]; exact hh.got 17 _ 29 rfl rfl (hall 17 (by decide))
              obtain ⟨x30, hx30⟩ : ∃ x, A.eval (.tmp 30) = x := ⟨_, rfl⟩
              have f30 : (fun v _ => v = undef) x30 u8 := by rw [← hx30]; exact hh.got 18 _ 30 rfl rfl (hall 18 (by decide))
              obtain ⟨x31, hx31⟩ : ∃ x, A.eval (.tmp 31) = x := ⟨_, rfl⟩
              have f31 : (fun v _ => v = undef) x31 u8 := by rw [← hx31]; exact hh.got 19 _ 31 rfl rfl (hall 19 (by decide))
              obtain ⟨x32, hx32⟩ : ∃ x, A.eval (.tmp 32) = x := ⟨_, rfl⟩
              have f32 : (fun v _ => v = (Value.bool false)) x32 u8 := by rw [← hx32]; exact hh.got 20 _ 32 rfl rfl (hall 20 (by decide))
              obtain ⟨x33, hx33⟩ : ∃ x, A.eval (.tmp 33) = x := ⟨_, rfl⟩
              have f33 : (fun v _ => v = (Value.bool false)) x33 u8 := by rw [← hx33]; exact hh.got 21 _ 33 rfl rfl (hall 21 (by decide))
              dsimp only [wrote, List.foldl] at hA
              rw [hx12, hx13, hx14, hx15, hx16, hx17, hx18, hx19, hx20, hx21, hx22, hx23, hx24, hx25, hx26, hx27, hx28, hx29, hx30, hx31, hx32, hx33] at hA
              clear hh hall hx12 hx13 hx14 hx15 hx16 hx17 hx18 hx19 hx20 hx21 hx22 hx23 hx24 hx25 hx26 hx27 hx28 hx29 hx30 hx31 hx32 hx33
              replace f12 := (f12 : x12 = (.pointer (some ⟨p4, 0, none⟩)))
              subst f12
              replace f13 := (f13 : x13 = (.bool true))
              subst f13
              replace f14 := (f14 : x14 = (.bool true))
              subst f14
              replace f15 := (f15 : x15 = (.pointer (some ⟨p4, 2, none⟩)))
              subst f15
              replace f16 := (f16 : x16 = (.agg J.toArray))
              subst f16
              replace f17 := (f17 : x17 = (.agg Z.toArray))
              subst f17
              replace f18 := (f18 : x18 = (.bool false))
              subst f18
              replace f19 := (f19 : x19 = (.bool false))
              subst f19
              replace f20 := (f20 : x20 = (.bool false))
              subst f20
              replace f21 := (f21 : x21 = (.int .i64 (0 : Nat)))
              subst f21
              replace f22 := (f22 : x22 = (.bool false))
              subst f22
              replace f23 := (f23 : x23 = (.bool false))
              subst f23
              replace f24 := (f24 : x24 = undef)
              subst f24
              replace f25 := (f25 : x25 = undef)
              subst f25
              replace f26 := (f26 : x26 = undef)
              subst f26
              replace f27 := (f27 : x27 = undef)
              subst f27
              replace f28 := (f28 : x28 = undef)
              subst f28
              replace f29 := (f29 : x29 = undef)
              subst f29
              replace f30 := (f30 : x30 = undef)
              subst f30
              replace f31 := (f31 : x31 = undef)
              subst f31
              replace f32 := (f32 : x32 = (.bool false))
              subst f32
              replace f33 := (f33 : x33 = (.bool false))
              subst f33
              subst hA
              show wpList _ _ _ [] _ _
              unfold wpList
              simp only [Act.put, List.setIfInBounds_toArray, List.set_cons_succ, List.set_cons_zero]
              have HUz := hid (gtrans HU4.out HU.out)
              go_wp2_with fail
              go_roundw
              case rel => exact ⟨1, by go_num, by omega, HRt, HUz⟩
              case measure => simp [intOf]; omega
          | false =>
            as_aux_lemma =>
            have HRf : Hid (R = false) := hid (by rw [HRg.out, HSt.out]; rfl)
            clear HRg HSt
            go_upto_region 4 with (first
              | ((with_reducible refine wpList_store_all (by with_unfolding_all rfl) 85 _ _ (by with_unfolding_all rfl) _ zky.cells K 85 (by with_unfolding_all rfl) (by with_unfolding_all rfl) HB3.out (by rw [HKL.out]; with_unfolding_all rfl) (by rw [HKL.out]; exact Tryz.size85) HK1.out ?_); intro w4 BB gg ss; have HC4 := hid BB; have HU4 := hid (gtrans HG.out (HG3.out.andThen gg (fun j hj => .inl (by injection hj with hj; omega)))); clear BB gg ss)
              | ((with_reducible refine wpList_alloc_row (by with_unfolding_all rfl) 85 (by with_unfolding_all rfl) zky.cells Tryz.zero85 ?_); intro w3 BB ss gg; have HB3 := hid BB; have HG3 := hid gg; clear BB ss gg)
              | (with_reducible refine wpList_load_part (by with_unfolding_all rfl) 85 _ (by with_unfolding_all rfl) b (off + 0 * 19) K _ (by with_unfolding_all rfl) HRr.out Tryz.underlying85 (by with_unfolding_all rfl) (by rw [HKL.out]; exact Tryz.size85) ?_))
            obtain ⟨p4, hp4⟩ : ∃ x, wr.heap.size = x := ⟨_, rfl⟩
            rw [hp4] at HC4 HJr
            simp only [hp4]
            clear hp4 HB3 HG3
            refine wp_region_listX (by kernel_rfl) [fun v _ => v = (Value.pointer (some ⟨p4, 0, none⟩)), fun v _ => v = (Value.bool true), fun v _ => v = (Value.bool true), fun v _ => v = (Value.pointer (some ⟨p4, 2, none⟩)), fun v _ => v = (Value.agg J.toArray), fun v _ => v = (Value.agg Z.toArray), fun v _ => v = (Value.bool true), fun v _ => v = (Value.bool true), fun v _ => v = (Value.bool true), fun v _ => v = undef, fun v _ => v = undef, fun v _ => v = undef, fun v _ => v = undef, fun v _ => v = undef, fun v _ => v = undef, fun v _ => v = undef, fun v _ => v = undef, fun v _ => v = undef, fun v _ => v = undef, fun v _ => v = undef, fun v _ => v = undef, fun v _ => v = (Value.bool true)] (none) (fun _ => none) 22 (by kernel_rfl) (by kernel_rfl) (by kernel_rfl) (by kernel_rfl) (by decide) noRow_one (fun _ => .inl rfl) ⟨fun i v u u' hki h hg => h, fun i v u u' hki h hg => h, fun i v u u' hki h hg => h, fun i v u u' hki h hg => h, fun i v u u' hki h hg => h, fun i v u u' hki h hg => h, fun i v u u' hki h hg => h, fun i v u u' hki h hg => h, fun i v u u' hki h hg => h, fun i v u u' hki h hg => h, fun i v u u' hki h hg => h, fun i v u u' hki h hg => h, fun i v u u' hki h hg => h, fun i v u u' hki h hg => h, fun i v u u' hki h hg => h, fun i v u u' hki h hg => h, fun i v u u' hki h hg => h, fun i v u u' hki h hg => h, fun i v u u' hki h hg => h, fun i v u u' hki h hg => h, fun i v u u' hki h hg => h, fun i v u u' hki h hg => h, trivial⟩ ⟨?_, ?_, ?_, ?_, ?_, ?_, ?_, ?_, ?_, ?_, ?_, ?_, ?_, ?_, ?_, ?_, ?_, ?_, ?_, ?_, ?_, ?_, trivial⟩ ?_
            · intro A u hu hpu hsz hout hdeps
              have e4 : A.eval (.tmp 4) = (.pointer (some ⟨p4, 0, none⟩)) := (hout 4 (by kernel_rfl)).trans rfl
              refine ifw_none rfl ?_
              with_reducible refine shown_q (Value.pointer (some ⟨p4, 0, none⟩)) ?qq_3ka2_0 (fun _ _ => ?qr_3ka2_0)
              case qr_3ka2_0 => exact (rfl : (Value.pointer (some ⟨p4, 0, none⟩)) = (Value.pointer (some ⟨p4, 0, none⟩)))
              with_reducible refine quietAt_field 85 (.tmp 4) 0 ?h0_3ka2_0 ⟨p4, 0, none⟩ ⟨p4, 0, none⟩ ?h1_3ka2_0 ?h2_3ka2_0
              case h0_3ka2_0 => rfl
              case h1_3ka2_0 => exact e4
              case h2_3ka2_0 => kernel_rfl
            · intro A u hu hpu hsz hout hdeps
              have e12 : A.eval (.tmp 12) = (.pointer (some ⟨p4, 0, none⟩)) := by have h := depL hdeps 0 (by kernel_rfl) 12 (by kernel_rfl); exact h
              refine ifw_none rfl ?_
              with_reducible refine shown_q (Value.bool true) ?qq_3ka2_1 (fun _ _ => ?qr_3ka2_1)
              case qr_3ka2_1 => exact (rfl : (Value.bool true) = (Value.bool true))
              with_reducible refine quietAt_ld 4 (.tmp 12) (Value.pointer (some ⟨p4, 0, none⟩)) (Value.bool true) ?h0_3ka2_1 ?h1_3ka2_1 ?h2_3ka2_1
              case h0_3ka2_1 => rfl
              case h1_3ka2_1 => exact e12
              case h2_3ka2_1 => exact ld4 p4 0 true u (HC4.out.keep hu |>.cell0 HK0)
            · intro A u hu hpu hsz hout hdeps
              have e13 : A.eval (.tmp 13) = (.bool true) := by have h := depL hdeps 1 (by kernel_rfl) 13 (by kernel_rfl); exact h
              refine ifw_none rfl ?_
              with_reducible refine shown_q (Value.bool true) ?qq_3ka2_2 (fun _ _ => ?qr_3ka2_2)
              case qr_3ka2_2 => exact (rfl : (Value.bool true) = (Value.bool true))
              with_reducible refine quietAt_mv (.tmp 13) (Value.bool true) ?h0_3ka2_2 ?h1_3ka2_2
              case h0_3ka2_2 => rfl
              case h1_3ka2_2 => exact e13
            · intro A u hu hpu hsz hout hdeps
              have e14 : A.eval (.tmp 14) = (.bool true) := by have h := depL hdeps 2 (by kernel_rfl) 14 (by kernel_rfl); exact h
              have e4 : A.eval (.tmp 4) = (.pointer (some ⟨p4, 0, none⟩)) := (hout 4 (by kernel_rfl)).trans rfl
              refine ifw_want 2 true 14 rfl rfl e14 ?_
              with_reducible refine shown_q (Value.pointer (some ⟨p4, 2, none⟩)) ?qq_3ka2_3 (fun _ _ => ?qr_3ka2_3)
              case qr_3ka2_3 => exact (rfl : (Value.pointer (some ⟨p4, 2, none⟩)) = (Value.pointer (some ⟨p4, 2, none⟩)))
              with_reducible refine quietAt_field 85 (.tmp 4) 2 ?h0_3ka2_3 ⟨p4, 0, none⟩ ⟨p4, 2, none⟩ ?h1_3ka2_3 ?h2_3ka2_3
              case h0_3ka2_3 => rfl
              case h1_3ka2_3 => exact e4
              case h2_3ka2_3 => kernel_rfl
            · intro A u hu hpu hsz hout hdeps
              have e14 : A.eval (.tmp 14) = (.bool true) := by have h := depL hdeps 2 (by kernel_rfl) 14 (by kernel_rfl); exact h
              have e15 : A.eval (.tmp 15) = (.pointer (some ⟨p4, 2, none⟩)) := by have h := depL hdeps 3 (by kernel_rfl) 15 (by kernel_rfl); exact h
              refine ifw_want 2 true 14 rfl rfl e14 ?_
              with_reducible refine shown_q (Value.agg J.toArray) ?qq_3ka2_4 (fun _ _ => ?qr_3ka2_4)
              case qr_3ka2_4 => exact (rfl : (Value.agg J.toArray) = (Value.agg J.toArray))
              with_reducible refine quietAt_load 69 (.tmp 15) ?h0_3ka2_4 p4 2 J (.array 16 5) ?h1_3ka2_4 ?h2_3ka2_4 ?h3_3ka2_4 ?h4_3ka2_4 ?h5_3ka2_4
              case h0_3ka2_4 => rfl
              case h1_3ka2_4 => exact e15
              case h2_3ka2_4 => exact (HJr.out _ (HC4.out.keep hu))
              case h3_3ka2_4 => exact Tryz.underlying69
              case h4_3ka2_4 => rfl
              case h5_3ka2_4 => exact (by rw [HJL.out]; exact Tryz.size69)
            · intro A u hu hpu hsz hout hdeps
              have e14 : A.eval (.tmp 14) = (.bool true) := by have h := depL hdeps 2 (by kernel_rfl) 14 (by kernel_rfl); exact h
              refine ifw_want 2 true 14 rfl rfl e14 ?_
              with_reducible refine shown_q (Value.agg Z.toArray) ?qq_3ka2_5 (fun _ _ => ?qr_3ka2_5)
              case qr_3ka2_5 => exact (rfl : (Value.agg Z.toArray) = (Value.agg Z.toArray))
              with_reducible refine quietAt_build 69 #[] ?h0_3ka2_5 [] ?h1_3ka2_5 Z ?h2_3ka2_5
              case h0_3ka2_5 => rfl
              case h1_3ka2_5 => simp only [List.map_toArray, List.map_nil]
              case h2_3ka2_5 => exact HBz.out
            · intro A u hu hpu hsz hout hdeps
              have e14 : A.eval (.tmp 14) = (.bool true) := by have h := depL hdeps 2 (by kernel_rfl) 14 (by kernel_rfl); exact h
              have e16 : A.eval (.tmp 16) = (.agg J.toArray) := by have h := depL hdeps 4 (by kernel_rfl) 16 (by kernel_rfl); exact h
              have e17 : A.eval (.tmp 17) = (.agg Z.toArray) := by have h := depL hdeps 5 (by kernel_rfl) 17 (by kernel_rfl); exact h
              refine ifw_want 2 true 14 rfl rfl e14 ?_
              with_reducible refine shown_q (Value.bool true) ?qq_3ka2_6 (fun _ _ => ?qr_3ka2_6)
              case qr_3ka2_6 => exact (rfl : (Value.bool true) = (Value.bool true))
              with_reducible refine quietAt_bin .neq 69 (.tmp 16) (.tmp 17) 69 (Value.agg J.toArray) (Value.agg Z.toArray) (Value.bool true) ?h0_3ka2_6 ?h1_3ka2_6 ?h2_3ka2_6 ?h3_3ka2_6
              case h0_3ka2_6 => rfl
              case h1_3ka2_6 => exact e16
              case h2_3ka2_6 => exact e17
              case h3_3ka2_6 => exact HNz.out _ _ u
            · intro A u hu hpu hsz hout hdeps
              have e14 : A.eval (.tmp 14) = (.bool true) := by have h := depL hdeps 2 (by kernel_rfl) 14 (by kernel_rfl); exact h
              have e18 : A.eval (.tmp 18) = (.bool true) := by have h := depL hdeps 6 (by kernel_rfl) 18 (by kernel_rfl); exact h
              refine ifw_none rfl ?_
              with_reducible refine shown_q (Value.bool true) ?qq_3ka2_7 (fun _ _ => ?qr_3ka2_7)
              case qr_3ka2_7 => exact (rfl : (Value.bool true) = (Value.bool true))
              with_reducible refine quietAt_pick (.tmp 14) (.tmp 18) (.const (.bool false)) true (Value.bool true) ?h0_3ka2_7 ?h1_3ka2_7 ?h2_3ka2_7
              case h0_3ka2_7 => rfl
              case h1_3ka2_7 => exact e14
              case h2_3ka2_7 => rw [if_pos rfl]; exact e18
            · intro A u hu hpu hsz hout hdeps
              have e19 : A.eval (.tmp 19) = (.bool true) := by have h := depL hdeps 7 (by kernel_rfl) 19 (by kernel_rfl); exact h
              refine ifw_none rfl ?_
              with_reducible refine shown_q (Value.bool true) ?qq_3ka2_8 (fun _ _ => ?qr_3ka2_8)
              case qr_3ka2_8 => exact (rfl : (Value.bool true) = (Value.bool true))
              with_reducible refine quietAt_mv (.tmp 19) (Value.bool true) ?h0_3ka2_8 ?h1_3ka2_8
              case h0_3ka2_8 => rfl
              case h1_3ka2_8 => exact e19
            · intro A u hu hpu hsz hout hdeps
              have e20 : A.eval (.tmp 20) = (.bool true) := by have h := depL hdeps 8 (by kernel_rfl) 20 (by kernel_rfl); exact h
              refine ifw_pass 8 false true 20 rfl rfl e20 (by decide) ?_
              exact rfl
            · intro A u hu hpu hsz hout hdeps
              have e20 : A.eval (.tmp 20) = (.bool true) := by have h := depL hdeps 8 (by kernel_rfl) 20 (by kernel_rfl); exact h
              refine ifw_pass 8 false true 20 rfl rfl e20 (by decide) ?_
              exact rfl
            · intro A u hu hpu hsz hout hdeps
              have e20 : A.eval (.tmp 20) = (.bool true) := by have h := depL hdeps 8 (by kernel_rfl) 20 (by kernel_rfl); exact h
              refine ifw_pass 8 false true 20 rfl rfl e20 (by decide) ?_
              exact rfl
            · intro A u hu hpu hsz hout hdeps
              have e23 : A.eval (.tmp 23) = undef := by have h := depL hdeps 11 (by kernel_rfl) 23 (by kernel_rfl); exact h
              refine ifw_undef 11 true 23 rfl rfl e23 ?_
              exact rfl
            · intro A u hu hpu hsz hout hdeps
              have e23 : A.eval (.tmp 23) = undef := by have h := depL hdeps 11 (by kernel_rfl) 23 (by kernel_rfl); exact h
              refine ifw_undef 11 true 23 rfl rfl e23 ?_
              exact rfl
            · intro A u hu hpu hsz hout hdeps
              have e23 : A.eval (.tmp 23) = undef := by have h := depL hdeps 11 (by kernel_rfl) 23 (by kernel_rfl); exact h
              refine ifw_undef 11 true 23 rfl rfl e23 ?_
              exact rfl
            · intro A u hu hpu hsz hout hdeps
              have e23 : A.eval (.tmp 23) = undef := by have h := depL hdeps 11 (by kernel_rfl) 23 (by kernel_rfl); exact h
              refine ifw_undef 11 true 23 rfl rfl e23 ?_
              exact rfl
            · intro A u hu hpu hsz hout hdeps
              have e23 : A.eval (.tmp 23) = undef := by have h := depL hdeps 11 (by kernel_rfl) 23 (by kernel_rfl); exact h
              refine ifw_undef 11 true 23 rfl rfl e23 ?_
              exact rfl
            · intro A u hu hpu hsz hout hdeps
              have e23 : A.eval (.tmp 23) = undef := by have h := depL hdeps 11 (by kernel_rfl) 23 (by kernel_rfl); exact h
              refine ifw_undef 11 true 23 rfl rfl e23 ?_
              exact rfl
            · intro A u hu hpu hsz hout hdeps
              have e23 : A.eval (.tmp 23) = undef := by have h := depL hdeps 11 (by kernel_rfl) 23 (by kernel_rfl); exact h
              refine ifw_undef 11 true 23 rfl rfl e23 ?_
              exact rfl
            · intro A u hu hpu hsz hout hdeps
              have e23 : A.eval (.tmp 23) = undef := by have h := depL hdeps 11 (by kernel_rfl) 23 (by kernel_rfl); exact h
              refine ifw_undef 11 true 23 rfl rfl e23 ?_
              exact rfl
            · intro A u hu hpu hsz hout hdeps
              have e20 : A.eval (.tmp 20) = (.bool true) := by have h := depL hdeps 8 (by kernel_rfl) 20 (by kernel_rfl); exact h
              refine ifw_pass 8 false true 20 rfl rfl e20 (by decide) ?_
              exact rfl
            · intro A u hu hpu hsz hout hdeps
              have e20 : A.eval (.tmp 20) = (.bool true) := by have h := depL hdeps 8 (by kernel_rfl) 20 (by kernel_rfl); exact h
              refine ifw_none rfl ?_
              with_reducible refine shown_q (Value.bool true) ?qq_3ka2_21 (fun _ _ => ?qr_3ka2_21)
              case qr_3ka2_21 => exact (rfl : (Value.bool true) = (Value.bool true))
              with_reducible refine quietAt_pick (.tmp 20) (.const (.bool true)) (.tmp 32) true (Value.bool true) ?h0_3ka2_21 ?h1_3ka2_21 ?h2_3ka2_21
              case h0_3ka2_21 => rfl
              case h1_3ka2_21 => exact e20
              case h2_3ka2_21 => rw [if_pos rfl]; exact rfl
            · intro A u8 listed hh hall
              have hA := hh.frame
              have HU := hid hh.grown
              obtain ⟨x12, hx12⟩ : ∃ x, A.eval (.tmp 12) = x := ⟨_, rfl⟩
              have f12 : (fun v _ => v = (Value.pointer (some ⟨p4, 0, none⟩))) x12 u8 := by rw [← hx12]; exact hh.got 0 _ 12 rfl rfl (hall 0 (by decide))
              obtain ⟨x13, hx13⟩ : ∃ x, A.eval (.tmp 13) = x := ⟨_, rfl⟩
              have f13 : (fun v _ => v = (Value.bool true)) x13 u8 := by rw [← hx13]; exact hh.got 1 _ 13 rfl rfl (hall 1 (by decide))
              obtain ⟨x14, hx14⟩ : ∃ x, A.eval (.tmp 14) = x := ⟨_, rfl⟩
              have f14 : (fun v _ => v = (Value.bool true)) x14 u8 := by rw [← hx14]; exact hh.got 2 _ 14 rfl rfl (hall 2 (by decide))
              obtain ⟨x15, hx15⟩ : ∃ x, A.eval (.tmp 15) = x := ⟨_, rfl⟩
              have f15 : (fun v _ => v = (Value.pointer (some ⟨p4, 2, none⟩))) x15 u8 := by rw [← hx15]; exact hh.got 3 _ 15 rfl rfl (hall 3 (by decide))
              obtain ⟨x16, hx16⟩ : ∃ x, A.eval (.tmp 16) = x := ⟨_, rfl⟩
              have f16 : (fun v _ => v = (Value.agg J.toArray)) x16 u8 := by rw [← hx16]; exact hh.got 4 _ 16 rfl rfl (hall 4 (by decide))
              obtain ⟨x17, hx17⟩ : ∃ x, A.eval (.tmp 17) = x := ⟨_, rfl⟩
              have f17 : (fun v _ => v = (Value.agg Z.toArray)) x17 u8 := by rw [← hx17]; exact hh.got 5 _ 17 rfl rfl (hall 5 (by decide))
              obtain ⟨x18, hx18⟩ : ∃ x, A.eval (.tmp 18) = x := ⟨_, rfl⟩
              have f18 : (fun v _ => v = (Value.bool true)) x18 u8 := by rw [← hx18]; exact hh.got 6 _ 18 rfl rfl (hall 6 (by decide))
              obtain ⟨x19, hx19⟩ : ∃ x, A.eval (.tmp 19) = x := ⟨_, rfl⟩
              have f19 : (fun v _ => v = (Value.bool true)) x19 u8 := by rw [← hx19]; exact hh.got 7 _ 19 rfl rfl (hall 7 (by decide))
              obtain ⟨x20, hx20⟩ : ∃ x, A.eval (.tmp 20) = x := ⟨_, rfl⟩
              have f20 : (fun v _ => v = (Value.bool true)) x20 u8 := by rw [← hx20]; exact hh.got 8 _ 20 rfl rfl (hall 8 (by decide))
              obtain ⟨x21, hx21⟩ : ∃ x, A.eval (.tmp 21) = x := ⟨_, rfl⟩
              have f21 : (fun v _ => v = undef) x21 u8 := by rw [← hx21]; exact hh.got 9 _ 21 rfl rfl (hall 9 (by decide))
              obtain ⟨x22, hx22⟩ : ∃ x, A.eval (.tmp 22) = x := ⟨_, rfl⟩
              have f22 : (fun v _ => v = undef) x22 u8 := by rw [← hx22]; exact hh.got 10 _ 22 rfl rfl (hall 10 (by decide))
              obtain ⟨x23, hx23⟩ : ∃ x, A.eval (.tmp 23) = x := ⟨_, rfl⟩
              have f23 : (fun v _ => v = undef) x23 u8 := by rw [← hx23]; exact hh.got 11 _ 23 rfl rfl (hall 11 (by decide))
              obtain ⟨x24, hx24⟩ : ∃ x, A.eval (.tmp 24) = x := ⟨_, rfl⟩
              have f24 : (fun v _ => v = undef) x24 u8 := by rw [← hx24]; exact hh.got 12 _ 24 rfl rfl (hall 12 (by decide))
              obtain ⟨x25, hx25⟩ : ∃ x, A.eval (.tmp 25) = x := ⟨_, rfl⟩
              have f25 : (fun v _ => v = undef) x25 u8 := by rw [← hx25]; exact hh.got 13 _ 25 rfl rfl (hall 13 (by decide))
              obtain ⟨x26, hx26⟩ : ∃ x, A.eval (.tmp 26) = x := ⟨_, rfl⟩
              have f26 : (fun v _ => v = undef) x26 u8 := by rw [← hx26]; exact hh.got 14 _ 26 rfl rfl (hall 14 (by decide))
              obtain ⟨x27, hx27⟩ : ∃ x, A.eval (.tmp 27) = x := ⟨_, rfl⟩
              have f27 : (fun v _ => v = undef) x27 u8 := by rw [← hx27]; exact hh.got 15 _ 27 rfl rfl (hall 15 (by decide))
              obtain ⟨x28, hx28⟩ : ∃ x, A.eval (.tmp 28) = x := ⟨_, rfl⟩
              have f28 : (fun v _ => v = undef) x28 u8 := by rw [← hx28]; exact hh.got 16 _ 28 rfl rfl (hall 16 (by decide))
              obtain ⟨x29, hx29⟩ : ∃ x, A.eval (.tmp 29) = x := ⟨_, rfl⟩
              have f29 : (fun v _ => v = undef) x29 u8 := by rw [← hx29]; exact hh.got 17 _ 29 rfl rfl (hall 17 (by decide))
              obtain ⟨x30, hx30⟩ : ∃ x, A.eval (.tmp 30) = x := ⟨_, rfl⟩
              have f30 : (fun v _ => v = undef) x30 u8 := by rw [← hx30]; exact hh.got 18 _ 30 rfl rfl (hall 18 (by decide))
              obtain ⟨x31, hx31⟩ : ∃ x, A.eval (.tmp 31) = x := ⟨_, rfl⟩
              have f31 : (fun v _ => v = undef) x31 u8 := by rw [← hx31]; exact hh.got 19 _ 31 rfl rfl (hall 19 (by decide))
              obtain ⟨x32, hx32⟩ : ∃ x, A.eval (.tmp 32) = x := ⟨_, rfl⟩
              have f32 : (fun v _ => v = undef) x32 u8 := by rw [← hx32]; exact hh.got 20 _ 32 rfl rfl (hall 20 (by decide))
              obtain ⟨x33, hx33⟩ : ∃ x, A.eval (.tmp 33) = x := ⟨_, rfl⟩
              have f33 : (fun v _ => v = (Value.bool true)) x33 u8 := by rw [← hx33]; exact hh.got 21 _ 33 rfl rfl (hall 21 (by decide))
              dsimp only [wrote, List.foldl] at hA
              rw [hx12, hx13, hx14, hx15, hx16, hx17, hx18, hx19, hx20, hx21, hx22, hx23, hx24, hx25, hx26, hx27, hx28, hx29, hx30, hx31, hx32, hx33] at hA
              clear hh hall hx12 hx13 hx14 hx15 hx16 hx17 hx18 hx19 hx20 hx21 hx22 hx23 hx24 hx25 hx26 hx27 hx28 hx29 hx30 hx31 hx32 hx33
              replace f12 := (f12 : x12 = (.pointer (some ⟨p4, 0, none⟩)))
              subst f12
              replace f13 := (f13 : x13 = (.bool true))
              subst f13
              replace f14 := (f14 : x14 = (.bool true))
              subst f14
              replace f15 := (f15 : x15 = (.pointer (some ⟨p4, 2, none⟩)))
              subst f15
              replace f16 := (f16 : x16 = (.agg J.toArray))
              subst f16
              replace f17 := (f17 : x17 = (.agg Z.toArray))
              subst f17
              replace f18 := (f18 : x18 = (.bool true))
              subst f18
              replace f19 := (f19 : x19 = (.bool true))
              subst f19
              replace f20 := (f20 : x20 = (.bool true))
              subst f20
              replace f21 := (f21 : x21 = undef)
              subst f21
              replace f22 := (f22 : x22 = undef)
              subst f22
              replace f23 := (f23 : x23 = undef)
              subst f23
              replace f24 := (f24 : x24 = undef)
              subst f24
              replace f25 := (f25 : x25 = undef)
              subst f25
              replace f26 := (f26 : x26 = undef)
              subst f26
              replace f27 := (f27 : x27 = undef)
              subst f27
              replace f28 := (f28 : x28 = undef)
              subst f28
              replace f29 := (f29 : x29 = undef)
              subst f29
              replace f30 := (f30 : x30 = undef)
              subst f30
              replace f31 := (f31 : x31 = undef)
              subst f31
              replace f32 := (f32 : x32 = undef)
              subst f32
              replace f33 := (f33 : x33 = (.bool true))
              subst f33
              subst hA
              show wpList _ _ _ [] _ _
              unfold wpList
              simp only [Act.put, List.setIfInBounds_toArray, List.set_cons_succ, List.set_cons_zero]
              have HUz := hid (gtrans HU4.out HU.out)
              go_wp2_with fail
              go_ret
              exact ⟨by rw [← HEE.out, HRf.out]; rfl, HUz.out⟩
      | succ j =>
        rw [if_neg (by omega), Nat.add_sub_cancel] at HSt
        have hjl : j < l.length := by omega
        have HPr : Hid (∀ u, w.grownBy u none → u.rangeAt b (off + j * 19) l[j].cells) := hid (HPr0.out j hjl)
        have HPL := hid (HPL0.out j hjl)
        have HMf1 := hid (HMf0.out j hjl)
        have hgd : l.getD j zky = l[j] := by rw [List.getD_eq_getElem?_getD, List.getElem?_eq_getElem hjl]; rfl
        rw [hgd] at HSt
        obtain ⟨M, hM⟩ : ∃ x, mf l[j] q = x := ⟨_, rfl⟩
        rw [hM] at HSt HMf1
        obtain ⟨KP, HKPe⟩ : ∃ x, Hid (l[j].cells = x) := ⟨_, hid rfl⟩
        rw [HKPe.out] at HPr HPL HMf1
        have HJ0 : Hid (j < 1099511627776) := hid (by omega)
        have HJn : Hid (j < n) := hid (by omega)
        have HMf : Hid (∀ u, w.grownBy u none → Calls Tryz.prog 31 #[.agg KP.toArray, .agg K.toArray] u fun e w' => e = .returned (.bool M) ∧ u.grownBy w' none) := hid (fun u _ => HMf1.out u)
        clear HPr0 HPL0 HMf0 HMf1 hgd hM HKPe hil hjl
        cases wh
        case false =>
          cases M with
          | true =>
            as_aux_lemma =>
            have HRt : Hid (R = chkR l (j + 1 + 1)) := hid (by rw [HRg.out, HSt.out]; first | rfl | (cases ez <;> rfl))
            clear HRg HSt
            go_upto_region 4 with (first
              | ((with_reducible refine wpList_store_all (by with_unfolding_all rfl) 85 _ _ (by with_unfolding_all rfl) _ zky.cells K 85 (by with_unfolding_all rfl) (by with_unfolding_all rfl) HB3.out (by rw [HKL.out]; with_unfolding_all rfl) (by rw [HKL.out]; exact Tryz.size85) HK1.out ?_); intro w4 BB gg ss; have HC4 := hid BB; have HU4 := hid (gtrans HG.out (HG3.out.andThen gg (fun j hj => .inl (by injection hj with hj; omega)))); clear BB gg ss)
              | ((with_reducible refine wpList_alloc_row (by with_unfolding_all rfl) 85 (by with_unfolding_all rfl) zky.cells Tryz.zero85 ?_); intro w3 BB ss gg; have HB3 := hid BB; have HG3 := hid gg; clear BB ss gg)
              | (with_reducible refine wpList_load_part (by with_unfolding_all rfl) 85 _ (by with_unfolding_all rfl) b (off + (j + 1) * 19) K _ (by with_unfolding_all rfl) HRr.out Tryz.underlying85 (by with_unfolding_all rfl) (by rw [HKL.out]; exact Tryz.size85) ?_))
            obtain ⟨p4, hp4⟩ : ∃ x, wr.heap.size = x := ⟨_, rfl⟩
            rw [hp4] at HC4 HJr
            simp only [hp4]
            clear hp4 HB3 HG3
            refine wp_region_listX (by kernel_rfl) [fun v _ => v = (Value.pointer (some ⟨p4, 0, none⟩)), fun v _ => v = (Value.bool false), fun v _ => v = (Value.bool false), fun v _ => v = undef, fun v _ => v = undef, fun v _ => v = undef, fun v _ => v = undef, fun v _ => v = (Value.bool false), fun v _ => v = (Value.bool false), fun v _ => v = (Value.int .i64 ((j + 1) : Nat)), fun v _ => v = (Value.bool true), fun v _ => v = (Value.bool true), fun v _ => v = (Value.slice (some ⟨b, off, none⟩) n c), fun v _ => v = (Value.int .i64 ((j + 1) : Nat)), fun v _ => v = (Value.int .i64 (j : Nat)), fun v _ => v = (Value.pointer (some ⟨b, off + j * 19, none⟩)), fun v _ => v = (Value.agg KP.toArray), fun v _ => v = (Value.agg K.toArray), fun v _ => v = (Value.bool true), fun v _ => v = (Value.bool false), fun v _ => v = (Value.bool false), fun v _ => v = (Value.bool false)] (none) (fun _ => none) 22 (by kernel_rfl) (by kernel_rfl) (by kernel_rfl) (by kernel_rfl) (by decide) noRow_one (fun _ => .inl rfl) ⟨fun i v u u' hki h hg => h, fun i v u u' hki h hg => h, fun i v u u' hki h hg => h, fun i v u u' hki h hg => h, fun i v u u' hki h hg => h, fun i v u u' hki h hg => h, fun i v u u' hki h hg => h, fun i v u u' hki h hg => h, fun i v u u' hki h hg => h, fun i v u u' hki h hg => h, fun i v u u' hki h hg => h, fun i v u u' hki h hg => h, fun i v u u' hki h hg => h, fun i v u u' hki h hg => h, fun i v u u' hki h hg => h, fun i v u u' hki h hg => h, fun i v u u' hki h hg => h, fun i v u u' hki h hg => h, fun i v u u' hki h hg => h, fun i v u u' hki h hg => h, fun i v u u' hki h hg => h, fun i v u u' hki h hg => h, trivial⟩ ⟨?_, ?_, ?_, ?_, ?_, ?_, ?_, ?_, ?_, ?_, ?_, ?_, ?_, ?_, ?_, ?_, ?_, ?_, ?_, ?_, ?_, ?_, trivial⟩ ?_
            · intro A u hu hpu hsz hout hdeps
              have e4 : A.eval (.tmp 4) = (.pointer (some ⟨p4, 0, none⟩)) := (hout 4 (by kernel_rfl)).trans rfl
              refine ifw_none rfl ?_
              with_reducible refine shown_q (Value.pointer (some ⟨p4, 0, none⟩)) ?qq_4kb3_0 (fun _ _ => ?qr_4kb3_0)
              case qr_4kb3_0 => exact (rfl : (Value.pointer (some ⟨p4, 0, none⟩)) = (Value.pointer (some ⟨p4, 0, none⟩)))
              with_reducible refine quietAt_field 85 (.tmp 4) 0 ?h0_4kb3_0 ⟨p4, 0, none⟩ ⟨p4, 0, none⟩ ?h1_4kb3_0 ?h2_4kb3_0
              case h0_4kb3_0 => rfl
              case h1_4kb3_0 => exact e4
              case h2_4kb3_0 => kernel_rfl
            · intro A u hu hpu hsz hout hdeps
              have e12 : A.eval (.tmp 12) = (.pointer (some ⟨p4, 0, none⟩)) := by have h := depL hdeps 0 (by kernel_rfl) 12 (by kernel_rfl); exact h
              refine ifw_none rfl ?_
              with_reducible refine shown_q (Value.bool false) ?qq_4kb3_1 (fun _ _ => ?qr_4kb3_1)
              case qr_4kb3_1 => exact (rfl : (Value.bool false) = (Value.bool false))
              with_reducible refine quietAt_ld 4 (.tmp 12) (Value.pointer (some ⟨p4, 0, none⟩)) (Value.bool false) ?h0_4kb3_1 ?h1_4kb3_1 ?h2_4kb3_1
              case h0_4kb3_1 => rfl
              case h1_4kb3_1 => exact e12
              case h2_4kb3_1 => exact ld4 p4 0 false u (HC4.out.keep hu |>.cell0 HK0)
            · intro A u hu hpu hsz hout hdeps
              have e13 : A.eval (.tmp 13) = (.bool false) := by have h := depL hdeps 1 (by kernel_rfl) 13 (by kernel_rfl); exact h
              refine ifw_none rfl ?_
              with_reducible refine shown_q (Value.bool false) ?qq_4kb3_2 (fun _ _ => ?qr_4kb3_2)
              case qr_4kb3_2 => exact (rfl : (Value.bool false) = (Value.bool false))
              with_reducible refine quietAt_mv (.tmp 13) (Value.bool false) ?h0_4kb3_2 ?h1_4kb3_2
              case h0_4kb3_2 => rfl
              case h1_4kb3_2 => exact e13
            · intro A u hu hpu hsz hout hdeps
              have e14 : A.eval (.tmp 14) = (.bool false) := by have h := depL hdeps 2 (by kernel_rfl) 14 (by kernel_rfl); exact h
              refine ifw_pass 2 true false 14 rfl rfl e14 (by decide) ?_
              exact rfl
            · intro A u hu hpu hsz hout hdeps
              have e14 : A.eval (.tmp 14) = (.bool false) := by have h := depL hdeps 2 (by kernel_rfl) 14 (by kernel_rfl); exact h
              refine ifw_pass 2 true false 14 rfl rfl e14 (by decide) ?_
              exact rfl
            · intro A u hu hpu hsz hout hdeps
              have e14 : A.eval (.tmp 14) = (.bool false) := by have h := depL hdeps 2 (by kernel_rfl) 14 (by kernel_rfl); exact h
              refine ifw_pass 2 true false 14 rfl rfl e14 (by decide) ?_
              exact rfl
            · intro A u hu hpu hsz hout hdeps
              have e14 : A.eval (.tmp 14) = (.bool false) := by have h := depL hdeps 2 (by kernel_rfl) 14 (by kernel_rfl); exact h
              refine ifw_pass 2 true false 14 rfl rfl e14 (by decide) ?_
              exact rfl
            · intro A u hu hpu hsz hout hdeps
              have e14 : A.eval (.tmp 14) = (.bool false) := by have h := depL hdeps 2 (by kernel_rfl) 14 (by kernel_rfl); exact h
              refine ifw_none rfl ?_
              with_reducible refine shown_q (Value.bool false) ?qq_4kb3_7 (fun _ _ => ?qr_4kb3_7)
              case qr_4kb3_7 => exact (rfl : (Value.bool false) = (Value.bool false))
              with_reducible refine quietAt_pick (.tmp 14) (.tmp 18) (.const (.bool false)) false (Value.bool false) ?h0_4kb3_7 ?h1_4kb3_7 ?h2_4kb3_7
              case h0_4kb3_7 => rfl
              case h1_4kb3_7 => exact e14
              case h2_4kb3_7 => rw [if_neg (by decide)]; exact rfl
            · intro A u hu hpu hsz hout hdeps
              have e19 : A.eval (.tmp 19) = (.bool false) := by have h := depL hdeps 7 (by kernel_rfl) 19 (by kernel_rfl); exact h
              refine ifw_none rfl ?_
              with_reducible refine shown_q (Value.bool false) ?qq_4kb3_8 (fun _ _ => ?qr_4kb3_8)
              case qr_4kb3_8 => exact (rfl : (Value.bool false) = (Value.bool false))
              with_reducible refine quietAt_mv (.tmp 19) (Value.bool false) ?h0_4kb3_8 ?h1_4kb3_8
              case h0_4kb3_8 => rfl
              case h1_4kb3_8 => exact e19
            · intro A u hu hpu hsz hout hdeps
              have e20 : A.eval (.tmp 20) = (.bool false) := by have h := depL hdeps 8 (by kernel_rfl) 20 (by kernel_rfl); exact h
              have e3 : A.eval (.tmp 3) = (.int .i64 ((j + 1) : Nat)) := (hout 3 (by kernel_rfl)).trans rfl
              refine ifw_want 8 false 20 rfl rfl e20 ?_
              with_reducible refine shown_q (Value.int .i64 ((j + 1) : Nat)) ?qq_4kb3_9 (fun _ _ => ?qr_4kb3_9)
              case qr_4kb3_9 => exact (rfl : (Value.int .i64 ((j + 1) : Nat)) = (Value.int .i64 ((j + 1) : Nat)))
              with_reducible refine quietAt_mv (.tmp 3) (Value.int .i64 ((j + 1) : Nat)) ?h0_4kb3_9 ?h1_4kb3_9
              case h0_4kb3_9 => rfl
              case h1_4kb3_9 => exact e3
            · intro A u hu hpu hsz hout hdeps
              have e20 : A.eval (.tmp 20) = (.bool false) := by have h := depL hdeps 8 (by kernel_rfl) 20 (by kernel_rfl); exact h
              have e21 : A.eval (.tmp 21) = (.int .i64 ((j + 1) : Nat)) := by have h := depL hdeps 9 (by kernel_rfl) 21 (by kernel_rfl); exact h
              refine ifw_want 8 false 20 rfl rfl e20 ?_
              with_reducible refine shown_q (Value.bool true) ?qq_4kb3_10 (fun _ _ => ?qr_4kb3_10)
              case qr_4kb3_10 => exact (rfl : (Value.bool true) = (Value.bool true))
              with_reducible refine quietAt_bin .gtr 3 (.tmp 21) (.const (.int .i64 0)) 3 (Value.int .i64 ((j + 1) : Nat)) (Value.int .i64 0) (Value.bool true) ?h0_4kb3_10 ?h1_4kb3_10 ?h2_4kb3_10 ?h3_4kb3_10
              case h0_4kb3_10 => rfl
              case h1_4kb3_10 => exact e21
              case h2_4kb3_10 => exact rfl
              case h3_4kb3_10 => exact (gtj j u HJ0.out)
            · intro A u hu hpu hsz hout hdeps
              have e20 : A.eval (.tmp 20) = (.bool false) := by have h := depL hdeps 8 (by kernel_rfl) 20 (by kernel_rfl); exact h
              have e22 : A.eval (.tmp 22) = (.bool true) := by have h := depL hdeps 10 (by kernel_rfl) 22 (by kernel_rfl); exact h
              refine ifw_want 8 false 20 rfl rfl e20 ?_
              with_reducible refine shown_q (Value.bool true) ?qq_4kb3_11 (fun _ _ => ?qr_4kb3_11)
              case qr_4kb3_11 => exact (rfl : (Value.bool true) = (Value.bool true))
              with_reducible refine quietAt_mv (.tmp 22) (Value.bool true) ?h0_4kb3_11 ?h1_4kb3_11
              case h0_4kb3_11 => rfl
              case h1_4kb3_11 => exact e22
            · intro A u hu hpu hsz hout hdeps
              have e23 : A.eval (.tmp 23) = (.bool true) := by have h := depL hdeps 11 (by kernel_rfl) 23 (by kernel_rfl); exact h
              have e0 : A.eval (.tmp 0) = (.slice (some ⟨b, off, none⟩) n c) := (hout 0 (by kernel_rfl)).trans rfl
              refine ifw_want 11 true 23 rfl rfl e23 ?_
              with_reducible refine shown_q (Value.slice (some ⟨b, off, none⟩) n c) ?qq_4kb3_12 (fun _ _ => ?qr_4kb3_12)
              case qr_4kb3_12 => exact (rfl : (Value.slice (some ⟨b, off, none⟩) n c) = (Value.slice (some ⟨b, off, none⟩) n c))
              with_reducible refine quietAt_mv (.tmp 0) (Value.slice (some ⟨b, off, none⟩) n c) ?h0_4kb3_12 ?h1_4kb3_12
              case h0_4kb3_12 => rfl
              case h1_4kb3_12 => exact e0
            · intro A u hu hpu hsz hout hdeps
              have e23 : A.eval (.tmp 23) = (.bool true) := by have h := depL hdeps 11 (by kernel_rfl) 23 (by kernel_rfl); exact h
              have e3 : A.eval (.tmp 3) = (.int .i64 ((j + 1) : Nat)) := (hout 3 (by kernel_rfl)).trans rfl
              refine ifw_want 11 true 23 rfl rfl e23 ?_
              with_reducible refine shown_q (Value.int .i64 ((j + 1) : Nat)) ?qq_4kb3_13 (fun _ _ => ?qr_4kb3_13)
              case qr_4kb3_13 => exact (rfl : (Value.int .i64 ((j + 1) : Nat)) = (Value.int .i64 ((j + 1) : Nat)))
              with_reducible refine quietAt_mv (.tmp 3) (Value.int .i64 ((j + 1) : Nat)) ?h0_4kb3_13 ?h1_4kb3_13
              case h0_4kb3_13 => rfl
              case h1_4kb3_13 => exact e3
            · intro A u hu hpu hsz hout hdeps
              have e23 : A.eval (.tmp 23) = (.bool true) := by have h := depL hdeps 11 (by kernel_rfl) 23 (by kernel_rfl); exact h
              have e25 : A.eval (.tmp 25) = (.int .i64 ((j + 1) : Nat)) := by have h := depL hdeps 13 (by kernel_rfl) 25 (by kernel_rfl); exact h
              refine ifw_want 11 true 23 rfl rfl e23 ?_
              with_reducible refine shown_q (Value.int .i64 (j : Nat)) ?qq_4kb3_14 (fun _ _ => ?qr_4kb3_14)
              case qr_4kb3_14 => exact (rfl : (Value.int .i64 (j : Nat)) = (Value.int .i64 (j : Nat)))
              with_reducible refine quietAt_bin .sub 3 (.tmp 25) (.const (.int .i64 1)) 3 (Value.int .i64 ((j + 1) : Nat)) (Value.int .i64 1) (Value.int .i64 (j : Nat)) ?h0_4kb3_14 ?h1_4kb3_14 ?h2_4kb3_14 ?h3_4kb3_14
              case h0_4kb3_14 => rfl
              case h1_4kb3_14 => exact e25
              case h2_4kb3_14 => exact rfl
              case h3_4kb3_14 => exact (subj j u HJ0.out)
            · intro A u hu hpu hsz hout hdeps
              have e23 : A.eval (.tmp 23) = (.bool true) := by have h := depL hdeps 11 (by kernel_rfl) 23 (by kernel_rfl); exact h
              have e24 : A.eval (.tmp 24) = (.slice (some ⟨b, off, none⟩) n c) := by have h := depL hdeps 12 (by kernel_rfl) 24 (by kernel_rfl); exact h
              have e26 : A.eval (.tmp 26) = (.int .i64 (j : Nat)) := by have h := depL hdeps 14 (by kernel_rfl) 26 (by kernel_rfl); exact h
              refine ifw_want 11 true 23 rfl rfl e23 ?_
              with_reducible refine shown_q (Value.pointer (some ⟨b, off + j * 19, none⟩)) ?qq_4kb3_15 (fun _ _ => ?qr_4kb3_15)
              case qr_4kb3_15 => exact (rfl : (Value.pointer (some ⟨b, off + j * 19, none⟩)) = (Value.pointer (some ⟨b, off + j * 19, none⟩)))
              with_reducible refine quietAt_idx 57 (.tmp 24) (.tmp 26) (Value.slice (some ⟨b, off, none⟩) n c) (Value.int .i64 (j : Nat)) (Value.pointer (some ⟨b, off + j * 19, none⟩)) ?h0_4kb3_15 ?h1_4kb3_15 ?h2_4kb3_15 ?h3_4kb3_15
              case h0_4kb3_15 => rfl
              case h1_4kb3_15 => exact e24
              case h2_4kb3_15 => exact e26
              case h3_4kb3_15 => exact (idx23 b off n c j HJn.out u)
            · intro A u hu hpu hsz hout hdeps
              have e23 : A.eval (.tmp 23) = (.bool true) := by have h := depL hdeps 11 (by kernel_rfl) 23 (by kernel_rfl); exact h
              have e27 : A.eval (.tmp 27) = (.pointer (some ⟨b, off + j * 19, none⟩)) := by have h := depL hdeps 15 (by kernel_rfl) 27 (by kernel_rfl); exact h
              refine ifw_want 11 true 23 rfl rfl e23 ?_
              with_reducible refine shown_q (Value.agg KP.toArray) ?qq_4kb3_16 (fun _ _ => ?qr_4kb3_16)
              case qr_4kb3_16 => exact (rfl : (Value.agg KP.toArray) = (Value.agg KP.toArray))
              with_reducible refine quietAt_load 85 (.tmp 27) ?h0_4kb3_16 b (off + j * 19) KP (.struct (Tryz.prog.fieldsOf 85)) ?h1_4kb3_16 ?h2_4kb3_16 ?h3_4kb3_16 ?h4_4kb3_16 ?h5_4kb3_16
              case h0_4kb3_16 => rfl
              case h1_4kb3_16 => exact e27
              case h2_4kb3_16 => exact (HPr.out u (gtrans HU4.out hu))
              case h3_4kb3_16 => exact Tryz.under48
              case h4_4kb3_16 => rfl
              case h5_4kb3_16 => exact (by rw [HPL.out]; exact Tryz.size85)
            · intro A u hu hpu hsz hout hdeps
              have e23 : A.eval (.tmp 23) = (.bool true) := by have h := depL hdeps 11 (by kernel_rfl) 23 (by kernel_rfl); exact h
              have e4 : A.eval (.tmp 4) = (.pointer (some ⟨p4, 0, none⟩)) := (hout 4 (by kernel_rfl)).trans rfl
              refine ifw_want 11 true 23 rfl rfl e23 ?_
              with_reducible refine shown_q (Value.agg K.toArray) ?qq_4kb3_17 (fun _ _ => ?qr_4kb3_17)
              case qr_4kb3_17 => exact (rfl : (Value.agg K.toArray) = (Value.agg K.toArray))
              with_reducible refine quietAt_load 85 (.tmp 4) ?h0_4kb3_17 p4 0 K (.struct (Tryz.prog.fieldsOf 85)) ?h1_4kb3_17 ?h2_4kb3_17 ?h3_4kb3_17 ?h4_4kb3_17 ?h5_4kb3_17
              case h0_4kb3_17 => rfl
              case h1_4kb3_17 => exact e4
              case h2_4kb3_17 => exact (HC4.out.keep hu).whole
              case h3_4kb3_17 => exact Tryz.under48
              case h4_4kb3_17 => rfl
              case h5_4kb3_17 => exact (by rw [HKL.out]; exact Tryz.size85)
            · intro A u hu hpu hsz hout hdeps
              have e23 : A.eval (.tmp 23) = (.bool true) := by have h := depL hdeps 11 (by kernel_rfl) 23 (by kernel_rfl); exact h
              have e28 : A.eval (.tmp 28) = (.agg KP.toArray) := by have h := depL hdeps 16 (by kernel_rfl) 28 (by kernel_rfl); exact h
              have e29 : A.eval (.tmp 29) = (.agg K.toArray) := by have h := depL hdeps 17 (by kernel_rfl) 29 (by kernel_rfl); exact h
              refine ifw_want 11 true 23 rfl rfl e23 ?_
              with_reducible refine shown_q (Value.bool true) ?qq_4kb3_18 (fun _ _ => ?qr_4kb3_18)
              case qr_4kb3_18 => exact (rfl : (Value.bool true) = (Value.bool true))
              with_reducible refine quietAt_call 31 Tryz.f31 ?h0_4kb3_18 ?h1_4kb3_18 ?h2_4kb3_18 #[.tmp 28, .tmp 29] #[85, 85] ?h3_4kb3_18 (Value.bool true) #[(Value.agg KP.toArray), (Value.agg K.toArray)] ?h4_4kb3_18 ?h5_4kb3_18
              case h0_4kb3_18 => exact Tryz.func31
              case h1_4kb3_18 => kernel_rfl
              case h2_4kb3_18 => kernel_rfl
              case h3_4kb3_18 => rfl
              case h4_4kb3_18 => exact map2 _ _ _ _ _ e28 e29
              case h5_4kb3_18 => exact HMf.out u (gtrans HU4.out hu)
            · intro A u hu hpu hsz hout hdeps
              have e23 : A.eval (.tmp 23) = (.bool true) := by have h := depL hdeps 11 (by kernel_rfl) 23 (by kernel_rfl); exact h
              have e30 : A.eval (.tmp 30) = (.bool true) := by have h := depL hdeps 18 (by kernel_rfl) 30 (by kernel_rfl); exact h
              refine ifw_want 11 true 23 rfl rfl e23 ?_
              with_reducible refine shown_q (Value.bool false) ?qq_4kb3_19 (fun _ _ => ?qr_4kb3_19)
              case qr_4kb3_19 => exact (rfl : (Value.bool false) = (Value.bool false))
              with_reducible refine quietAt_un .not 4 (.tmp 30) (Value.bool true) (Value.bool false) ?h0_4kb3_19 ?h1_4kb3_19 ?h2_4kb3_19
              case h0_4kb3_19 => rfl
              case h1_4kb3_19 => exact e30
              case h2_4kb3_19 => rfl
            · intro A u hu hpu hsz hout hdeps
              have e20 : A.eval (.tmp 20) = (.bool false) := by have h := depL hdeps 8 (by kernel_rfl) 20 (by kernel_rfl); exact h
              have e23 : A.eval (.tmp 23) = (.bool true) := by have h := depL hdeps 11 (by kernel_rfl) 23 (by kernel_rfl); exact h
              have e31 : A.eval (.tmp 31) = (.bool false) := by have h := depL hdeps 19 (by kernel_rfl) 31 (by kernel_rfl); exact h
              refine ifw_want 8 false 20 rfl rfl e20 ?_
              with_reducible refine shown_q (Value.bool false) ?qq_4kb3_20 (fun _ _ => ?qr_4kb3_20)
              case qr_4kb3_20 => exact (rfl : (Value.bool false) = (Value.bool false))
              with_reducible refine quietAt_pick (.tmp 23) (.tmp 31) (.const (.bool false)) true (Value.bool false) ?h0_4kb3_20 ?h1_4kb3_20 ?h2_4kb3_20
              case h0_4kb3_20 => rfl
              case h1_4kb3_20 => exact e23
              case h2_4kb3_20 => rw [if_pos rfl]; exact e31
            · intro A u hu hpu hsz hout hdeps
              have e20 : A.eval (.tmp 20) = (.bool false) := by have h := depL hdeps 8 (by kernel_rfl) 20 (by kernel_rfl); exact h
              have e32 : A.eval (.tmp 32) = (.bool false) := by have h := depL hdeps 20 (by kernel_rfl) 32 (by kernel_rfl); exact h
              refine ifw_none rfl ?_
              with_reducible refine shown_q (Value.bool false) ?qq_4kb3_21 (fun _ _ => ?qr_4kb3_21)
              case qr_4kb3_21 => exact (rfl : (Value.bool false) = (Value.bool false))
              with_reducible refine quietAt_pick (.tmp 20) (.const (.bool true)) (.tmp 32) false (Value.bool false) ?h0_4kb3_21 ?h1_4kb3_21 ?h2_4kb3_21
              case h0_4kb3_21 => rfl
              case h1_4kb3_21 => exact e20
              case h2_4kb3_21 => rw [if_neg (by decide)]; exact e32
            · intro A u8 listed hh hall
              have hA := hh.frame
              have HU := hid hh.grown
              obtain ⟨x12, hx12⟩ : ∃ x, A.eval (.tmp 12) = x := ⟨_, rfl⟩
              have f12 : (fun v _ => v = (Value.pointer (some ⟨p4, 0, none⟩))) x12 u8 := by rw [← hx12]; exact hh.got 0 _ 12 rfl rfl (hall 0 (by decide))
              obtain ⟨x13, hx13⟩ : ∃ x, A.eval (.tmp 13) = x := ⟨_, rfl⟩
              have f13 : (fun v _ => v = (Value.bool false)) x13 u8 := by rw [← hx13]; exact hh.got 1 _ 13 rfl rfl (hall 1 (by decide))
              obtain ⟨x14, hx14⟩ : ∃ x, A.eval (.tmp 14) = x := ⟨_, rfl⟩
              have f14 : (fun v _ => v = (Value.bool false)) x14 u8 := by rw [← hx14]; exact hh.got 2 _ 14 rfl rfl (hall 2 (by decide))
              obtain ⟨x15, hx15⟩ : ∃ x, A.eval (.tmp 15) = x := ⟨_, rfl⟩
              have f15 : (fun v _ => v = undef) x15 u8 := by rw [← hx15]; exact hh.got 3 _ 15 rfl rfl (hall 3 (by decide))
              obtain ⟨x16, hx16⟩ : ∃ x, A.eval (.tmp 16) = x := ⟨_, rfl⟩
              have f16 : (fun v _ => v = undef) x16 u8 := by rw [← hx16]; exact hh.got 4 _ 16 rfl rfl (hall 4 (by decide))
              obtain ⟨x17, hx17⟩ : ∃ x, A.eval (.tmp 17) = x := ⟨_, rfl⟩
              have f17 : (fun v _ => v = undef) x17 u8 := by rw [← hx17]; exact hh.got 5 _ 17 rfl rfl (hall 5 (by decide))
              obtain ⟨x18, hx18⟩ : ∃ x, A.eval (.tmp 18) = x := ⟨_, rfl⟩
              have f18 : (fun v _ => v = undef) x18 u8 := by rw [← hx18]; exact hh.got 6 _ 18 rfl rfl (hall 6 (by decide))
              obtain ⟨x19, hx19⟩ : ∃ x, A.eval (.tmp 19) = x := ⟨_, rfl⟩
              have f19 : (fun v _ => v = (Value.bool false)) x19 u8 := by rw [← hx19]; exact hh.got 7 _ 19 rfl rfl (hall 7 (by decide))
              obtain ⟨x20, hx20⟩ : ∃ x, A.eval (.tmp 20) = x := ⟨_, rfl⟩
              have f20 : (fun v _ => v = (Value.bool false)) x20 u8 := by rw [← hx20]; exact hh.got 8 _ 20 rfl rfl (hall 8 (by decide))
              obtain ⟨x21, hx21⟩ : ∃ x, A.eval (.tmp 21) = x := ⟨_, rfl⟩
              have f21 : (fun v _ => v = (Value.int .i64 ((j + 1) : Nat))) x21 u8 := by rw [← hx21]; exact hh.got 9 _ 21 rfl rfl (hall 9 (by decide))
              obtain ⟨x22, hx22⟩ : ∃ x, A.eval (.tmp 22) = x := ⟨_, rfl⟩
              have f22 : (fun v _ => v = (Value.bool true)) x22 u8 := by rw [← hx22]; exact hh.got 10 _ 22 rfl rfl (hall 10 (by decide))
              obtain ⟨x23, hx23⟩ : ∃ x, A.eval (.tmp 23) = x := ⟨_, rfl⟩
              have f23 : (fun v _ => v = (Value.bool true)) x23 u8 := by rw [← hx23]; exact hh.got 11 _ 23 rfl rfl (hall 11 (by decide))
              obtain ⟨x24, hx24⟩ : ∃ x, A.eval (.tmp 24) = x := ⟨_, rfl⟩
              have f24 : (fun v _ => v = (Value.slice (some ⟨b, off, none⟩) n c)) x24 u8 := by rw [← hx24]; exact hh.got 12 _ 24 rfl rfl (hall 12 (by decide))
              obtain ⟨x25, hx25⟩ : ∃ x, A.eval (.tmp 25) = x := ⟨_, rfl⟩
              have f25 : (fun v _ => v = (Value.int .i64 ((j + 1) : Nat))) x25 u8 := by rw [← hx25]; exact hh.got 13 _ 25 rfl rfl (hall 13 (by decide))
              obtain ⟨x26, hx26⟩ : ∃ x, A.eval (.tmp 26) = x := ⟨_, rfl⟩
              have f26 : (fun v _ => v = (Value.int .i64 (j : Nat))) x26 u8 := by rw [← hx26]; exact hh.got 14 _ 26 rfl rfl (hall 14 (by decide))
              obtain ⟨x27, hx27⟩ : ∃ x, A.eval (.tmp 27) = x := ⟨_, rfl⟩
              have f27 : (fun v _ => v = (Value.pointer (some ⟨b, off + j * 19, none⟩))) x27 u8 := by rw [← hx27]; exact hh.got 15 _ 27 rfl rfl (hall 15 (by decide))
              obtain ⟨x28, hx28⟩ : ∃ x, A.eval (.tmp 28) = x := ⟨_, rfl⟩
              have f28 : (fun v _ => v = (Value.agg KP.toArray)) x28 u8 := by rw [← hx28]; exact hh.got 16 _ 28 rfl rfl (hall 16 (by decide))
              obtain ⟨x29, hx29⟩ : ∃ x, A.eval (.tmp 29) = x := ⟨_, rfl⟩
              have f29 : (fun v _ => v = (Value.agg K.toArray)) x29 u8 := by rw [← hx29]; exact hh.got 17 _ 29 rfl rfl (hall 17 (by decide))
              obtain ⟨x30, hx30⟩ : ∃ x, A.eval (.tmp 30) = x := ⟨_, rfl⟩
              have f30 : (fun v _ => v = (Value.bool true)) x30 u8 := by rw [← hx30]; exact hh.got 18 _ 30 rfl rfl (hall 18 (by decide))
              obtain ⟨x31, hx31⟩ : ∃ x, A.eval (.tmp 31) = x := ⟨_, rfl⟩
              have f31 : (fun v _ => v = (Value.bool false)) x31 u8 := by rw [← hx31]; exact hh.got 19 _ 31 rfl rfl (hall 19 (by decide))
              obtain ⟨x32, hx32⟩ : ∃ x, A.eval (.tmp 32) = x := ⟨_, rfl⟩
              have f32 : (fun v _ => v = (Value.bool false)) x32 u8 := by rw [← hx32]; exact hh.got 20 _ 32 rfl rfl (hall 20 (by decide))
              obtain ⟨x33, hx33⟩ : ∃ x, A.eval (.tmp 33) = x := ⟨_, rfl⟩
              have f33 : (fun v _ => v = (Value.bool false)) x33 u8 := by rw [← hx33]; exact hh.got 21 _ 33 rfl rfl (hall 21 (by decide))
              dsimp only [wrote, List.foldl] at hA
              rw [hx12, hx13, hx14, hx15, hx16, hx17, hx18, hx19, hx20, hx21, hx22, hx23, hx24, hx25, hx26, hx27, hx28, hx29, hx30, hx31, hx32, hx33] at hA
              clear hh hall hx12 hx13 hx14 hx15 hx16 hx17 hx18 hx19 hx20 hx21 hx22 hx23 hx24 hx25 hx26 hx27 hx28 hx29 hx30 hx31 hx32 hx33
              replace f12 := (f12 : x12 = (.pointer (some ⟨p4, 0, none⟩)))
              subst f12
              replace f13 := (f13 : x13 = (.bool false))
              subst f13
              replace f14 := (f14 : x14 = (.bool false))
              subst f14
              replace f15 := (f15 : x15 = undef)
              subst f15
              replace f16 := (f16 : x16 = undef)
              subst f16
              replace f17 := (f17 : x17 = undef)
              subst f17
              replace f18 := (f18 : x18 = undef)
              subst f18
              replace f19 := (f19 : x19 = (.bool false))
              subst f19
              replace f20 := (f20 : x20 = (.bool false))
              subst f20
              replace f21 := (f21 : x21 = (.int .i64 ((j + 1) : Nat)))
              subst f21
              replace f22 := (f22 : x22 = (.bool true))
              subst f22
              replace f23 := (f23 : x23 = (.bool true))
              subst f23
              replace f24 := (f24 : x24 = (.slice (some ⟨b, off, none⟩) n c))
              subst f24
              replace f25 := (f25 : x25 = (.int .i64 ((j + 1) : Nat)))
              subst f25
              replace f26 := (f26 : x26 = (.int .i64 (j : Nat)))
              subst f26
              replace f27 := (f27 : x27 = (.pointer (some ⟨b, off + j * 19, none⟩)))
              subst f27
              replace f28 := (f28 : x28 = (.agg KP.toArray))
              subst f28
              replace f29 := (f29 : x29 = (.agg K.toArray))
              subst f29
              replace f30 := (f30 : x30 = (.bool true))
              subst f30
              replace f31 := (f31 : x31 = (.bool false))
              subst f31
              replace f32 := (f32 : x32 = (.bool false))
              subst f32
              replace f33 := (f33 : x33 = (.bool false))
              subst f33
              subst hA
              show wpList _ _ _ [] _ _
              unfold wpList
              simp only [Act.put, List.setIfInBounds_toArray, List.set_cons_succ, List.set_cons_zero]
              have HUz := hid (gtrans HU4.out HU.out)
              go_wp2_with fail
              go_roundw
              case rel => exact ⟨(j + 1 + 1), by go_num, by omega, HRt, HUz⟩
              case measure => simp [intOf]; omega
          | false =>
            as_aux_lemma =>
            have HRf : Hid (R = false) := hid (by rw [HRg.out, HSt.out]; first | rfl | (cases ez <;> rfl))
            clear HRg HSt
            go_upto_region 4 with (first
              | ((with_reducible refine wpList_store_all (by with_unfolding_all rfl) 85 _ _ (by with_unfolding_all rfl) _ zky.cells K 85 (by with_unfolding_all rfl) (by with_unfolding_all rfl) HB3.out (by rw [HKL.out]; with_unfolding_all rfl) (by rw [HKL.out]; exact Tryz.size85) HK1.out ?_); intro w4 BB gg ss; have HC4 := hid BB; have HU4 := hid (gtrans HG.out (HG3.out.andThen gg (fun j hj => .inl (by injection hj with hj; omega)))); clear BB gg ss)
              | ((with_reducible refine wpList_alloc_row (by with_unfolding_all rfl) 85 (by with_unfolding_all rfl) zky.cells Tryz.zero85 ?_); intro w3 BB ss gg; have HB3 := hid BB; have HG3 := hid gg; clear BB ss gg)
              | (with_reducible refine wpList_load_part (by with_unfolding_all rfl) 85 _ (by with_unfolding_all rfl) b (off + (j + 1) * 19) K _ (by with_unfolding_all rfl) HRr.out Tryz.underlying85 (by with_unfolding_all rfl) (by rw [HKL.out]; exact Tryz.size85) ?_))
            obtain ⟨p4, hp4⟩ : ∃ x, wr.heap.size = x := ⟨_, rfl⟩
            rw [hp4] at HC4 HJr
            simp only [hp4]
            clear hp4 HB3 HG3
            refine wp_region_listX (by kernel_rfl) [fun v _ => v = (Value.pointer (some ⟨p4, 0, none⟩)), fun v _ => v = (Value.bool false), fun v _ => v = (Value.bool false), fun v _ => v = undef, fun v _ => v = undef, fun v _ => v = undef, fun v _ => v = undef, fun v _ => v = (Value.bool false), fun v _ => v = (Value.bool false), fun v _ => v = (Value.int .i64 ((j + 1) : Nat)), fun v _ => v = (Value.bool true), fun v _ => v = (Value.bool true), fun v _ => v = (Value.slice (some ⟨b, off, none⟩) n c), fun v _ => v = (Value.int .i64 ((j + 1) : Nat)), fun v _ => v = (Value.int .i64 (j : Nat)), fun v _ => v = (Value.pointer (some ⟨b, off + j * 19, none⟩)), fun v _ => v = (Value.agg KP.toArray), fun v _ => v = (Value.agg K.toArray), fun v _ => v = (Value.bool false), fun v _ => v = (Value.bool true), fun v _ => v = (Value.bool true), fun v _ => v = (Value.bool true)] (none) (fun _ => none) 22 (by kernel_rfl) (by kernel_rfl) (by kernel_rfl) (by kernel_rfl) (by decide) noRow_one (fun _ => .inl rfl) ⟨fun i v u u' hki h hg => h, fun i v u u' hki h hg => h, fun i v u u' hki h hg => h, fun i v u u' hki h hg => h, fun i v u u' hki h hg => h, fun i v u u' hki h hg => h, fun i v u u' hki h hg => h, fun i v u u' hki h hg => h, fun i v u u' hki h hg => h, fun i v u u' hki h hg => h, fun i v u u' hki h hg => h, fun i v u u' hki h hg => h, fun i v u u' hki h hg => h, fun i v u u' hki h hg => h, fun i v u u' hki h hg => h, fun i v u u' hki h hg => h, fun i v u u' hki h hg => h, fun i v u u' hki h hg => h, fun i v u u' hki h hg => h, fun i v u u' hki h hg => h, fun i v u u' hki h hg => h, fun i v u u' hki h hg => h, trivial⟩ ⟨?_, ?_, ?_, ?_, ?_, ?_, ?_, ?_, ?_, ?_, ?_, ?_, ?_, ?_, ?_, ?_, ?_, ?_, ?_, ?_, ?_, ?_, trivial⟩ ?_
            · intro A u hu hpu hsz hout hdeps
              have e4 : A.eval (.tmp 4) = (.pointer (some ⟨p4, 0, none⟩)) := (hout 4 (by kernel_rfl)).trans rfl
              refine ifw_none rfl ?_
              with_reducible refine shown_q (Value.pointer (some ⟨p4, 0, none⟩)) ?qq_5kb4_0 (fun _ _ => ?qr_5kb4_0)
              case qr_5kb4_0 => exact (rfl : (Value.pointer (some ⟨p4, 0, none⟩)) = (Value.pointer (some ⟨p4, 0, none⟩)))
              with_reducible refine quietAt_field 85 (.tmp 4) 0 ?h0_5kb4_0 ⟨p4, 0, none⟩ ⟨p4, 0, none⟩ ?h1_5kb4_0 ?h2_5kb4_0
              case h0_5kb4_0 => rfl
              case h1_5kb4_0 => exact e4
              case h2_5kb4_0 => kernel_rfl
            · intro A u hu hpu hsz hout hdeps
              have e12 : A.eval (.tmp 12) = (.pointer (some ⟨p4, 0, none⟩)) := by have h := depL hdeps 0 (by kernel_rfl) 12 (by kernel_rfl); exact h
              refine ifw_none rfl ?_
              with_reducible refine shown_q (Value.bool false) ?qq_5kb4_1 (fun _ _ => ?qr_5kb4_1)
              case qr_5kb4_1 => exact (rfl : (Value.bool false) = (Value.bool false))
              with_reducible refine quietAt_ld 4 (.tmp 12) (Value.pointer (some ⟨p4, 0, none⟩)) (Value.bool false) ?h0_5kb4_1 ?h1_5kb4_1 ?h2_5kb4_1
              case h0_5kb4_1 => rfl
              case h1_5kb4_1 => exact e12
              case h2_5kb4_1 => exact ld4 p4 0 false u (HC4.out.keep hu |>.cell0 HK0)
            · intro A u hu hpu hsz hout hdeps
              have e13 : A.eval (.tmp 13) = (.bool false) := by have h := depL hdeps 1 (by kernel_rfl) 13 (by kernel_rfl); exact h
              refine ifw_none rfl ?_
              with_reducible refine shown_q (Value.bool false) ?qq_5kb4_2 (fun _ _ => ?qr_5kb4_2)
              case qr_5kb4_2 => exact (rfl : (Value.bool false) = (Value.bool false))
              with_reducible refine quietAt_mv (.tmp 13) (Value.bool false) ?h0_5kb4_2 ?h1_5kb4_2
              case h0_5kb4_2 => rfl
              case h1_5kb4_2 => exact e13
            · intro A u hu hpu hsz hout hdeps
              have e14 : A.eval (.tmp 14) = (.bool false) := by have h := depL hdeps 2 (by kernel_rfl) 14 (by kernel_rfl); exact h
              refine ifw_pass 2 true false 14 rfl rfl e14 (by decide) ?_
              exact rfl
            · intro A u hu hpu hsz hout hdeps
              have e14 : A.eval (.tmp 14) = (.bool false) := by have h := depL hdeps 2 (by kernel_rfl) 14 (by kernel_rfl); exact h
              refine ifw_pass 2 true false 14 rfl rfl e14 (by decide) ?_
              exact rfl
            · intro A u hu hpu hsz hout hdeps
              have e14 : A.eval (.tmp 14) = (.bool false) := by have h := depL hdeps 2 (by kernel_rfl) 14 (by kernel_rfl); exact h
              refine ifw_pass 2 true false 14 rfl rfl e14 (by decide) ?_
              exact rfl
            · intro A u hu hpu hsz hout hdeps
              have e14 : A.eval (.tmp 14) = (.bool false) := by have h := depL hdeps 2 (by kernel_rfl) 14 (by kernel_rfl); exact h
              refine ifw_pass 2 true false 14 rfl rfl e14 (by decide) ?_
              exact rfl
            · intro A u hu hpu hsz hout hdeps
              have e14 : A.eval (.tmp 14) = (.bool false) := by have h := depL hdeps 2 (by kernel_rfl) 14 (by kernel_rfl); exact h
              refine ifw_none rfl ?_
              with_reducible refine shown_q (Value.bool false) ?qq_5kb4_7 (fun _ _ => ?qr_5kb4_7)
              case qr_5kb4_7 => exact (rfl : (Value.bool false) = (Value.bool false))
              with_reducible refine quietAt_pick (.tmp 14) (.tmp 18) (.const (.bool false)) false (Value.bool false) ?h0_5kb4_7 ?h1_5kb4_7 ?h2_5kb4_7
              case h0_5kb4_7 => rfl
              case h1_5kb4_7 => exact e14
              case h2_5kb4_7 => rw [if_neg (by decide)]; exact rfl
            · intro A u hu hpu hsz hout hdeps
              have e19 : A.eval (.tmp 19) = (.bool false) := by have h := depL hdeps 7 (by kernel_rfl) 19 (by kernel_rfl); exact h
              refine ifw_none rfl ?_
              with_reducible refine shown_q (Value.bool false) ?qq_5kb4_8 (fun _ _ => ?qr_5kb4_8)
              case qr_5kb4_8 => exact (rfl : (Value.bool false) = (Value.bool false))
              with_reducible refine quietAt_mv (.tmp 19) (Value.bool false) ?h0_5kb4_8 ?h1_5kb4_8
              case h0_5kb4_8 => rfl
              case h1_5kb4_8 => exact e19
            · intro A u hu hpu hsz hout hdeps
              have e20 : A.eval (.tmp 20) = (.bool false) := by have h := depL hdeps 8 (by kernel_rfl) 20 (by kernel_rfl); exact h
              have e3 : A.eval (.tmp 3) = (.int .i64 ((j + 1) : Nat)) := (hout 3 (by kernel_rfl)).trans rfl
              refine ifw_want 8 false 20 rfl rfl e20 ?_
              with_reducible refine shown_q (Value.int .i64 ((j + 1) : Nat)) ?qq_5kb4_9 (fun _ _ => ?qr_5kb4_9)
              case qr_5kb4_9 => exact (rfl : (Value.int .i64 ((j + 1) : Nat)) = (Value.int .i64 ((j + 1) : Nat)))
              with_reducible refine quietAt_mv (.tmp 3) (Value.int .i64 ((j + 1) : Nat)) ?h0_5kb4_9 ?h1_5kb4_9
              case h0_5kb4_9 => rfl
              case h1_5kb4_9 => exact e3
            · intro A u hu hpu hsz hout hdeps
              have e20 : A.eval (.tmp 20) = (.bool false) := by have h := depL hdeps 8 (by kernel_rfl) 20 (by kernel_rfl); exact h
              have e21 : A.eval (.tmp 21) = (.int .i64 ((j + 1) : Nat)) := by have h := depL hdeps 9 (by kernel_rfl) 21 (by kernel_rfl); exact h
              refine ifw_want 8 false 20 rfl rfl e20 ?_
              with_reducible refine shown_q (Value.bool true) ?qq_5kb4_10 (fun _ _ => ?qr_5kb4_10)
              case qr_5kb4_10 => exact (rfl : (Value.bool true) = (Value.bool true))
              with_reducible refine quietAt_bin .gtr 3 (.tmp 21) (.const (.int .i64 0)) 3 (Value.int .i64 ((j + 1) : Nat)) (Value.int .i64 0) (Value.bool true) ?h0_5kb4_10 ?h1_5kb4_10 ?h2_5kb4_10 ?h3_5kb4_10
              case h0_5kb4_10 => rfl
              case h1_5kb4_10 => exact e21
              case h2_5kb4_10 => exact rfl
              case h3_5kb4_10 => exact (gtj j u HJ0.out)
            · intro A u hu hpu hsz hout hdeps
              have e20 : A.eval (.tmp 20) = (.bool false) := by have h := depL hdeps 8 (by kernel_rfl) 20 (by kernel_rfl); exact h
              have e22 : A.eval (.tmp 22) = (.bool true) := by have h := depL hdeps 10 (by kernel_rfl) 22 (by kernel_rfl); exact h
              refine ifw_want 8 false 20 rfl rfl e20 ?_
              with_reducible refine shown_q (Value.bool true) ?qq_5kb4_11 (fun _ _ => ?qr_5kb4_11)
              case qr_5kb4_11 => exact (rfl : (Value.bool true) = (Value.bool true))
              with_reducible refine quietAt_mv (.tmp 22) (Value.bool true) ?h0_5kb4_11 ?h1_5kb4_11
              case h0_5kb4_11 => rfl
              case h1_5kb4_11 => exact e22
            · intro A u hu hpu hsz hout hdeps
              have e23 : A.eval (.tmp 23) = (.bool true) := by have h := depL hdeps 11 (by kernel_rfl) 23 (by kernel_rfl); exact h
              have e0 : A.eval (.tmp 0) = (.slice (some ⟨b, off, none⟩) n c) := (hout 0 (by kernel_rfl)).trans rfl
              refine ifw_want 11 true 23 rfl rfl e23 ?_
              with_reducible refine shown_q (Value.slice (some ⟨b, off, none⟩) n c) ?qq_5kb4_12 (fun _ _ => ?qr_5kb4_12)
              case qr_5kb4_12 => exact (rfl : (Value.slice (some ⟨b, off, none⟩) n c) = (Value.slice (some ⟨b, off, none⟩) n c))
              with_reducible refine quietAt_mv (.tmp 0) (Value.slice (some ⟨b, off, none⟩) n c) ?h0_5kb4_12 ?h1_5kb4_12
              case h0_5kb4_12 => rfl
              case h1_5kb4_12 => exact e0
            · intro A u hu hpu hsz hout hdeps
              have e23 : A.eval (.tmp 23) = (.bool true) := by have h := depL hdeps 11 (by kernel_rfl) 23 (by kernel_rfl); exact h
              have e3 : A.eval (.tmp 3) = (.int .i64 ((j + 1) : Nat)) := (hout 3 (by kernel_rfl)).trans rfl
              refine ifw_want 11 true 23 rfl rfl e23 ?_
              with_reducible refine shown_q (Value.int .i64 ((j + 1) : Nat)) ?qq_5kb4_13 (fun _ _ => ?qr_5kb4_13)
              case qr_5kb4_13 => exact (rfl : (Value.int .i64 ((j + 1) : Nat)) = (Value.int .i64 ((j + 1) : Nat)))
              with_reducible refine quietAt_mv (.tmp 3) (Value.int .i64 ((j + 1) : Nat)) ?h0_5kb4_13 ?h1_5kb4_13
              case h0_5kb4_13 => rfl
              case h1_5kb4_13 => exact e3
            · intro A u hu hpu hsz hout hdeps
              have e23 : A.eval (.tmp 23) = (.bool true) := by have h := depL hdeps 11 (by kernel_rfl) 23 (by kernel_rfl); exact h
              have e25 : A.eval (.tmp 25) = (.int .i64 ((j + 1) : Nat)) := by have h := depL hdeps 13 (by kernel_rfl) 25 (by kernel_rfl); exact h
              refine ifw_want 11 true 23 rfl rfl e23 ?_
              with_reducible refine shown_q (Value.int .i64 (j : Nat)) ?qq_5kb4_14 (fun _ _ => ?qr_5kb4_14)
              case qr_5kb4_14 => exact (rfl : (Value.int .i64 (j : Nat)) = (Value.int .i64 (j : Nat)))
              with_reducible refine quietAt_bin .sub 3 (.tmp 25) (.const (.int .i64 1)) 3 (Value.int .i64 ((j + 1) : Nat)) (Value.int .i64 1) (Value.int .i64 (j : Nat)) ?h0_5kb4_14 ?h1_5kb4_14 ?h2_5kb4_14 ?h3_5kb4_14
              case h0_5kb4_14 => rfl
              case h1_5kb4_14 => exact e25
              case h2_5kb4_14 => exact rfl
              case h3_5kb4_14 => exact (subj j u HJ0.out)
            · intro A u hu hpu hsz hout hdeps
              have e23 : A.eval (.tmp 23) = (.bool true) := by have h := depL hdeps 11 (by kernel_rfl) 23 (by kernel_rfl); exact h
              have e24 : A.eval (.tmp 24) = (.slice (some ⟨b, off, none⟩) n c) := by have h := depL hdeps 12 (by kernel_rfl) 24 (by kernel_rfl); exact h
              have e26 : A.eval (.tmp 26) = (.int .i64 (j : Nat)) := by have h := depL hdeps 14 (by kernel_rfl) 26 (by kernel_rfl); exact h
              refine ifw_want 11 true 23 rfl rfl e23 ?_
              with_reducible refine shown_q (Value.pointer (some ⟨b, off + j * 19, none⟩)) ?qq_5kb4_15 (fun _ _ => ?qr_5kb4_15)
              case qr_5kb4_15 => exact (rfl : (Value.pointer (some ⟨b, off + j * 19, none⟩)) = (Value.pointer (some ⟨b, off + j * 19, none⟩)))
              with_reducible refine quietAt_idx 57 (.tmp 24) (.tmp 26) (Value.slice (some ⟨b, off, none⟩) n c) (Value.int .i64 (j : Nat)) (Value.pointer (some ⟨b, off + j * 19, none⟩)) ?h0_5kb4_15 ?h1_5kb4_15 ?h2_5kb4_15 ?h3_5kb4_15
              case h0_5kb4_15 => rfl
              case h1_5kb4_15 => exact e24
              case h2_5kb4_15 => exact e26
              case h3_5kb4_15 => exact (idx23 b off n c j HJn.out u)
            · intro A u hu hpu hsz hout hdeps
              have e23 : A.eval (.tmp 23) = (.bool true) := by have h := depL hdeps 11 (by kernel_rfl) 23 (by kernel_rfl); exact h
              have e27 : A.eval (.tmp 27) = (.pointer (some ⟨b, off + j * 19, none⟩)) := by have h := depL hdeps 15 (by kernel_rfl) 27 (by kernel_rfl); exact h
              refine ifw_want 11 true 23 rfl rfl e23 ?_
              with_reducible refine shown_q (Value.agg KP.toArray) ?qq_5kb4_16 (fun _ _ => ?qr_5kb4_16)
              case qr_5kb4_16 => exact (rfl : (Value.agg KP.toArray) = (Value.agg KP.toArray))
              with_reducible refine quietAt_load 85 (.tmp 27) ?h0_5kb4_16 b (off + j * 19) KP (.struct (Tryz.prog.fieldsOf 85)) ?h1_5kb4_16 ?h2_5kb4_16 ?h3_5kb4_16 ?h4_5kb4_16 ?h5_5kb4_16
              case h0_5kb4_16 => rfl
              case h1_5kb4_16 => exact e27
              case h2_5kb4_16 => exact (HPr.out u (gtrans HU4.out hu))
              case h3_5kb4_16 => exact Tryz.under48
              case h4_5kb4_16 => rfl
              case h5_5kb4_16 => exact (by rw [HPL.out]; exact Tryz.size85)
            · intro A u hu hpu hsz hout hdeps
              have e23 : A.eval (.tmp 23) = (.bool true) := by have h := depL hdeps 11 (by kernel_rfl) 23 (by kernel_rfl); exact h
              have e4 : A.eval (.tmp 4) = (.pointer (some ⟨p4, 0, none⟩)) := (hout 4 (by kernel_rfl)).trans rfl
              refine ifw_want 11 true 23 rfl rfl e23 ?_
              with_reducible refine shown_q (Value.agg K.toArray) ?qq_5kb4_17 (fun _ _ => ?qr_5kb4_17)
              case qr_5kb4_17 => exact (rfl : (Value.agg K.toArray) = (Value.agg K.toArray))
              with_reducible refine quietAt_load 85 (.tmp 4) ?h0_5kb4_17 p4 0 K (.struct (Tryz.prog.fieldsOf 85)) ?h1_5kb4_17 ?h2_5kb4_17 ?h3_5kb4_17 ?h4_5kb4_17 ?h5_5kb4_17
              case h0_5kb4_17 => rfl
              case h1_5kb4_17 => exact e4
              case h2_5kb4_17 => exact (HC4.out.keep hu).whole
              case h3_5kb4_17 => exact Tryz.under48
              case h4_5kb4_17 => rfl
              case h5_5kb4_17 => exact (by rw [HKL.out]; exact Tryz.size85)
            · intro A u hu hpu hsz hout hdeps
              have e23 : A.eval (.tmp 23) = (.bool true) := by have h := depL hdeps 11 (by kernel_rfl) 23 (by kernel_rfl); exact h
              have e28 : A.eval (.tmp 28) = (.agg KP.toArray) := by have h := depL hdeps 16 (by kernel_rfl) 28 (by kernel_rfl); exact h
              have e29 : A.eval (.tmp 29) = (.agg K.toArray) := by have h := depL hdeps 17 (by kernel_rfl) 29 (by kernel_rfl); exact h
              refine ifw_want 11 true 23 rfl rfl e23 ?_
              with_reducible refine shown_q (Value.bool false) ?qq_5kb4_18 (fun _ _ => ?qr_5kb4_18)
              case qr_5kb4_18 => exact (rfl : (Value.bool false) = (Value.bool false))
              with_reducible refine quietAt_call 31 Tryz.f31 ?h0_5kb4_18 ?h1_5kb4_18 ?h2_5kb4_18 #[.tmp 28, .tmp 29] #[85, 85] ?h3_5kb4_18 (Value.bool false) #[(Value.agg KP.toArray), (Value.agg K.toArray)] ?h4_5kb4_18 ?h5_5kb4_18
              case h0_5kb4_18 => exact Tryz.func31
              case h1_5kb4_18 => kernel_rfl
              case h2_5kb4_18 => kernel_rfl
              case h3_5kb4_18 => rfl
              case h4_5kb4_18 => exact map2 _ _ _ _ _ e28 e29
              case h5_5kb4_18 => exact HMf.out u (gtrans HU4.out hu)
            · intro A u hu hpu hsz hout hdeps
              have e23 : A.eval (.tmp 23) = (.bool true) := by have h := depL hdeps 11 (by kernel_rfl) 23 (by kernel_rfl); exact h
              have e30 : A.eval (.tmp 30) = (.bool false) := by have h := depL hdeps 18 (by kernel_rfl) 30 (by kernel_rfl); exact h
              refine ifw_want 11 true 23 rfl rfl e23 ?_
              with_reducible refine shown_q (Value.bool true) ?qq_5kb4_19 (fun _ _ => ?qr_5kb4_19)
              case qr_5kb4_19 => exact (rfl : (Value.bool true) = (Value.bool true))
              with_reducible refine quietAt_un .not 4 (.tmp 30) (Value.bool false) (Value.bool true) ?h0_5kb4_19 ?h1_5kb4_19 ?h2_5kb4_19
              case h0_5kb4_19 => rfl
              case h1_5kb4_19 => exact e30
              case h2_5kb4_19 => rfl
            · intro A u hu hpu hsz hout hdeps
              have e20 : A.eval (.tmp 20) = (.bool false) := by have h := depL hdeps 8 (by kernel_rfl) 20 (by kernel_rfl); exact h
              have e23 : A.eval (.tmp 23) = (.bool true) := by have h := depL hdeps 11 (by kernel_rfl) 23 (by kernel_rfl); exact h
              have e31 : A.eval (.tmp 31) = (.bool true) := by have h := depL hdeps 19 (by kernel_rfl) 31 (by kernel_rfl); exact h
              refine ifw_want 8 false 20 rfl rfl e20 ?_
              with_reducible refine shown_q (Value.bool true) ?qq_5kb4_20 (fun _ _ => ?qr_5kb4_20)
              case qr_5kb4_20 => exact (rfl : (Value.bool true) = (Value.bool true))
              with_reducible refine quietAt_pick (.tmp 23) (.tmp 31) (.const (.bool false)) true (Value.bool true) ?h0_5kb4_20 ?h1_5kb4_20 ?h2_5kb4_20
              case h0_5kb4_20 => rfl
              case h1_5kb4_20 => exact e23
              case h2_5kb4_20 => rw [if_pos rfl]; exact e31
            · intro A u hu hpu hsz hout hdeps
              have e20 : A.eval (.tmp 20) = (.bool false) := by have h := depL hdeps 8 (by kernel_rfl) 20 (by kernel_rfl); exact h
              have e32 : A.eval (.tmp 32) = (.bool true) := by have h := depL hdeps 20 (by kernel_rfl) 32 (by kernel_rfl); exact h
              refine ifw_none rfl ?_
              with_reducible refine shown_q (Value.bool true) ?qq_5kb4_21 (fun _ _ => ?qr_5kb4_21)
              case qr_5kb4_21 => exact (rfl : (Value.bool true) = (Value.bool true))
              with_reducible refine quietAt_pick (.tmp 20) (.const (.bool true)) (.tmp 32) false (Value.bool true) ?h0_5kb4_21 ?h1_5kb4_21 ?h2_5kb4_21
              case h0_5kb4_21 => rfl
              case h1_5kb4_21 => exact e20
              case h2_5kb4_21 => rw [if_neg (by decide)]; exact e32
            · intro A u8 listed hh hall
              have hA := hh.frame
              have HU := hid hh.grown
              obtain ⟨x12, hx12⟩ : ∃ x, A.eval (.tmp 12) = x := ⟨_, rfl⟩
              have f12 : (fun v _ => v = (Value.pointer (some ⟨p4, 0, none⟩))) x12 u8 := by rw [← hx12]; exact hh.got 0 _ 12 rfl rfl (hall 0 (by decide))
              obtain ⟨x13, hx13⟩ : ∃ x, A.eval (.tmp 13) = x := ⟨_, rfl⟩
              have f13 : (fun v _ => v = (Value.bool false)) x13 u8 := by rw [← hx13]; exact hh.got 1 _ 13 rfl rfl (hall 1 (by decide))
              obtain ⟨x14, hx14⟩ : ∃ x, A.eval (.tmp 14) = x := ⟨_, rfl⟩
              have f14 : (fun v _ => v = (Value.bool false)) x14 u8 := by rw [← hx14]; exact hh.got 2 _ 14 rfl rfl (hall 2 (by decide))
              obtain ⟨x15, hx15⟩ : ∃ x, A.eval (.tmp 15) = x := ⟨_, rfl⟩
              have f15 : (fun v _ => v = undef) x15 u8 := by rw [← hx15]; exact hh.got 3 _ 15 rfl rfl (hall 3 (by decide))
              obtain ⟨x16, hx16⟩ : ∃ x, A.eval (.tmp 16) = x := ⟨_, rfl⟩
              have f16 : (fun v _ => v = undef) x16 u8 := by rw [← hx16]; exact hh.got 4 _ 16 rfl rfl (hall 4 (by decide))
              obtain ⟨x17, hx17⟩ : ∃ x, A.eval (.tmp 17) = x := ⟨_, rfl⟩
              have f17 : (fun v _ => v = undef) x17 u8 := by rw [← hx17]; exact hh.got 5 _ 17 rfl rfl (hall 5 (by decide))
              obtain ⟨x18, hx18⟩ : ∃ x, A.eval (.tmp 18) = x := ⟨_, rfl⟩
              have f18 : (fun v _ => v = undef) x18 u8 := by rw [← hx18]; exact hh.got 6 _ 18 rfl rfl (hall 6 (by decide))
              obtain ⟨x19, hx19⟩ : ∃ x, A.eval (.tmp 19) = x := ⟨_, rfl⟩
              have f19 : (fun v _ => v = (Value.bool false)) x19 u8 := by rw [← hx19]; exact hh.got 7 _ 19 rfl rfl (hall 7 (by decide))
              obtain ⟨x20, hx20⟩ : ∃ x, A.eval (.tmp 20) = x := ⟨_, rfl⟩
              have f20 : (fun v _ => v = (Value.bool false)) x20 u8 := by rw [← hx20]; exact hh.got 8 _ 20 rfl rfl (hall 8 (by decide))
              obtain ⟨x21, hx21⟩ : ∃ x, A.eval (.tmp 21) = x := ⟨_, rfl⟩
              have f21 : (fun v _ => v = (Value.int .i64 ((j + 1) : Nat))) x21 u8 := by rw [← hx21]; exact hh.got 9 _ 21 rfl rfl (hall 9 (by decide))
              obtain ⟨x22, hx22⟩ : ∃ x, A.eval (.tmp 22) = x := ⟨_, rfl⟩
              have f22 : (fun v _ => v = (Value.bool true)) x22 u8 := by rw [← hx22]; exact hh.got 10 _ 22 rfl rfl (hall 10 (by decide))
              obtain ⟨x23, hx23⟩ : ∃ x, A.eval (.tmp 23) = x := ⟨_, rfl⟩
              have f23 : (fun v _ => v = (Value.bool true)) x23 u8 := by rw [← hx23]; exact hh.got 11 _ 23 rfl rfl (hall 11 (by decide))
              obtain ⟨x24, hx24⟩ : ∃ x, A.eval (.tmp 24) = x := ⟨_, rfl⟩
              have f24 : (fun v _ => v = (Value.slice (some ⟨b, off, none⟩) n c)) x24 u8 := by rw [← hx24]; exact hh.got 12 _ 24 rfl rfl (hall 12 (by decide))
              obtain ⟨x25, hx25⟩ : ∃ x, A.eval (.tmp 25) = x := ⟨_, rfl⟩
              have f25 : (fun v _ => v = (Value.int .i64 ((j + 1) : Nat))) x25 u8 := by rw [← hx25]; exact hh.got 13 _ 25 rfl rfl (hall 13 (by decide))
              obtain ⟨x26, hx26⟩ : ∃ x, A.eval (.tmp 26) = x := ⟨_, rfl⟩
              have f26 : (fun v _ => v = (Value.int .i64 (j : Nat))) x26 u8 := by rw [← hx26]; exact hh.got 14 _ 26 rfl rfl (hall 14 (by decide))
              obtain ⟨x27, hx27⟩ : ∃ x, A.eval (.tmp 27) = x := ⟨_, rfl⟩
              have f27 : (fun v _ => v = (Value.pointer (some ⟨b, off + j * 19, none⟩))) x27 u8 := by rw [← hx27]; exact hh.got 15 _ 27 rfl rfl (hall 15 (by decide))
              obtain ⟨x28, hx28⟩ : ∃ x, A.eval (.tmp 28) = x := ⟨_, rfl⟩
              have f28 : (fun v _ => v = (Value.agg KP.toArray)) x28 u8 := by rw [← hx28]; exact hh.got 16 _ 28 rfl rfl (hall 16 (by decide))
              obtain ⟨x29, hx29⟩ : ∃ x, A.eval (.tmp 29) = x := ⟨_, rfl⟩
              have f29 : (fun v _ => v = (Value.agg K.toArray)) x29 u8 := by rw [← hx29]; exact hh.got 17 _ 29 rfl rfl (hall 17 (by decide))
              obtain ⟨x30, hx30⟩ : ∃ x, A.eval (.tmp 30) = x := ⟨_, rfl⟩
              have f30 : (fun v _ => v = (Value.bool false)) x30 u8 := by rw [← hx30]; exact hh.got 18 _ 30 rfl rfl (hall 18 (by decide))
              obtain ⟨x31, hx31⟩ : ∃ x, A.eval (.tmp 31) = x := ⟨_, rfl⟩
              have f31 : (fun v _ => v = (Value.bool true)) x31 u8 := by rw [← hx31]; exact hh.got 19 _ 31 rfl rfl (hall 19 (by decide))
              obtain ⟨x32, hx32⟩ : ∃ x, A.eval (.tmp 32) = x := ⟨_, rfl⟩
              have f32 : (fun v _ => v = (Value.bool true)) x32 u8 := by rw [← hx32]; exact hh.got 20 _ 32 rfl rfl (hall 20 (by decide))
              obtain ⟨x33, hx33⟩ : ∃ x, A.eval (.tmp 33) = x := ⟨_, rfl⟩
              have f33 : (fun v _ => v = (Value.bool true)) x33 u8 := by rw [← hx33]; exact hh.got 21 _ 33 rfl rfl (hall 21 (by decide))
              dsimp only [wrote, List.foldl] at hA
              rw [hx12, hx13, hx14, hx15, hx16, hx17, hx18, hx19, hx20, hx21, hx22, hx23, hx24, hx25, hx26, hx27, hx28, hx29, hx30, hx31, hx32, hx33] at hA
              clear hh hall hx12 hx13 hx14 hx15 hx16 hx17 hx18 hx19 hx20 hx21 hx22 hx23 hx24 hx25 hx26 hx27 hx28 hx29 hx30 hx31 hx32 hx33
              replace f12 := (f12 : x12 = (.pointer (some ⟨p4, 0, none⟩)))
              subst f12
              replace f13 := (f13 : x13 = (.bool false))
              subst f13
              replace f14 := (f14 : x14 = (.bool false))
              subst f14
              replace f15 := (f15 : x15 = undef)
              subst f15
              replace f16 := (f16 : x16 = undef)
              subst f16
              replace f17 := (f17 : x17 = undef)
              subst f17
              replace f18 := (f18 : x18 = undef)
              subst f18
              replace f19 := (f19 : x19 = (.bool false))
              subst f19
              replace f20 := (f20 : x20 = (.bool false))
              subst f20
              replace f21 := (f21 : x21 = (.int .i64 ((j + 1) : Nat)))
              subst f21
              replace f22 := (f22 : x22 = (.bool true))
              subst f22
              replace f23 := (f23 : x23 = (.bool true))
              subst f23
              replace f24 := (f24 : x24 = (.slice (some ⟨b, off, none⟩) n c))
              subst f24
              replace f25 := (f25 : x25 = (.int .i64 ((j + 1) : Nat)))
              subst f25
              replace f26 := (f26 : x26 = (.int .i64 (j : Nat)))
              subst f26
              replace f27 := (f27 : x27 = (.pointer (some ⟨b, off + j * 19, none⟩)))
              subst f27
              replace f28 := (f28 : x28 = (.agg KP.toArray))
              subst f28
              replace f29 := (f29 : x29 = (.agg K.toArray))
              subst f29
              replace f30 := (f30 : x30 = (.bool false))
              subst f30
              replace f31 := (f31 : x31 = (.bool true))
              subst f31
              replace f32 := (f32 : x32 = (.bool true))
              subst f32
              replace f33 := (f33 : x33 = (.bool true))
              subst f33
              subst hA
              show wpList _ _ _ [] _ _
              unfold wpList
              simp only [Act.put, List.setIfInBounds_toArray, List.set_cons_succ, List.set_cons_zero]
              have HUz := hid (gtrans HU4.out HU.out)
              go_wp2_with fail
              go_ret
              exact ⟨by rw [← HEE.out, HRf.out]; rfl, HUz.out⟩
        case true =>
          cases ez with
          | true =>
            cases M with
            | true =>
              as_aux_lemma =>
              have HRt : Hid (R = chkR l (j + 1 + 1)) := hid (by rw [HRg.out, HSt.out]; first | rfl | (cases ez <;> rfl))
              clear HRg HSt
              go_upto_region 4 with (first
                | ((with_reducible refine wpList_store_all (by with_unfolding_all rfl) 85 _ _ (by with_unfolding_all rfl) _ zky.cells K 85 (by with_unfolding_all rfl) (by with_unfolding_all rfl) HB3.out (by rw [HKL.out]; with_unfolding_all rfl) (by rw [HKL.out]; exact Tryz.size85) HK1.out ?_); intro w4 BB gg ss; have HC4 := hid BB; have HU4 := hid (gtrans HG.out (HG3.out.andThen gg (fun j hj => .inl (by injection hj with hj; omega)))); clear BB gg ss)
                | ((with_reducible refine wpList_alloc_row (by with_unfolding_all rfl) 85 (by with_unfolding_all rfl) zky.cells Tryz.zero85 ?_); intro w3 BB ss gg; have HB3 := hid BB; have HG3 := hid gg; clear BB ss gg)
                | (with_reducible refine wpList_load_part (by with_unfolding_all rfl) 85 _ (by with_unfolding_all rfl) b (off + (j + 1) * 19) K _ (by with_unfolding_all rfl) HRr.out Tryz.underlying85 (by with_unfolding_all rfl) (by rw [HKL.out]; exact Tryz.size85) ?_))
              obtain ⟨p4, hp4⟩ : ∃ x, wr.heap.size = x := ⟨_, rfl⟩
              rw [hp4] at HC4 HJr
              simp only [hp4]
              clear hp4 HB3 HG3
              refine wp_region_listX (by kernel_rfl) [fun v _ => v = (Value.pointer (some ⟨p4, 0, none⟩)), fun v _ => v = (Value.bool true), fun v _ => v = (Value.bool true), fun v _ => v = (Value.pointer (some ⟨p4, 2, none⟩)), fun v _ => v = (Value.agg J.toArray), fun v _ => v = (Value.agg Z.toArray), fun v _ => v = (Value.bool false), fun v _ => v = (Value.bool false), fun v _ => v = (Value.bool false), fun v _ => v = (Value.int .i64 ((j + 1) : Nat)), fun v _ => v = (Value.bool true), fun v _ => v = (Value.bool true), fun v _ => v = (Value.slice (some ⟨b, off, none⟩) n c), fun v _ => v = (Value.int .i64 ((j + 1) : Nat)), fun v _ => v = (Value.int .i64 (j : Nat)), fun v _ => v = (Value.pointer (some ⟨b, off + j * 19, none⟩)), fun v _ => v = (Value.agg KP.toArray), fun v _ => v = (Value.agg K.toArray), fun v _ => v = (Value.bool true), fun v _ => v = (Value.bool false), fun v _ => v = (Value.bool false), fun v _ => v = (Value.bool false)] (none) (fun _ => none) 22 (by kernel_rfl) (by kernel_rfl) (by kernel_rfl) (by kernel_rfl) (by decide) noRow_one (fun _ => .inl rfl) ⟨fun i v u u' hki h hg => h, fun i v u u' hki h hg => h, fun i v u u' hki h hg => h, fun i v u u' hki h hg => h, fun i v u u' hki h hg => h, fun i v u u' hki h hg => h, fun i v u u' hki h hg => h, fun i v u u' hki h hg => h, fun i v u u' hki h hg => h, fun i v u u' hki h hg => h, fun i v u u' hki h hg => h, fun i v u u' hki h hg => h, fun i v u u' hki h hg => h, fun i v u u' hki h hg => h, fun i v u u' hki h hg => h, fun i v u u' hki h hg => h, fun i v u u' hki h hg => h, fun i v u u' hki h hg => h, fun i v u u' hki h hg => h, fun i v u u' hki h hg => h, fun i v u u' hki h hg => h, fun i v u u' hki h hg => h, trivial⟩ ⟨?_, ?_, ?_, ?_, ?_, ?_, ?_, ?_, ?_, ?_, ?_, ?_, ?_, ?_, ?_, ?_, ?_, ?_, ?_, ?_, ?_, ?_, trivial⟩ ?_
              · intro A u hu hpu hsz hout hdeps
                have e4 : A.eval (.tmp 4) = (.pointer (some ⟨p4, 0, none⟩)) := (hout 4 (by kernel_rfl)).trans rfl
                refine ifw_none rfl ?_
                with_reducible refine shown_q (Value.pointer (some ⟨p4, 0, none⟩)) ?qq_6kb5_0 (fun _ _ => ?qr_6kb5_0)
                case qr_6kb5_0 => exact (rfl : (Value.pointer (some ⟨p4, 0, none⟩)) = (Value.pointer (some ⟨p4, 0, none⟩)))
                with_reducible refine quietAt_field 85 (.tmp 4) 0 ?h0_6kb5_0 ⟨p4, 0, none⟩ ⟨p4, 0, none⟩ ?h1_6kb5_0 ?h2_6kb5_0
                case h0_6kb5_0 => rfl
                case h1_6kb5_0 => exact e4
                case h2_6kb5_0 => kernel_rfl
              · intro A u hu hpu hsz hout hdeps
                have e12 : A.eval (.tmp 12) = (.pointer (some ⟨p4, 0, none⟩)) := by have h := depL hdeps 0 (by kernel_rfl) 12 (by kernel_rfl); exact h
                refine ifw_none rfl ?_
                with_reducible refine shown_q (Value.bool true) ?qq_6kb5_1 (fun _ _ => ?qr_6kb5_1)
                case qr_6kb5_1 => exact (rfl : (Value.bool true) = (Value.bool true))
                with_reducible refine quietAt_ld 4 (.tmp 12) (Value.pointer (some ⟨p4, 0, none⟩)) (Value.bool true) ?h0_6kb5_1 ?h1_6kb5_1 ?h2_6kb5_1
                case h0_6kb5_1 => rfl
                case h1_6kb5_1 => exact e12
                case h2_6kb5_1 => exact ld4 p4 0 true u (HC4.out.keep hu |>.cell0 HK0)
              · intro A u hu hpu hsz hout hdeps
                have e13 : A.eval (.tmp 13) = (.bool true) := by have h := depL hdeps 1 (by kernel_rfl) 13 (by kernel_rfl); exact h
                refine ifw_none rfl ?_
                with_reducible refine shown_q (Value.bool true) ?qq_6kb5_2 (fun _ _ => ?qr_6kb5_2)
                case qr_6kb5_2 => exact (rfl : (Value.bool true) = (Value.bool true))
                with_reducible refine quietAt_mv (.tmp 13) (Value.bool true) ?h0_6kb5_2 ?h1_6kb5_2
                case h0_6kb5_2 => rfl
                case h1_6kb5_2 => exact e13
              · intro A u hu hpu hsz hout hdeps
                have e14 : A.eval (.tmp 14) = (.bool true) := by have h := depL hdeps 2 (by kernel_rfl) 14 (by kernel_rfl); exact h
                have e4 : A.eval (.tmp 4) = (.pointer (some ⟨p4, 0, none⟩)) := (hout 4 (by kernel_rfl)).trans rfl
                refine ifw_want 2 true 14 rfl rfl e14 ?_
                with_reducible refine shown_q (Value.pointer (some ⟨p4, 2, none⟩)) ?qq_6kb5_3 (fun _ _ => ?qr_6kb5_3)
                case qr_6kb5_3 => exact (rfl : (Value.pointer (some ⟨p4, 2, none⟩)) = (Value.pointer (some ⟨p4, 2, none⟩)))
                with_reducible refine quietAt_field 85 (.tmp 4) 2 ?h0_6kb5_3 ⟨p4, 0, none⟩ ⟨p4, 2, none⟩ ?h1_6kb5_3 ?h2_6kb5_3
                case h0_6kb5_3 => rfl
                case h1_6kb5_3 => exact e4
                case h2_6kb5_3 => kernel_rfl
              · intro A u hu hpu hsz hout hdeps
                have e14 : A.eval (.tmp 14) = (.bool true) := by have h := depL hdeps 2 (by kernel_rfl) 14 (by kernel_rfl); exact h
                have e15 : A.eval (.tmp 15) = (.pointer (some ⟨p4, 2, none⟩)) := by have h := depL hdeps 3 (by kernel_rfl) 15 (by kernel_rfl); exact h
                refine ifw_want 2 true 14 rfl rfl e14 ?_
                with_reducible refine shown_q (Value.agg J.toArray) ?qq_6kb5_4 (fun _ _ => ?qr_6kb5_4)
                case qr_6kb5_4 => exact (rfl : (Value.agg J.toArray) = (Value.agg J.toArray))
                with_reducible refine quietAt_load 69 (.tmp 15) ?h0_6kb5_4 p4 2 J (.array 16 5) ?h1_6kb5_4 ?h2_6kb5_4 ?h3_6kb5_4 ?h4_6kb5_4 ?h5_6kb5_4
                case h0_6kb5_4 => rfl
                case h1_6kb5_4 => exact e15
                case h2_6kb5_4 => exact (HJr.out _ (HC4.out.keep hu))
                case h3_6kb5_4 => exact Tryz.underlying69
                case h4_6kb5_4 => rfl
                case h5_6kb5_4 => exact (by rw [HJL.out]; exact Tryz.size69)
              · intro A u hu hpu hsz hout hdeps
                have e14 : A.eval (.tmp 14) = (.bool true) := by have h := depL hdeps 2 (by kernel_rfl) 14 (by kernel_rfl); exact h
                refine ifw_want 2 true 14 rfl rfl e14 ?_
                with_reducible refine shown_q (Value.agg Z.toArray) ?qq_6kb5_5 (fun _ _ => ?qr_6kb5_5)
                case qr_6kb5_5 => exact (rfl : (Value.agg Z.toArray) = (Value.agg Z.toArray))
                with_reducible refine quietAt_build 69 #[] ?h0_6kb5_5 [] ?h1_6kb5_5 Z ?h2_6kb5_5
                case h0_6kb5_5 => rfl
                case h1_6kb5_5 => simp only [List.map_toArray, List.map_nil]
                case h2_6kb5_5 => exact HBz.out
              · intro A u hu hpu hsz hout hdeps
                have e14 : A.eval (.tmp 14) = (.bool true) := by have h := depL hdeps 2 (by kernel_rfl) 14 (by kernel_rfl); exact h
                have e16 : A.eval (.tmp 16) = (.agg J.toArray) := by have h := depL hdeps 4 (by kernel_rfl) 16 (by kernel_rfl); exact h
                have e17 : A.eval (.tmp 17) = (.agg Z.toArray) := by have h := depL hdeps 5 (by kernel_rfl) 17 (by kernel_rfl); exact h
                refine ifw_want 2 true 14 rfl rfl e14 ?_
                with_reducible refine shown_q (Value.bool false) ?qq_6kb5_6 (fun _ _ => ?qr_6kb5_6)
                case qr_6kb5_6 => exact (rfl : (Value.bool false) = (Value.bool false))
                with_reducible refine quietAt_bin .neq 69 (.tmp 16) (.tmp 17) 69 (Value.agg J.toArray) (Value.agg Z.toArray) (Value.bool false) ?h0_6kb5_6 ?h1_6kb5_6 ?h2_6kb5_6 ?h3_6kb5_6
                case h0_6kb5_6 => rfl
                case h1_6kb5_6 => exact e16
                case h2_6kb5_6 => exact e17
                case h3_6kb5_6 => exact HNz.out _ _ u
              · intro A u hu hpu hsz hout hdeps
                have e14 : A.eval (.tmp 14) = (.bool true) := by have h := depL hdeps 2 (by kernel_rfl) 14 (by kernel_rfl); exact h
                have e18 : A.eval (.tmp 18) = (.bool false) := by have h := depL hdeps 6 (by kernel_rfl) 18 (by kernel_rfl); exact h
                refine ifw_none rfl ?_
                with_reducible refine shown_q (Value.bool false) ?qq_6kb5_7 (fun _ _ => ?qr_6kb5_7)
                case qr_6kb5_7 => exact (rfl : (Value.bool false) = (Value.bool false))
                with_reducible refine quietAt_pick (.tmp 14) (.tmp 18) (.const (.bool false)) true (Value.bool false) ?h0_6kb5_7 ?h1_6kb5_7 ?h2_6kb5_7
                case h0_6kb5_7 => rfl
                case h1_6kb5_7 => exact e14
                case h2_6kb5_7 => rw [if_pos rfl]; exact e18
              · intro A u hu hpu hsz hout hdeps
                have e19 : A.eval (.tmp 19) = (.bool false) := by have h := depL hdeps 7 (by kernel_rfl) 19 (by kernel_rfl); exact h
                refine ifw_none rfl ?_
                with_reducible refine shown_q (Value.bool false) ?qq_6kb5_8 (fun _ _ => ?qr_6kb5_8)
                case qr_6kb5_8 => exact (rfl : (Value.bool false) = (Value.bool false))
                with_reducible refine quietAt_mv (.tmp 19) (Value.bool false) ?h0_6kb5_8 ?h1_6kb5_8
                case h0_6kb5_8 => rfl
                case h1_6kb5_8 => exact e19
              · intro A u hu hpu hsz hout hdeps
                have e20 : A.eval (.tmp 20) = (.bool false) := by have h := depL hdeps 8 (by kernel_rfl) 20 (by kernel_rfl); exact h
                have e3 : A.eval (.tmp 3) = (.int .i64 ((j + 1) : Nat)) := (hout 3 (by kernel_rfl)).trans rfl
                refine ifw_want 8 false 20 rfl rfl e20 ?_
                with_reducible refine shown_q (Value.int .i64 ((j + 1) : Nat)) ?qq_6kb5_9 (fun _ _ => ?qr_6kb5_9)
                case qr_6kb5_9 => exact (rfl : (Value.int .i64 ((j + 1) : Nat)) = (Value.int .i64 ((j + 1) : Nat)))
                with_reducible refine quietAt_mv (.tmp 3) (Value.int .i64 ((j + 1) : Nat)) ?h0_6kb5_9 ?h1_6kb5_9
                case h0_6kb5_9 => rfl
                case h1_6kb5_9 => exact e3
              · intro A u hu hpu hsz hout hdeps
                have e20 : A.eval (.tmp 20) = (.bool false) := by have h := depL hdeps 8 (by kernel_rfl) 20 (by kernel_rfl); exact h
                have e21 : A.eval (.tmp 21) = (.int .i64 ((j + 1) : Nat)) := by have h := depL hdeps 9 (by kernel_rfl) 21 (by kernel_rfl); exact h
                refine ifw_want 8 false 20 rfl rfl e20 ?_
                with_reducible refine shown_q (Value.bool true) ?qq_6kb5_10 (fun _ _ => ?qr_6kb5_10)
                case qr_6kb5_10 => exact (rfl : (Value.bool true) = (Value.bool true))
                with_reducible refine quietAt_bin .gtr 3 (.tmp 21) (.const (.int .i64 0)) 3 (Value.int .i64 ((j + 1) : Nat)) (Value.int .i64 0) (Value.bool true) ?h0_6kb5_10 ?h1_6kb5_10 ?h2_6kb5_10 ?h3_6kb5_10
                case h0_6kb5_10 => rfl
                case h1_6kb5_10 => exact e21
                case h2_6kb5_10 => exact rfl
                case h3_6kb5_10 => exact (gtj j u HJ0.out)
              · intro A u hu hpu hsz hout hdeps
                have e20 : A.eval (.tmp 20) = (.bool false) := by have h := depL hdeps 8 (by kernel_rfl) 20 (by kernel_rfl); exact h
                have e22 : A.eval (.tmp 22) = (.bool true) := by have h := depL hdeps 10 (by kernel_rfl) 22 (by kernel_rfl); exact h
                refine ifw_want 8 false 20 rfl rfl e20 ?_
                with_reducible refine shown_q (Value.bool true) ?qq_6kb5_11 (fun _ _ => ?qr_6kb5_11)
                case qr_6kb5_11 => exact (rfl : (Value.bool true) = (Value.bool true))
                with_reducible refine quietAt_mv (.tmp 22) (Value.bool true) ?h0_6kb5_11 ?h1_6kb5_11
                case h0_6kb5_11 => rfl
                case h1_6kb5_11 => exact e22
              · intro A u hu hpu hsz hout hdeps
                have e23 : A.eval (.tmp 23) = (.bool true) := by have h := depL hdeps 11 (by kernel_rfl) 23 (by kernel_rfl); exact h
                have e0 : A.eval (.tmp 0) = (.slice (some ⟨b, off, none⟩) n c) := (hout 0 (by kernel_rfl)).trans rfl
                refine ifw_want 11 true 23 rfl rfl e23 ?_
                with_reducible refine shown_q (Value.slice (some ⟨b, off, none⟩) n c) ?qq_6kb5_12 (fun _ _ => ?qr_6kb5_12)
                case qr_6kb5_12 => exact (rfl : (Value.slice (some ⟨b, off, none⟩) n c) = (Value.slice (some ⟨b, off, none⟩) n c))
                with_reducible refine quietAt_mv (.tmp 0) (Value.slice (some ⟨b, off, none⟩) n c) ?h0_6kb5_12 ?h1_6kb5_12
                case h0_6kb5_12 => rfl
                case h1_6kb5_12 => exact e0
              · intro A u hu hpu hsz hout hdeps
                have e23 : A.eval (.tmp 23) = (.bool true) := by have h := depL hdeps 11 (by kernel_rfl) 23 (by kernel_rfl); exact h
                have e3 : A.eval (.tmp 3) = (.int .i64 ((j + 1) : Nat)) := (hout 3 (by kernel_rfl)).trans rfl
                refine ifw_want 11 true 23 rfl rfl e23 ?_
                with_reducible refine shown_q (Value.int .i64 ((j + 1) : Nat)) ?qq_6kb5_13 (fun _ _ => ?qr_6kb5_13)
                case qr_6kb5_13 => exact (rfl : (Value.int .i64 ((j + 1) : Nat)) = (Value.int .i64 ((j + 1) : Nat)))
                with_reducible refine quietAt_mv (.tmp 3) (Value.int .i64 ((j + 1) : Nat)) ?h0_6kb5_13 ?h1_6kb5_13
                case h0_6kb5_13 => rfl
                case h1_6kb5_13 => exact e3
              · intro A u hu hpu hsz hout hdeps
                have e23 : A.eval (.tmp 23) = (.bool true) := by have h := depL hdeps 11 (by kernel_rfl) 23 (by kernel_rfl); exact h
                have e25 : A.eval (.tmp 25) = (.int .i64 ((j + 1) : Nat)) := by have h := depL hdeps 13 (by kernel_rfl) 25 (by kernel_rfl); exact h
                refine ifw_want 11 true 23 rfl rfl e23 ?_
                with_reducible refine shown_q (Value.int .i64 (j : Nat)) ?qq_6kb5_14 (fun _ _ => ?qr_6kb5_14)
                case qr_6kb5_14 => exact (rfl : (Value.int .i64 (j : Nat)) = (Value.int .i64 (j : Nat)))
                with_reducible refine quietAt_bin .sub 3 (.tmp 25) (.const (.int .i64 1)) 3 (Value.int .i64 ((j + 1) : Nat)) (Value.int .i64 1) (Value.int .i64 (j : Nat)) ?h0_6kb5_14 ?h1_6kb5_14 ?h2_6kb5_14 ?h3_6kb5_14
                case h0_6kb5_14 => rfl
                case h1_6kb5_14 => exact e25
                case h2_6kb5_14 => exact rfl
                case h3_6kb5_14 => exact (subj j u HJ0.out)
              · intro A u hu hpu hsz hout hdeps
                have e23 : A.eval (.tmp 23) = (.bool true) := by have h := depL hdeps 11 (by kernel_rfl) 23 (by kernel_rfl); exact h
                have e24 : A.eval (.tmp 24) = (.slice (some ⟨b, off, none⟩) n c) := by have h := depL hdeps 12 (by kernel_rfl) 24 (by kernel_rfl); exact h
                have e26 : A.eval (.tmp 26) = (.int .i64 (j : Nat)) := by have h := depL hdeps 14 (by kernel_rfl) 26 (by kernel_rfl); exact h
                refine ifw_want 11 true 23 rfl rfl e23 ?_
                with_reducible refine shown_q (Value.pointer (some ⟨b, off + j * 19, none⟩)) ?qq_6kb5_15 (fun _ _ => ?qr_6kb5_15)
                case qr_6kb5_15 => exact (rfl : (Value.pointer (some ⟨b, off + j * 19, none⟩)) = (Value.pointer (some ⟨b, off + j * 19, none⟩)))
                with_reducible refine quietAt_idx 57 (.tmp 24) (.tmp 26) (Value.slice (some ⟨b, off, none⟩) n c) (Value.int .i64 (j : Nat)) (Value.pointer (some ⟨b, off + j * 19, none⟩)) ?h0_6kb5_15 ?h1_6kb5_15 ?h2_6kb5_15 ?h3_6kb5_15
                case h0_6kb5_15 => rfl
                case h1_6kb5_15 => exact e24
                case h2_6kb5_15 => exact e26
                case h3_6kb5_15 => exact (idx23 b off n c j HJn.out u)
              · intro A u hu hpu hsz hout hdeps
                have e23 : A.eval (.tmp 23) = (.bool true) := by have h := depL hdeps 11 (by kernel_rfl) 23 (by kernel_rfl); exact h
                have e27 : A.eval (.tmp 27) = (.pointer (some ⟨b, off + j * 19, none⟩)) := by have h := depL hdeps 15 (by kernel_rfl) 27 (by kernel_rfl); exact h
                refine ifw_want 11 true 23 rfl rfl e23 ?_
                with_reducible refine shown_q (Value.agg KP.toArray) ?qq_6kb5_16 (fun _ _ => ?qr_6kb5_16)
                case qr_6kb5_16 => exact (rfl : (Value.agg KP.toArray) = (Value.agg KP.toArray))
                with_reducible refine quietAt_load 85 (.tmp 27) ?h0_6kb5_16 b (off + j * 19) KP (.struct (Tryz.prog.fieldsOf 85)) ?h1_6kb5_16 ?h2_6kb5_16 ?h3_6kb5_16 ?h4_6kb5_16 ?h5_6kb5_16
                case h0_6kb5_16 => rfl
                case h1_6kb5_16 => exact e27
                case h2_6kb5_16 => exact (HPr.out u (gtrans HU4.out hu))
                case h3_6kb5_16 => exact Tryz.under48
                case h4_6kb5_16 => rfl
                case h5_6kb5_16 => exact (by rw [HPL.out]; exact Tryz.size85)
              · intro A u hu hpu hsz hout hdeps
                have e23 : A.eval (.tmp 23) = (.bool true) := by have h := depL hdeps 11 (by kernel_rfl) 23 (by kernel_rfl); exact h
                have e4 : A.eval (.tmp 4) = (.pointer (some ⟨p4, 0, none⟩)) := (hout 4 (by kernel_rfl)).trans rfl
                refine ifw_want 11 true 23 rfl rfl e23 ?_
                with_reducible refine shown_q (Value.agg K.toArray) ?qq_6kb5_17 (fun _ _ => ?qr_6kb5_17)
                case qr_6kb5_17 => exact (rfl : (Value.agg K.toArray) = (Value.agg K.toArray))
                with_reducible refine quietAt_load 85 (.tmp 4) ?h0_6kb5_17 p4 0 K (.struct (Tryz.prog.fieldsOf 85)) ?h1_6kb5_17 ?h2_6kb5_17 ?h3_6kb5_17 ?h4_6kb5_17 ?h5_6kb5_17
                case h0_6kb5_17 => rfl
                case h1_6kb5_17 => exact e4
                case h2_6kb5_17 => exact (HC4.out.keep hu).whole
                case h3_6kb5_17 => exact Tryz.under48
                case h4_6kb5_17 => rfl
                case h5_6kb5_17 => exact (by rw [HKL.out]; exact Tryz.size85)
              · intro A u hu hpu hsz hout hdeps
                have e23 : A.eval (.tmp 23) = (.bool true) := by have h := depL hdeps 11 (by kernel_rfl) 23 (by kernel_rfl); exact h
                have e28 : A.eval (.tmp 28) = (.agg KP.toArray) := by have h := depL hdeps 16 (by kernel_rfl) 28 (by kernel_rfl); exact h
                have e29 : A.eval (.tmp 29) = (.agg K.toArray) := by have h := depL hdeps 17 (by kernel_rfl) 29 (by kernel_rfl); exact h
                refine ifw_want 11 true 23 rfl rfl e23 ?_
                with_reducible refine shown_q (Value.bool true) ?qq_6kb5_18 (fun _ _ => ?qr_6kb5_18)
                case qr_6kb5_18 => exact (rfl : (Value.bool true) = (Value.bool true))
                with_reducible refine quietAt_call 31 Tryz.f31 ?h0_6kb5_18 ?h1_6kb5_18 ?h2_6kb5_18 #[.tmp 28, .tmp 29] #[85, 85] ?h3_6kb5_18 (Value.bool true) #[(Value.agg KP.toArray), (Value.agg K.toArray)] ?h4_6kb5_18 ?h5_6kb5_18
                case h0_6kb5_18 => exact Tryz.func31
                case h1_6kb5_18 => kernel_rfl
                case h2_6kb5_18 => kernel_rfl
                case h3_6kb5_18 => rfl
                case h4_6kb5_18 => exact map2 _ _ _ _ _ e28 e29
                case h5_6kb5_18 => exact HMf.out u (gtrans HU4.out hu)
              · intro A u hu hpu hsz hout hdeps
                have e23 : A.eval (.tmp 23) = (.bool true) := by have h := depL hdeps 11 (by kernel_rfl) 23 (by kernel_rfl); exact h
                have e30 : A.eval (.tmp 30) = (.bool true) := by have h := depL hdeps 18 (by kernel_rfl) 30 (by kernel_rfl); exact h
                refine ifw_want 11 true 23 rfl rfl e23 ?_
                with_reducible refine shown_q (Value.bool false) ?qq_6kb5_19 (fun _ _ => ?qr_6kb5_19)
                case qr_6kb5_19 => exact (rfl : (Value.bool false) = (Value.bool false))
                with_reducible refine quietAt_un .not 4 (.tmp 30) (Value.bool true) (Value.bool false) ?h0_6kb5_19 ?h1_6kb5_19 ?h2_6kb5_19
                case h0_6kb5_19 => rfl
                case h1_6kb5_19 => exact e30
                case h2_6kb5_19 => rfl
              · intro A u hu hpu hsz hout hdeps
                have e20 : A.eval (.tmp 20) = (.bool false) := by have h := depL hdeps 8 (by kernel_rfl) 20 (by kernel_rfl); exact h
                have e23 : A.eval (.tmp 23) = (.bool true) := by have h := depL hdeps 11 (by kernel_rfl) 23 (by kernel_rfl); exact h
                have e31 : A.eval (.tmp 31) = (.bool false) := by have h := depL hdeps 19 (by kernel_rfl) 31 (by kernel_rfl); exact h
                refine ifw_want 8 false 20 rfl rfl e20 ?_
                with_reducible refine shown_q (Value.bool false) ?qq_6kb5_20 (fun _ _ => ?qr_6kb5_20)
                case qr_6kb5_20 => exact (rfl : (Value.bool false) = (Value.bool false))
                with_reducible refine quietAt_pick (.tmp 23) (.tmp 31) (.const (.bool false)) true (Value.bool false) ?h0_6kb5_20 ?h1_6kb5_20 ?h2_6kb5_20
                case h0_6kb5_20 => rfl
                case h1_6kb5_20 => exact e23
                case h2_6kb5_20 => rw [if_pos rfl]; exact e31
              · intro A u hu hpu hsz hout hdeps
                have e20 : A.eval (.tmp 20) = (.bool false) := by have h := depL hdeps 8 (by kernel_rfl) 20 (by kernel_rfl); exact h
                have e32 : A.eval (.tmp 32) = (.bool false) := by have h := depL hdeps 20 (by kernel_rfl) 32 (by kernel_rfl); exact h
                refine ifw_none rfl ?_
                with_reducible refine shown_q (Value.bool false) ?qq_6kb5_21 (fun _ _ => ?qr_6kb5_21)
                case qr_6kb5_21 => exact (rfl : (Value.bool false) = (Value.bool false))
                with_reducible refine quietAt_pick (.tmp 20) (.const (.bool true)) (.tmp 32) false (Value.bool false) ?h0_6kb5_21 ?h1_6kb5_21 ?h2_6kb5_21
                case h0_6kb5_21 => rfl
                case h1_6kb5_21 => exact e20
                case h2_6kb5_21 => rw [if_neg (by decide)]; exact e32
              · intro A u8 listed hh hall
                have hA := hh.frame
                have HU := hid hh.grown
                obtain ⟨x12, hx12⟩ : ∃ x, A.eval (.tmp 12) = x := ⟨_, rfl⟩
                have f12 : (fun v _ => v = (Value.pointer (some ⟨p4, 0, none⟩))) x12 u8 := by rw [← hx12]; exact hh.got 0 _ 12 rfl rfl (hall 0 (by decide))
                obtain ⟨x13, hx13⟩ : ∃ x, A.eval (.tmp 13) = x := ⟨_, rfl⟩
                have f13 : (fun v _ => v = (Value.bool true)) x13 u8 := by rw [← hx13]; exact hh.got 1 _ 13 rfl rfl (hall 1 (by decide))
                obtain ⟨x14, hx14⟩ : ∃ x, A.eval (.tmp 14) = x := ⟨_, rfl⟩
                have f14 : (fun v _ => v = (Value.bool true)) x14 u8 := by rw [← hx14]; exact hh.got 2 _ 14 rfl rfl (hall 2 (by decide))
                obtain ⟨x15, hx15⟩ : ∃ x, A.eval (.tmp 15) = x := ⟨_, rfl⟩
                have f15 : (fun v _ => v = (Value.pointer (some ⟨p4, 2, none⟩))) x15 u8 := by rw [← hx15]; exact hh.got 3 _ 15 rfl rfl (hall 3 (by decide))
                obtain ⟨x16, hx16⟩ : ∃ x, A.eval (.tmp 16) = x := ⟨_, rfl⟩
                have f16 : (fun v _ => v = (Value.agg J.toArray)) x16 u8 := by rw [← hx16]; exact hh.got 4 _ 16 rfl rfl (hall 4 (by decide))
                obtain ⟨x17, hx17⟩ : ∃ x, A.eval (.tmp 17) = x := ⟨_, rfl⟩
                have f17 : (fun v _ => v = (Value.agg Z.toArray)) x17 u8 := by rw [← hx17]; exact hh.got 5 _ 17 rfl rfl (hall 5 (by decide))
                obtain ⟨x18, hx18⟩ : ∃ x, A.eval (.tmp 18) = x := ⟨_, rfl⟩
                have f18 : (fun v _ => v = (Value.bool false)) x18 u8 := by rw [← hx18]; exact hh.got 6 _ 18 rfl rfl (hall 6 (by decide))
                obtain ⟨x19, hx19⟩ : ∃ x, A.eval (.tmp 19) = x := ⟨_, rfl⟩
                have f19 : (fun v _ => v = (Value.bool false)) x19 u8 := by rw [← hx19]; exact hh.got 7 _ 19 rfl rfl (hall 7 (by decide))
                obtain ⟨x20, hx20⟩ : ∃ x, A.eval (.tmp 20) = x := ⟨_, rfl⟩
                have f20 : (fun v _ => v = (Value.bool false)) x20 u8 := by rw [← hx20]; exact hh.got 8 _ 20 rfl rfl (hall 8 (by decide))
                obtain ⟨x21, hx21⟩ : ∃ x, A.eval (.tmp 21) = x := ⟨_, rfl⟩
                have f21 : (fun v _ => v = (Value.int .i64 ((j + 1) : Nat))) x21 u8 := by rw [← hx21]; exact hh.got 9 _ 21 rfl rfl (hall 9 (by decide))
                obtain ⟨x22, hx22⟩ : ∃ x, A.eval (.tmp 22) = x := ⟨_, rfl⟩
                have f22 : (fun v _ => v = (Value.bool true)) x22 u8 := by rw [← hx22]; exact hh.got 10 _ 22 rfl rfl (hall 10 (by decide))
                obtain ⟨x23, hx23⟩ : ∃ x, A.eval (.tmp 23) = x := ⟨_, rfl⟩
                have f23 : (fun v _ => v = (Value.bool true)) x23 u8 := by rw [← hx23]; exact hh.got 11 _ 23 rfl rfl (hall 11 (by decide))
                obtain ⟨x24, hx24⟩ : ∃ x, A.eval (.tmp 24) = x := ⟨_, rfl⟩
                have f24 : (fun v _ => v = (Value.slice (some ⟨b, off, none⟩) n c)) x24 u8 := by rw [← hx24]; exact hh.got 12 _ 24 rfl rfl (hall 12 (by decide))
                obtain ⟨x25, hx25⟩ : ∃ x, A.eval (.tmp 25) = x := ⟨_, rfl⟩
                have f25 : (fun v _ => v = (Value.int .i64 ((j + 1) : Nat))) x25 u8 := by rw [← hx25]; exact hh.got 13 _ 25 rfl rfl (hall 13 (by decide))
                obtain ⟨x26, hx26⟩ : ∃ x, A.eval (.tmp 26) = x := ⟨_, rfl⟩
                have f26 : (fun v _ => v = (Value.int .i64 (j : Nat))) x26 u8 := by rw [← hx26]; exact hh.got 14 _ 26 rfl rfl (hall 14 (by decide))
                obtain ⟨x27, hx27⟩ : ∃ x, A.eval (.tmp 27) = x := ⟨_, rfl⟩
                have f27 : (fun v _ => v = (Value.pointer (some ⟨b, off + j * 19, none⟩))) x27 u8 := by rw [← hx27]; exact hh.got 15 _ 27 rfl rfl (hall 15 (by decide))
                obtain ⟨x28, hx28⟩ : ∃ x, A.eval (.tmp 28) = x := ⟨_, rfl⟩
                have f28 : (fun v _ => v = (Value.agg KP.toArray)) x28 u8 := by rw [← hx28]; exact hh.got 16 _ 28 rfl rfl (hall 16 (by decide))
                obtain ⟨x29, hx29⟩ : ∃ x, A.eval (.tmp 29) = x := ⟨_, rfl⟩
                have f29 : (fun v _ => v = (Value.agg K.toArray)) x29 u8 := by rw [← hx29]; exact hh.got 17 _ 29 rfl rfl (hall 17 (by decide))
                obtain ⟨x30, hx30⟩ : ∃ x, A.eval (.tmp 30) = x := ⟨_, rfl⟩
                have f30 : (fun v _ => v = (Value.bool true)) x30 u8 := by rw [← hx30]; exact hh.got 18 _ 30 rfl rfl (hall 18 (by decide))
                obtain ⟨x31, hx31⟩ : ∃ x, A.eval (.tmp 31) = x := ⟨_, rfl⟩
                have f31 : (fun v _ => v = (Value.bool false)) x31 u8 := by rw [← hx31]; exact hh.got 19 _ 31 rfl rfl (hall 19 (by decide))
                obtain ⟨x32, hx32⟩ : ∃ x, A.eval (.tmp 32) = x := ⟨_, rfl⟩
                have f32 : (fun v _ => v = (Value.bool false)) x32 u8 := by rw [← hx32]; exact hh.got 20 _ 32 rfl rfl (hall 20 (by decide))
                obtain ⟨x33, hx33⟩ : ∃ x, A.eval (.tmp 33) = x := ⟨_, rfl⟩
                have f33 : (fun v _ => v = (Value.bool false)) x33 u8 := by rw [← hx33]; exact hh.got 21 _ 33 rfl rfl (hall 21 (by decide))
                dsimp only [wrote, List.foldl] at hA
                rw [hx12, hx13, hx14, hx15, hx16, hx17, hx18, hx19, hx20, hx21, hx22, hx23, hx24, hx25, hx26, hx27, hx28, hx29, hx30, hx31, hx32, hx33] at hA
                clear hh hall hx12 hx13 hx14 hx15 hx16 hx17 hx18 hx19 hx20 hx21 hx22 hx23 hx24 hx25 hx26 hx27 hx28 hx29 hx30 hx31 hx32 hx33
                replace f12 := (f12 : x12 = (.pointer (some ⟨p4, 0, none⟩)))
                subst f12
                replace f13 := (f13 : x13 = (.bool true))
                subst f13
                replace f14 := (f14 : x14 = (.bool true))
                subst f14
                replace f15 := (f15 : x15 = (.pointer (some ⟨p4, 2, none⟩)))
                subst f15
                replace f16 := (f16 : x16 = (.agg J.toArray))
                subst f16
                replace f17 := (f17 : x17 = (.agg Z.toArray))
                subst f17
                replace f18 := (f18 : x18 = (.bool false))
                subst f18
                replace f19 := (f19 : x19 = (.bool false))
                subst f19
                replace f20 := (f20 : x20 = (.bool false))
                subst f20
                replace f21 := (f21 : x21 = (.int .i64 ((j + 1) : Nat)))
                subst f21
                replace f22 := (f22 : x22 = (.bool true))
                subst f22
                replace f23 := (f23 : x23 = (.bool true))
                subst f23
                replace f24 := (f24 : x24 = (.slice (some ⟨b, off, none⟩) n c))
                subst f24
                replace f25 := (f25 : x25 = (.int .i64 ((j + 1) : Nat)))
                subst f25
                replace f26 := (f26 : x26 = (.int .i64 (j : Nat)))
                subst f26
                replace f27 := (f27 : x27 = (.pointer (some ⟨b, off + j * 19, none⟩)))
                subst f27
                replace f28 := (f28 : x28 = (.agg KP.toArray))
                subst f28
                replace f29 := (f29 : x29 = (.agg K.toArray))
                subst f29
                replace f30 := (f30 : x30 = (.bool true))
                subst f30
                replace f31 := (f31 : x31 = (.bool false))
                subst f31
                replace f32 := (f32 : x32 = (.bool false))
                subst f32
                replace f33 := (f33 : x33 = (.bool false))
                subst f33
                subst hA
                show wpList _ _ _ [] _ _
                unfold wpList
                simp only [Act.put, List.setIfInBounds_toArray, List.set_cons_succ, List.set_cons_zero]
                have HUz := hid (gtrans HU4.out HU.out)
                go_wp2_with fail
                go_roundw
                case rel => exact ⟨(j + 1 + 1), by go_num, by omega, HRt, HUz⟩
                case measure => simp [intOf]; omega
            | false =>
              as_aux_lemma =>
              have HRf : Hid (R = false) := hid (by rw [HRg.out, HSt.out]; first | rfl | (cases ez <;> rfl))
              clear HRg HSt
              go_upto_region 4 with (first
                | ((with_reducible refine wpList_store_all (by with_unfolding_all rfl) 85 _ _ (by with_unfolding_all rfl) _ zky.cells K 85 (by with_unfolding_all rfl) (by with_unfolding_all rfl) HB3.out (by rw [HKL.out]; with_unfolding_all rfl) (by rw [HKL.out]; exact Tryz.size85) HK1.out ?_); intro w4 BB gg ss; have HC4 := hid BB; have HU4 := hid (gtrans HG.out (HG3.out.andThen gg (fun j hj => .inl (by injection hj with hj; omega)))); clear BB gg ss)
                | ((with_reducible refine wpList_alloc_row (by with_unfolding_all rfl) 85 (by with_unfolding_all rfl) zky.cells Tryz.zero85 ?_); intro w3 BB ss gg; have HB3 := hid BB; have HG3 := hid gg; clear BB ss gg)
                | (with_reducible refine wpList_load_part (by with_unfolding_all rfl) 85 _ (by with_unfolding_all rfl) b (off + (j + 1) * 19) K _ (by with_unfolding_all rfl) HRr.out Tryz.underlying85 (by with_unfolding_all rfl) (by rw [HKL.out]; exact Tryz.size85) ?_))
              obtain ⟨p4, hp4⟩ : ∃ x, wr.heap.size = x := ⟨_, rfl⟩
              rw [hp4] at HC4 HJr
              simp only [hp4]
              clear hp4 HB3 HG3
              refine wp_region_listX (by kernel_rfl) [fun v _ => v = (Value.pointer (some ⟨p4, 0, none⟩)), fun v _ => v = (Value.bool true), fun v _ => v = (Value.bool true), fun v _ => v = (Value.pointer (some ⟨p4, 2, none⟩)), fun v _ => v = (Value.agg J.toArray), fun v _ => v = (Value.agg Z.toArray), fun v _ => v = (Value.bool false), fun v _ => v = (Value.bool false), fun v _ => v = (Value.bool false), fun v _ => v = (Value.int .i64 ((j + 1) : Nat)), fun v _ => v = (Value.bool true), fun v _ => v = (Value.bool true), fun v _ => v = (Value.slice (some ⟨b, off, none⟩) n c), fun v _ => v = (Value.int .i64 ((j + 1) : Nat)), fun v _ => v = (Value.int .i64 (j : Nat)), fun v _ => v = (Value.pointer (some ⟨b, off + j * 19, none⟩)), fun v _ => v = (Value.agg KP.toArray), fun v _ => v = (Value.agg K.toArray), fun v _ => v = (Value.bool false), fun v _ => v = (Value.bool true), fun v _ => v = (Value.bool true), fun v _ => v = (Value.bool true)] (none) (fun _ => none) 22 (by kernel_rfl) (by kernel_rfl) (by kernel_rfl) (by kernel_rfl) (by decide) noRow_one (fun _ => .inl rfl) ⟨fun i v u u' hki h hg => h, fun i v u u' hki h hg => h, fun i v u u' hki h hg => h, fun i v u u' hki h hg => h, fun i v u u' hki h hg => h, fun i v u u' hki h hg => h, fun i v u u' hki h hg => h, fun i v u u' hki h hg => h, fun i v u u' hki h hg => h, fun i v u u' hki h hg => h, fun i v u u' hki h hg => h, fun i v u u' hki h hg => h, fun i v u u' hki h hg => h, fun i v u u' hki h hg => h, fun i v u u' hki h hg => h, fun i v u u' hki h hg => h, fun i v u u' hki h hg => h, fun i v u u' hki h hg => h, fun i v u u' hki h hg => h, fun i v u u' hki h hg => h, fun i v u u' hki h hg => h, fun i v u u' hki h hg => h, trivial⟩ ⟨?_, ?_, ?_, ?_, ?_, ?_, ?_, ?_, ?_, ?_, ?_, ?_, ?_, ?_, ?_, ?_, ?_, ?_, ?_, ?_, ?_, ?_, trivial⟩ ?_
              · intro A u hu hpu hsz hout hdeps
                have e4 : A.eval (.tmp 4) = (.pointer (some ⟨p4, 0, none⟩)) := (hout 4 (by kernel_rfl)).trans rfl
                refine ifw_none rfl ?_
                with_reducible refine shown_q (Value.pointer (some ⟨p4, 0, none⟩)) ?qq_7kb6_0 (fun _ _ => ?qr_7kb6_0)
                case qr_7kb6_0 => exact (rfl : (Value.pointer (some ⟨p4, 0, none⟩)) = (Value.pointer (some ⟨p4, 0, none⟩)))
                with_reducible refine quietAt_field 85 (.tmp 4) 0 ?h0_7kb6_0 ⟨p4, 0, none⟩ ⟨p4, 0, none⟩ ?h1_7kb6_0 ?h2_7kb6_0
                case h0_7kb6_0 => rfl
                case h1_7kb6_0 => exact e4
                case h2_7kb6_0 => kernel_rfl
              · intro A u hu hpu hsz hout hdeps
                have e12 : A.eval (.tmp 12) = (.pointer (some ⟨p4, 0, none⟩)) := by have h := depL hdeps 0 (by kernel_rfl) 12 (by kernel_rfl); exact h
                refine ifw_none rfl ?_
                with_reducible refine shown_q (Value.bool true) ?qq_7kb6_1 (fun _ _ => ?qr_7kb6_1)
                case qr_7kb6_1 => exact (rfl : (Value.bool true) = (Value.bool true))
                with_reducible refine quietAt_ld 4 (.tmp 12) (Value.pointer (some ⟨p4, 0, none⟩)) (Value.bool true) ?h0_7kb6_1 ?h1_7kb6_1 ?h2_7kb6_1
                case h0_7kb6_1 => rfl
                case h1_7kb6_1 => exact e12
                case h2_7kb6_1 => exact ld4 p4 0 true u (HC4.out.keep hu |>.cell0 HK0)
              · intro A u hu hpu hsz hout hdeps
                have e13 : A.eval (.tmp 13) = (.bool true) := by have h := depL hdeps 1 (by kernel_rfl) 13 (by kernel_rfl); exact h
                refine ifw_none rfl ?_
                with_reducible refine shown_q (Value.bool true) ?qq_7kb6_2 (fun _ _ => ?qr_7kb6_2)
                case qr_7kb6_2 => exact (rfl : (Value.bool true) = (Value.bool true))
                with_reducible refine quietAt_mv (.tmp 13) (Value.bool true) ?h0_7kb6_2 ?h1_7kb6_2
                case h0_7kb6_2 => rfl
                case h1_7kb6_2 => exact e13
              · intro A u hu hpu hsz hout hdeps
                have e14 : A.eval (.tmp 14) = (.bool true) := by have h := depL hdeps 2 (by kernel_rfl) 14 (by kernel_rfl); exact h
                have e4 : A.eval (.tmp 4) = (.pointer (some ⟨p4, 0, none⟩)) := (hout 4 (by kernel_rfl)).trans rfl
                refine ifw_want 2 true 14 rfl rfl e14 ?_
                with_reducible refine shown_q (Value.pointer (some ⟨p4, 2, none⟩)) ?qq_7kb6_3 (fun _ _ => ?qr_7kb6_3)
                case qr_7kb6_3 => exact (rfl : (Value.pointer (some ⟨p4, 2, none⟩)) = (Value.pointer (some ⟨p4, 2, none⟩)))
                with_reducible refine quietAt_field 85 (.tmp 4) 2 ?h0_7kb6_3 ⟨p4, 0, none⟩ ⟨p4, 2, none⟩ ?h1_7kb6_3 ?h2_7kb6_3
                case h0_7kb6_3 => rfl
                case h1_7kb6_3 => exact e4
                case h2_7kb6_3 => kernel_rfl
              · intro A u hu hpu hsz hout hdeps
                have e14 : A.eval (.tmp 14) = (.bool true) := by have h := depL hdeps 2 (by kernel_rfl) 14 (by kernel_rfl); exact h
                have e15 : A.eval (.tmp 15) = (.pointer (some ⟨p4, 2, none⟩)) := by have h := depL hdeps 3 (by kernel_rfl) 15 (by kernel_rfl); exact h
                refine ifw_want 2 true 14 rfl rfl e14 ?_
                with_reducible refine shown_q (Value.agg J.toArray) ?qq_7kb6_4 (fun _ _ => ?qr_7kb6_4)
                case qr_7kb6_4 => exact (rfl : (Value.agg J.toArray) = (Value.agg J.toArray))
                with_reducible refine quietAt_load 69 (.tmp 15) ?h0_7kb6_4 p4 2 J (.array 16 5) ?h1_7kb6_4 ?h2_7kb6_4 ?h3_7kb6_4 ?h4_7kb6_4 ?h5_7kb6_4
                case h0_7kb6_4 => rfl
                case h1_7kb6_4 => exact e15
                case h2_7kb6_4 => exact (HJr.out _ (HC4.out.keep hu))
                case h3_7kb6_4 => exact Tryz.underlying69
                case h4_7kb6_4 => rfl
                case h5_7kb6_4 => exact (by rw [HJL.out]; exact Tryz.size69)
              · intro A u hu hpu hsz hout hdeps
                have e14 : A.eval (.tmp 14) = (.bool true) := by have h := depL hdeps 2 (by kernel_rfl) 14 (by kernel_rfl); exact h
                refine ifw_want 2 true 14 rfl rfl e14 ?_
                with_reducible refine shown_q (Value.agg Z.toArray) ?qq_7kb6_5 (fun _ _ => ?qr_7kb6_5)
                case qr_7kb6_5 => exact (rfl : (Value.agg Z.toArray) = (Value.agg Z.toArray))
                with_reducible refine quietAt_build 69 #[] ?h0_7kb6_5 [] ?h1_7kb6_5 Z ?h2_7kb6_5
                case h0_7kb6_5 => rfl
                case h1_7kb6_5 => simp only [List.map_toArray, List.map_nil]
                case h2_7kb6_5 => exact HBz.out
              · intro A u hu hpu hsz hout hdeps
                have e14 : A.eval (.tmp 14) = (.bool true) := by have h := depL hdeps 2 (by kernel_rfl) 14 (by kernel_rfl); exact h
                have e16 : A.eval (.tmp 16) = (.agg J.toArray) := by have h := depL hdeps 4 (by kernel_rfl) 16 (by kernel_rfl); exact h
                have e17 : A.eval (.tmp 17) = (.agg Z.toArray) := by have h := depL hdeps 5 (by kernel_rfl) 17 (by kernel_rfl); exact h
                refine ifw_want 2 true 14 rfl rfl e14 ?_
                with_reducible refine shown_q (Value.bool false) ?qq_7kb6_6 (fun _ _ => ?qr_7kb6_6)
                case qr_7kb6_6 => exact (rfl : (Value.bool false) = (Value.bool false))
                with_reducible refine quietAt_bin .neq 69 (.tmp 16) (.tmp 17) 69 (Value.agg J.toArray) (Value.agg Z.toArray) (Value.bool false) ?h0_7kb6_6 ?h1_7kb6_6 ?h2_7kb6_6 ?h3_7kb6_6
                case h0_7kb6_6 => rfl
                case h1_7kb6_6 => exact e16
                case h2_7kb6_6 => exact e17
                case h3_7kb6_6 => exact HNz.out _ _ u
              · intro A u hu hpu hsz hout hdeps
                have e14 : A.eval (.tmp 14) = (.bool true) := by have h := depL hdeps 2 (by kernel_rfl) 14 (by kernel_rfl); exact h
                have e18 : A.eval (.tmp 18) = (.bool false) := by have h := depL hdeps 6 (by kernel_rfl) 18 (by kernel_rfl); exact h
                refine ifw_none rfl ?_
                with_reducible refine shown_q (Value.bool false) ?qq_7kb6_7 (fun _ _ => ?qr_7kb6_7)
                case qr_7kb6_7 => exact (rfl : (Value.bool false) = (Value.bool false))
                with_reducible refine quietAt_pick (.tmp 14) (.tmp 18) (.const (.bool false)) true (Value.bool false) ?h0_7kb6_7 ?h1_7kb6_7 ?h2_7kb6_7
                case h0_7kb6_7 => rfl
                case h1_7kb6_7 => exact e14
                case h2_7kb6_7 => rw [if_pos rfl]; exact e18
              · intro A u hu hpu hsz hout hdeps
                have e19 : A.eval (.tmp 19) = (.bool false) := by have h := depL hdeps 7 (by kernel_rfl) 19 (by kernel_rfl); exact h
                refine ifw_none rfl ?_
                with_reducible refine shown_q (Value.bool false) ?qq_7kb6_8 (fun _ _ => ?qr_7kb6_8)
                case qr_7kb6_8 => exact (rfl : (Value.bool false) = (Value.bool false))
                with_reducible refine quietAt_mv (.tmp 19) (Value.bool false) ?h0_7kb6_8 ?h1_7kb6_8
                case h0_7kb6_8 => rfl
                case h1_7kb6_8 => exact e19
              · intro A u hu hpu hsz hout hdeps
                have e20 : A.eval (.tmp 20) = (.bool false) := by have h := depL hdeps 8 (by kernel_rfl) 20 (by kernel_rfl); exact h
                have e3 : A.eval (.tmp 3) = (.int .i64 ((j + 1) : Nat)) := (hout 3 (by kernel_rfl)).trans rfl
                refine ifw_want 8 false 20 rfl rfl e20 ?_
                with_reducible refine shown_q (Value.int .i64 ((j + 1) : Nat)) ?qq_7kb6_9 (fun _ _ => ?qr_7kb6_9)
                case qr_7kb6_9 => exact (rfl : (Value.int .i64 ((j + 1) : Nat)) = (Value.int .i64 ((j + 1) : Nat)))
                with_reducible refine quietAt_mv (.tmp 3) (Value.int .i64 ((j + 1) : Nat)) ?h0_7kb6_9 ?h1_7kb6_9
                case h0_7kb6_9 => rfl
                case h1_7kb6_9 => exact e3
              · intro A u hu hpu hsz hout hdeps
                have e20 : A.eval (.tmp 20) = (.bool false) := by have h := depL hdeps 8 (by kernel_rfl) 20 (by kernel_rfl); exact h
                have e21 : A.eval (.tmp 21) = (.int .i64 ((j + 1) : Nat)) := by have h := depL hdeps 9 (by kernel_rfl) 21 (by kernel_rfl); exact h
                refine ifw_want 8 false 20 rfl rfl e20 ?_
                with_reducible refine shown_q (Value.bool true) ?qq_7kb6_10 (fun _ _ => ?qr_7kb6_10)
                case qr_7kb6_10 => exact (rfl : (Value.bool true) = (Value.bool true))
                with_reducible refine quietAt_bin .gtr 3 (.tmp 21) (.const (.int .i64 0)) 3 (Value.int .i64 ((j + 1) : Nat)) (Value.int .i64 0) (Value.bool true) ?h0_7kb6_10 ?h1_7kb6_10 ?h2_7kb6_10 ?h3_7kb6_10
                case h0_7kb6_10 => rfl
                case h1_7kb6_10 => exact e21
                case h2_7kb6_10 => exact rfl
                case h3_7kb6_10 => exact (gtj j u HJ0.out)
              · intro A u hu hpu hsz hout hdeps
                have e20 : A.eval (.tmp 20) = (.bool false) := by have h := depL hdeps 8 (by kernel_rfl) 20 (by kernel_rfl); exact h
                have e22 : A.eval (.tmp 22) = (.bool true) := by have h := depL hdeps 10 (by kernel_rfl) 22 (by kernel_rfl); exact h
                refine ifw_want 8 false 20 rfl rfl e20 ?_
                with_reducible refine shown_q (Value.bool true) ?qq_7kb6_11 (fun _ _ => ?qr_7kb6_11)
                case qr_7kb6_11 => exact (rfl : (Value.bool true) = (Value.bool true))
                with_reducible refine quietAt_mv (.tmp 22) (Value.bool true) ?h0_7kb6_11 ?h1_7kb6_11
                case h0_7kb6_11 => rfl
                case h1_7kb6_11 => exact e22
              · intro A u hu hpu hsz hout hdeps
                have e23 : A.eval (.tmp 23) = (.bool true) := by have h := depL hdeps 11 (by kernel_rfl) 23 (by kernel_rfl); exact h
                have e0 : A.eval (.tmp 0) = (.slice (some ⟨b, off, none⟩) n c) := (hout 0 (by kernel_rfl)).trans rfl
                refine ifw_want 11 true 23 rfl rfl e23 ?_
                with_reducible refine shown_q (Value.slice (some ⟨b, off, none⟩) n c) ?qq_7kb6_12 (fun _ _ => ?qr_7kb6_12)
                case qr_7kb6_12 => exact (rfl : (Value.slice (some ⟨b, off, none⟩) n c) = (Value.slice (some ⟨b, off, none⟩) n c))
                with_reducible refine quietAt_mv (.tmp 0) (Value.slice (some ⟨b, off, none⟩) n c) ?h0_7kb6_12 ?h1_7kb6_12
                case h0_7kb6_12 => rfl
                case h1_7kb6_12 => exact e0
              · intro A u hu hpu hsz hout hdeps
                have e23 : A.eval (.tmp 23) = (.bool true) := by have h := depL hdeps 11 (by kernel_rfl) 23 (by kernel_rfl); exact h
                have e3 : A.eval (.tmp 3) = (.int .i64 ((j + 1) : Nat)) := (hout 3 (by kernel_rfl)).trans rfl
                refine ifw_want 11 true 23 rfl rfl e23 ?_
                with_reducible refine shown_q (Value.int .i64 ((j + 1) : Nat)) ?qq_7kb6_13 (fun _ _ => ?qr_7kb6_13)
                case qr_7kb6_13 => exact (rfl : (Value.int .i64 ((j + 1) : Nat)) = (Value.int .i64 ((j + 1) : Nat)))
                with_reducible refine quietAt_mv (.tmp 3) (Value.int .i64 ((j + 1) : Nat)) ?h0_7kb6_13 ?h1_7kb6_13
                case h0_7kb6_13 => rfl
                case h1_7kb6_13 => exact e3
              · intro A u hu hpu hsz hout hdeps
                have e23 : A.eval (.tmp 23) = (.bool true) := by have h := depL hdeps 11 (by kernel_rfl) 23 (by kernel_rfl); exact h
                have e25 : A.eval (.tmp 25) = (.int .i64 ((j + 1) : Nat)) := by have h := depL hdeps 13 (by kernel_rfl) 25 (by kernel_rfl); exact h
                refine ifw_want 11 true 23 rfl rfl e23 ?_
                with_reducible refine shown_q (Value.int .i64 (j : Nat)) ?qq_7kb6_14 (fun _ _ => ?qr_7kb6_14)
                case qr_7kb6_14 => exact (rfl : (Value.int .i64 (j : Nat)) = (Value.int .i64 (j : Nat)))
                with_reducible refine quietAt_bin .sub 3 (.tmp 25) (.const (.int .i64 1)) 3 (Value.int .i64 ((j + 1) : Nat)) (Value.int .i64 1) (Value.int .i64 (j : Nat)) ?h0_7kb6_14 ?h1_7kb6_14 ?h2_7kb6_14 ?h3_7kb6_14
                case h0_7kb6_14 => rfl
                case h1_7kb6_14 => exact e25
                case h2_7kb6_14 => exact rfl
                case h3_7kb6_14 => exact (subj j u HJ0.out)
              · intro A u hu hpu hsz hout hdeps
                have e23 : A.eval (.tmp 23) = (.bool true) := by have h := depL hdeps 11 (by kernel_rfl) 23 (by kernel_rfl); exact h
                have e24 : A.eval (.tmp 24) = (.slice (some ⟨b, off, none⟩) n c) := by have h := depL hdeps 12 (by kernel_rfl) 24 (by kernel_rfl); exact h
                have e26 : A.eval (.tmp 26) = (.int .i64 (j : Nat)) := by have h := depL hdeps 14 (by kernel_rfl) 26 (by kernel_rfl); exact h
                refine ifw_want 11 true 23 rfl rfl e23 ?_
                with_reducible refine shown_q (Value.pointer (some ⟨b, off + j * 19, none⟩)) ?qq_7kb6_15 (fun _ _ => ?qr_7kb6_15)
                case qr_7kb6_15 => exact (rfl : (Value.pointer (some ⟨b, off + j * 19, none⟩)) = (Value.pointer (some ⟨b, off + j * 19, none⟩)))
                with_reducible refine quietAt_idx 57 (.tmp 24) (.tmp 26) (Value.slice (some ⟨b, off, none⟩) n c) (Value.int .i64 (j : Nat)) (Value.pointer (some ⟨b, off + j * 19, none⟩)) ?h0_7kb6_15 ?h1_7kb6_15 ?h2_7kb6_15 ?h3_7kb6_15
                case h0_7kb6_15 => rfl
                case h1_7kb6_15 => exact e24
                case h2_7kb6_15 => exact e26
                case h3_7kb6_15 => exact (idx23 b off n c j HJn.out u)
              · intro A u hu hpu hsz hout hdeps
                have e23 : A.eval (.tmp 23) = (.bool true) := by have h := depL hdeps 11 (by kernel_rfl) 23 (by kernel_rfl); exact h
                have e27 : A.eval (.tmp 27) = (.pointer (some ⟨b, off + j * 19, none⟩)) := by have h := depL hdeps 15 (by kernel_rfl) 27 (by kernel_rfl); exact h
                refine ifw_want 11 true 23 rfl rfl e23 ?_
                with_reducible refine shown_q (Value.agg KP.toArray) ?qq_7kb6_16 (fun _ _ => ?qr_7kb6_16)
                case qr_7kb6_16 => exact (rfl : (Value.agg KP.toArray) = (Value.agg KP.toArray))
                with_reducible refine quietAt_load 85 (.tmp 27) ?h0_7kb6_16 b (off + j * 19) KP (.struct (Tryz.prog.fieldsOf 85)) ?h1_7kb6_16 ?h2_7kb6_16 ?h3_7kb6_16 ?h4_7kb6_16 ?h5_7kb6_16
                case h0_7kb6_16 => rfl
                case h1_7kb6_16 => exact e27
                case h2_7kb6_16 => exact (HPr.out u (gtrans HU4.out hu))
                case h3_7kb6_16 => exact Tryz.under48
                case h4_7kb6_16 => rfl
                case h5_7kb6_16 => exact (by rw [HPL.out]; exact Tryz.size85)
              · intro A u hu hpu hsz hout hdeps
                have e23 : A.eval (.tmp 23) = (.bool true) := by have h := depL hdeps 11 (by kernel_rfl) 23 (by kernel_rfl); exact h
                have e4 : A.eval (.tmp 4) = (.pointer (some ⟨p4, 0, none⟩)) := (hout 4 (by kernel_rfl)).trans rfl
                refine ifw_want 11 true 23 rfl rfl e23 ?_
                with_reducible refine shown_q (Value.agg K.toArray) ?qq_7kb6_17 (fun _ _ => ?qr_7kb6_17)
                case qr_7kb6_17 => exact (rfl : (Value.agg K.toArray) = (Value.agg K.toArray))
                with_reducible refine quietAt_load 85 (.tmp 4) ?h0_7kb6_17 p4 0 K (.struct (Tryz.prog.fieldsOf 85)) ?h1_7kb6_17 ?h2_7kb6_17 ?h3_7kb6_17 ?h4_7kb6_17 ?h5_7kb6_17
                case h0_7kb6_17 => rfl
                case h1_7kb6_17 => exact e4
                case h2_7kb6_17 => exact (HC4.out.keep hu).whole
                case h3_7kb6_17 => exact Tryz.under48
                case h4_7kb6_17 => rfl
                case h5_7kb6_17 => exact (by rw [HKL.out]; exact Tryz.size85)
              · intro A u hu hpu hsz hout hdeps
                have e23 : A.eval (.tmp 23) = (.bool true) := by have h := depL hdeps 11 (by kernel_rfl) 23 (by kernel_rfl); exact h
                have e28 : A.eval (.tmp 28) = (.agg KP.toArray) := by have h := depL hdeps 16 (by kernel_rfl) 28 (by kernel_rfl); exact h
                have e29 : A.eval (.tmp 29) = (.agg K.toArray) := by have h := depL hdeps 17 (by kernel_rfl) 29 (by kernel_rfl); exact h
                refine ifw_want 11 true 23 rfl rfl e23 ?_
                with_reducible refine shown_q (Value.bool false) ?qq_7kb6_18 (fun _ _ => ?qr_7kb6_18)
                case qr_7kb6_18 => exact (rfl : (Value.bool false) = (Value.bool false))
                with_reducible refine quietAt_call 31 Tryz.f31 ?h0_7kb6_18 ?h1_7kb6_18 ?h2_7kb6_18 #[.tmp 28, .tmp 29] #[85, 85] ?h3_7kb6_18 (Value.bool false) #[(Value.agg KP.toArray), (Value.agg K.toArray)] ?h4_7kb6_18 ?h5_7kb6_18
                case h0_7kb6_18 => exact Tryz.func31
                case h1_7kb6_18 => kernel_rfl
                case h2_7kb6_18 => kernel_rfl
                case h3_7kb6_18 => rfl
                case h4_7kb6_18 => exact map2 _ _ _ _ _ e28 e29
                case h5_7kb6_18 => exact HMf.out u (gtrans HU4.out hu)
              · intro A u hu hpu hsz hout hdeps
                have e23 : A.eval (.tmp 23) = (.bool true) := by have h := depL hdeps 11 (by kernel_rfl) 23 (by kernel_rfl); exact h
                have e30 : A.eval (.tmp 30) = (.bool false) := by have h := depL hdeps 18 (by kernel_rfl) 30 (by kernel_rfl); exact h
                refine ifw_want 11 true 23 rfl rfl e23 ?_
                with_reducible refine shown_q (Value.bool true) ?qq_7kb6_19 (fun _ _ => ?qr_7kb6_19)
                case qr_7kb6_19 => exact (rfl : (Value.bool true) = (Value.bool true))
                with_reducible refine quietAt_un .not 4 (.tmp 30) (Value.bool false) (Value.bool true) ?h0_7kb6_19 ?h1_7kb6_19 ?h2_7kb6_19
                case h0_7kb6_19 => rfl
                case h1_7kb6_19 => exact e30
                case h2_7kb6_19 => rfl
              · intro A u hu hpu hsz hout hdeps
                have e20 : A.eval (.tmp 20) = (.bool false) := by have h := depL hdeps 8 (by kernel_rfl) 20 (by kernel_rfl); exact h
                have e23 : A.eval (.tmp 23) = (.bool true) := by have h := depL hdeps 11 (by kernel_rfl) 23 (by kernel_rfl); exact h
                have e31 : A.eval (.tmp 31) = (.bool true) := by have h := depL hdeps 19 (by kernel_rfl) 31 (by kernel_rfl); exact h
                refine ifw_want 8 false 20 rfl rfl e20 ?_
                with_reducible refine shown_q (Value.bool true) ?qq_7kb6_20 (fun _ _ => ?qr_7kb6_20)
                case qr_7kb6_20 => exact (rfl : (Value.bool true) = (Value.bool true))
                with_reducible refine quietAt_pick (.tmp 23) (.tmp 31) (.const (.bool false)) true (Value.bool true) ?h0_7kb6_20 ?h1_7kb6_20 ?h2_7kb6_20
                case h0_7kb6_20 => rfl
                case h1_7kb6_20 => exact e23
                case h2_7kb6_20 => rw [if_pos rfl]; exact e31
              · intro A u hu hpu hsz hout hdeps
                have e20 : A.eval (.tmp 20) = (.bool false) := by have h := depL hdeps 8 (by kernel_rfl) 20 (by kernel_rfl); exact h
                have e32 : A.eval (.tmp 32) = (.bool true) := by have h := depL hdeps 20 (by kernel_rfl) 32 (by kernel_rfl); exact h
                refine ifw_none rfl ?_
                with_reducible refine shown_q (Value.bool true) ?qq_7kb6_21 (fun _ _ => ?qr_7kb6_21)
                case qr_7kb6_21 => exact (rfl : (Value.bool true) = (Value.bool true))
                with_reducible refine quietAt_pick (.tmp 20) (.const (.bool true)) (.tmp 32) false (Value.bool true) ?h0_7kb6_21 ?h1_7kb6_21 ?h2_7kb6_21
                case h0_7kb6_21 => rfl
                case h1_7kb6_21 => exact e20
                case h2_7kb6_21 => rw [if_neg (by decide)]; exact e32
              · intro A u8 listed hh hall
                have hA := hh.frame
                have HU := hid hh.grown
                obtain ⟨x12, hx12⟩ : ∃ x, A.eval (.tmp 12) = x := ⟨_, rfl⟩
                have f12 : (fun v _ => v = (Value.pointer (some ⟨p4, 0, none⟩))) x12 u8 := by rw [← hx12]; exact hh.got 0 _ 12 rfl rfl (hall 0 (by decide))
                obtain ⟨x13, hx13⟩ : ∃ x, A.eval (.tmp 13) = x := ⟨_, rfl⟩
                have f13 : (fun v _ => v = (Value.bool true)) x13 u8 := by rw [← hx13]; exact hh.got 1 _ 13 rfl rfl (hall 1 (by decide))
                obtain ⟨x14, hx14⟩ : ∃ x, A.eval (.tmp 14) = x := ⟨_, rfl⟩
                have f14 : (fun v _ => v = (Value.bool true)) x14 u8 := by rw [← hx14]; exact hh.got 2 _ 14 rfl rfl (hall 2 (by decide))
                obtain ⟨x15, hx15⟩ : ∃ x, A.eval (.tmp 15) = x := ⟨_, rfl⟩
                have f15 : (fun v _ => v = (Value.pointer (some ⟨p4, 2, none⟩))) x15 u8 := by rw [← hx15]; exact hh.got 3 _ 15 rfl rfl (hall 3 (by decide))
                obtain ⟨x16, hx16⟩ : ∃ x, A.eval (.tmp 16) = x := ⟨_, rfl⟩
                have f16 : (fun v _ => v = (Value.agg J.toArray)) x16 u8 := by rw [← hx16]; exact hh.got 4 _ 16 rfl rfl (hall 4 (by decide))
                obtain ⟨x17, hx17⟩ : ∃ x, A.eval (.tmp 17) = x := ⟨_, rfl⟩
                have f17 : (fun v _ => v = (Value.agg Z.toArray)) x17 u8 := by rw [← hx17]; exact hh.got 5 _ 17 rfl rfl (hall 5 (by decide))
                obtain ⟨x18, hx18⟩ : ∃ x, A.eval (.tmp 18) = x := ⟨_, rfl⟩
                have f18 : (fun v _ => v = (Value.bool false)) x18 u8 := by rw [← hx18]; exact hh.got 6 _ 18 rfl rfl (hall 6 (by decide))
                obtain ⟨x19, hx19⟩ : ∃ x, A.eval (.tmp 19) = x := ⟨_, rfl⟩
                have f19 : (fun v _ => v = (Value.bool false)) x19 u8 := by rw [← hx19]; exact hh.got 7 _ 19 rfl rfl (hall 7 (by decide))
                obtain ⟨x20, hx20⟩ : ∃ x, A.eval (.tmp 20) = x := ⟨_, rfl⟩
                have f20 : (fun v _ => v = (Value.bool false)) x20 u8 := by rw [← hx20]; exact hh.got 8 _ 20 rfl rfl (hall 8 (by decide))
                obtain ⟨x21, hx21⟩ : ∃ x, A.eval (.tmp 21) = x := ⟨_, rfl⟩
                have f21 : (fun v _ => v = (Value.int .i64 ((j + 1) : Nat))) x21 u8 := by rw [← hx21]; exact hh.got 9 _ 21 rfl rfl (hall 9 (by decide))
                obtain ⟨x22, hx22⟩ : ∃ x, A.eval (.tmp 22) = x := ⟨_, rfl⟩
                have f22 : (fun v _ => v = (Value.bool true)) x22 u8 := by rw [← hx22]; exact hh.got 10 _ 22 rfl rfl (hall 10 (by decide))
                obtain ⟨x23, hx23⟩ : ∃ x, A.eval (.tmp 23) = x := ⟨_, rfl⟩
                have f23 : (fun v _ => v = (Value.bool true)) x23 u8 := by rw [← hx23]; exact hh.got 11 _ 23 rfl rfl (hall 11 (by decide))
                obtain ⟨x24, hx24⟩ : ∃ x, A.eval (.tmp 24) = x := ⟨_, rfl⟩
                have f24 : (fun v _ => v = (Value.slice (some ⟨b, off, none⟩) n c)) x24 u8 := by rw [← hx24]; exact hh.got 12 _ 24 rfl rfl (hall 12 (by decide))
                obtain ⟨x25, hx25⟩ : ∃ x, A.eval (.tmp 25) = x := ⟨_, rfl⟩
                have f25 : (fun v _ => v = (Value.int .i64 ((j + 1) : Nat))) x25 u8 := by rw [← hx25]; exact hh.got 13 _ 25 rfl rfl (hall 13 (by decide))
                obtain ⟨x26, hx26⟩ : ∃ x, A.eval (.tmp 26) = x := ⟨_, rfl⟩
                have f26 : (fun v _ => v = (Value.int .i64 (j : Nat))) x26 u8 := by rw [← hx26]; exact hh.got 14 _ 26 rfl rfl (hall 14 (by decide))
                obtain ⟨x27, hx27⟩ : ∃ x, A.eval (.tmp 27) = x := ⟨_, rfl⟩
                have f27 : (fun v _ => v = (Value.pointer (some ⟨b, off + j * 19, none⟩))) x27 u8 := by rw [← hx27]; exact hh.got 15 _ 27 rfl rfl (hall 15 (by decide))
                obtain ⟨x28, hx28⟩ : ∃ x, A.eval (.tmp 28) = x := ⟨_, rfl⟩
                have f28 : (fun v _ => v = (Value.agg KP.toArray)) x28 u8 := by rw [← hx28]; exact hh.got 16 _ 28 rfl rfl (hall 16 (by decide))
                obtain ⟨x29, hx29⟩ : ∃ x, A.eval (.tmp 29) = x := ⟨_, rfl⟩
                have f29 : (fun v _ => v = (Value.agg K.toArray)) x29 u8 := by rw [← hx29]; exact hh.got 17 _ 29 rfl rfl (hall 17 (by decide))
                obtain ⟨x30, hx30⟩ : ∃ x, A.eval (.tmp 30) = x := ⟨_, rfl⟩
                have f30 : (fun v _ => v = (Value.bool false)) x30 u8 := by rw [← hx30]; exact hh.got 18 _ 30 rfl rfl (hall 18 (by decide))
                obtain ⟨x31, hx31⟩ : ∃ x, A.eval (.tmp 31) = x := ⟨_, rfl⟩
                have f31 : (fun v _ => v = (Value.bool true)) x31 u8 := by rw [← hx31]; exact hh.got 19 _ 31 rfl rfl (hall 19 (by decide))
                obtain ⟨x32, hx32⟩ : ∃ x, A.eval (.tmp 32) = x := ⟨_, rfl⟩
                have f32 : (fun v _ => v = (Value.bool true)) x32 u8 := by rw [← hx32]; exact hh.got 20 _ 32 rfl rfl (hall 20 (by decide))
                obtain ⟨x33, hx33⟩ : ∃ x, A.eval (.tmp 33) = x := ⟨_, rfl⟩
                have f33 : (fun v _ => v = (Value.bool true)) x33 u8 := by rw [← hx33]; exact hh.got 21 _ 33 rfl rfl (hall 21 (by decide))
                dsimp only [wrote, List.foldl] at hA
                rw [hx12, hx13, hx14, hx15, hx16, hx17, hx18, hx19, hx20, hx21, hx22, hx23, hx24, hx25, hx26, hx27, hx28, hx29, hx30, hx31, hx32, hx33] at hA
                clear hh hall hx12 hx13 hx14 hx15 hx16 hx17 hx18 hx19 hx20 hx21 hx22 hx23 hx24 hx25 hx26 hx27 hx28 hx29 hx30 hx31 hx32 hx33
                replace f12 := (f12 : x12 = (.pointer (some ⟨p4, 0, none⟩)))
                subst f12
                replace f13 := (f13 : x13 = (.bool true))
                subst f13
                replace f14 := (f14 : x14 = (.bool true))
                subst f14
                replace f15 := (f15 : x15 = (.pointer (some ⟨p4, 2, none⟩)))
                subst f15
                replace f16 := (f16 : x16 = (.agg J.toArray))
                subst f16
                replace f17 := (f17 : x17 = (.agg Z.toArray))
                subst f17
                replace f18 := (f18 : x18 = (.bool false))
                subst f18
                replace f19 := (f19 : x19 = (.bool false))
                subst f19
                replace f20 := (f20 : x20 = (.bool false))
                subst f20
                replace f21 := (f21 : x21 = (.int .i64 ((j + 1) : Nat)))
                subst f21
                replace f22 := (f22 : x22 = (.bool true))
                subst f22
                replace f23 := (f23 : x23 = (.bool true))
                subst f23
                replace f24 := (f24 : x24 = (.slice (some ⟨b, off, none⟩) n c))
                subst f24
                replace f25 := (f25 : x25 = (.int .i64 ((j + 1) : Nat)))
                subst f25
                replace f26 := (f26 : x26 = (.int .i64 (j : Nat)))
                subst f26
                replace f27 := (f27 : x27 = (.pointer (some ⟨b, off + j * 19, none⟩)))
                subst f27
                replace f28 := (f28 : x28 = (.agg KP.toArray))
                subst f28
                replace f29 := (f29 : x29 = (.agg K.toArray))
                subst f29
                replace f30 := (f30 : x30 = (.bool false))
                subst f30
                replace f31 := (f31 : x31 = (.bool true))
                subst f31
                replace f32 := (f32 : x32 = (.bool true))
                subst f32
                replace f33 := (f33 : x33 = (.bool true))
                subst f33
                subst hA
                show wpList _ _ _ [] _ _
                unfold wpList
                simp only [Act.put, List.setIfInBounds_toArray, List.set_cons_succ, List.set_cons_zero]
                have HUz := hid (gtrans HU4.out HU.out)
                go_wp2_with fail
                go_ret
                exact ⟨by rw [← HEE.out, HRf.out]; rfl, HUz.out⟩
          | false =>
            as_aux_lemma =>
            have HRf : Hid (R = false) := hid (by rw [HRg.out, HSt.out]; rfl)
            clear HRg HSt
            go_upto_region 4 with (first
              | ((with_reducible refine wpList_store_all (by with_unfolding_all rfl) 85 _ _ (by with_unfolding_all rfl) _ zky.cells K 85 (by with_unfolding_all rfl) (by with_unfolding_all rfl) HB3.out (by rw [HKL.out]; with_unfolding_all rfl) (by rw [HKL.out]; exact Tryz.size85) HK1.out ?_); intro w4 BB gg ss; have HC4 := hid BB; have HU4 := hid (gtrans HG.out (HG3.out.andThen gg (fun j hj => .inl (by injection hj with hj; omega)))); clear BB gg ss)
              | ((with_reducible refine wpList_alloc_row (by with_unfolding_all rfl) 85 (by with_unfolding_all rfl) zky.cells Tryz.zero85 ?_); intro w3 BB ss gg; have HB3 := hid BB; have HG3 := hid gg; clear BB ss gg)
              | (with_reducible refine wpList_load_part (by with_unfolding_all rfl) 85 _ (by with_unfolding_all rfl) b (off + (j + 1) * 19) K _ (by with_unfolding_all rfl) HRr.out Tryz.underlying85 (by with_unfolding_all rfl) (by rw [HKL.out]; exact Tryz.size85) ?_))
            obtain ⟨p4, hp4⟩ : ∃ x, wr.heap.size = x := ⟨_, rfl⟩
            rw [hp4] at HC4 HJr
            simp only [hp4]
            clear hp4 HB3 HG3
            refine wp_region_listX (by kernel_rfl) [fun v _ => v = (Value.pointer (some ⟨p4, 0, none⟩)), fun v _ => v = (Value.bool true), fun v _ => v = (Value.bool true), fun v _ => v = (Value.pointer (some ⟨p4, 2, none⟩)), fun v _ => v = (Value.agg J.toArray), fun v _ => v = (Value.agg Z.toArray), fun v _ => v = (Value.bool true), fun v _ => v = (Value.bool true), fun v _ => v = (Value.bool true), fun v _ => v = undef, fun v _ => v = undef, fun v _ => v = undef, fun v _ => v = undef, fun v _ => v = undef, fun v _ => v = undef, fun v _ => v = undef, fun v _ => v = undef, fun v _ => v = undef, fun v _ => v = undef, fun v _ => v = undef, fun v _ => v = undef, fun v _ => v = (Value.bool true)] (none) (fun _ => none) 22 (by kernel_rfl) (by kernel_rfl) (by kernel_rfl) (by kernel_rfl) (by decide) noRow_one (fun _ => .inl rfl) ⟨fun i v u u' hki h hg => h, fun i v u u' hki h hg => h, fun i v u u' hki h hg => h, fun i v u u' hki h hg => h, fun i v u u' hki h hg => h, fun i v u u' hki h hg => h, fun i v u u' hki h hg => h, fun i v u u' hki h hg => h, fun i v u u' hki h hg => h, fun i v u u' hki h hg => h, fun i v u u' hki h hg => h, fun i v u u' hki h hg => h, fun i v u u' hki h hg => h, fun i v u u' hki h hg => h, fun i v u u' hki h hg => h, fun i v u u' hki h hg => h, fun i v u u' hki h hg => h, fun i v u u' hki h hg => h, fun i v u u' hki h hg => h, fun i v u u' hki h hg => h, fun i v u u' hki h hg => h, fun i v u u' hki h hg => h, trivial⟩ ⟨?_, ?_, ?_, ?_, ?_, ?_, ?_, ?_, ?_, ?_, ?_, ?_, ?_, ?_, ?_, ?_, ?_, ?_, ?_, ?_, ?_, ?_, trivial⟩ ?_
            · intro A u hu hpu hsz hout hdeps
              have e4 : A.eval (.tmp 4) = (.pointer (some ⟨p4, 0, none⟩)) := (hout 4 (by kernel_rfl)).trans rfl
              refine ifw_none rfl ?_
              with_reducible refine shown_q (Value.pointer (some ⟨p4, 0, none⟩)) ?qq_8kb7_0 (fun _ _ => ?qr_8kb7_0)
              case qr_8kb7_0 => exact (rfl : (Value.pointer (some ⟨p4, 0, none⟩)) = (Value.pointer (some ⟨p4, 0, none⟩)))
              with_reducible refine quietAt_field 85 (.tmp 4) 0 ?h0_8kb7_0 ⟨p4, 0, none⟩ ⟨p4, 0, none⟩ ?h1_8kb7_0 ?h2_8kb7_0
              case h0_8kb7_0 => rfl
              case h1_8kb7_0 => exact e4
              case h2_8kb7_0 => kernel_rfl
            · intro A u hu hpu hsz hout hdeps
              have e12 : A.eval (.tmp 12) = (.pointer (some ⟨p4, 0, none⟩)) := by have h := depL hdeps 0 (by kernel_rfl) 12 (by kernel_rfl); exact h
              refine ifw_none rfl ?_
              with_reducible refine shown_q (Value.bool true) ?qq_8kb7_1 (fun _ _ => ?qr_8kb7_1)
              case qr_8kb7_1 => exact (rfl : (Value.bool true) = (Value.bool true))
              with_reducible refine quietAt_ld 4 (.tmp 12) (Value.pointer (some ⟨p4, 0, none⟩)) (Value.bool true) ?h0_8kb7_1 ?h1_8kb7_1 ?h2_8kb7_1
              case h0_8kb7_1 => rfl
              case h1_8kb7_1 => exact e12
              case h2_8kb7_1 => exact ld4 p4 0 true u (HC4.out.keep hu |>.cell0 HK0)
            · intro A u hu hpu hsz hout hdeps
              have e13 : A.eval (.tmp 13) = (.bool true) := by have h := depL hdeps 1 (by kernel_rfl) 13 (by kernel_rfl); exact h
              refine ifw_none rfl ?_
              with_reducible refine shown_q (Value.bool true) ?qq_8kb7_2 (fun _ _ => ?qr_8kb7_2)
              case qr_8kb7_2 => exact (rfl : (Value.bool true) = (Value.bool true))
              with_reducible refine quietAt_mv (.tmp 13) (Value.bool true) ?h0_8kb7_2 ?h1_8kb7_2
              case h0_8kb7_2 => rfl
              case h1_8kb7_2 => exact e13
            · intro A u hu hpu hsz hout hdeps
              have e14 : A.eval (.tmp 14) = (.bool true) := by have h := depL hdeps 2 (by kernel_rfl) 14 (by kernel_rfl); exact h
              have e4 : A.eval (.tmp 4) = (.pointer (some ⟨p4, 0, none⟩)) := (hout 4 (by kernel_rfl)).trans rfl
              refine ifw_want 2 true 14 rfl rfl e14 ?_
              with_reducible refine shown_q (Value.pointer (some ⟨p4, 2, none⟩)) ?qq_8kb7_3 (fun _ _ => ?qr_8kb7_3)
              case qr_8kb7_3 => exact (rfl : (Value.pointer (some ⟨p4, 2, none⟩)) = (Value.pointer (some ⟨p4, 2, none⟩)))
              with_reducible refine quietAt_field 85 (.tmp 4) 2 ?h0_8kb7_3 ⟨p4, 0, none⟩ ⟨p4, 2, none⟩ ?h1_8kb7_3 ?h2_8kb7_3
              case h0_8kb7_3 => rfl
              case h1_8kb7_3 => exact e4
              case h2_8kb7_3 => kernel_rfl
            · intro A u hu hpu hsz hout hdeps
              have e14 : A.eval (.tmp 14) = (.bool true) := by have h := depL hdeps 2 (by kernel_rfl) 14 (by kernel_rfl); exact h
              have e15 : A.eval (.tmp 15) = (.pointer (some ⟨p4, 2, none⟩)) := by have h := depL hdeps 3 (by kernel_rfl) 15 (by kernel_rfl); exact h
              refine ifw_want 2 true 14 rfl rfl e14 ?_
              with_reducible refine shown_q (Value.agg J.toArray) ?qq_8kb7_4 (fun _ _ => ?qr_8kb7_4)
              case qr_8kb7_4 => exact (rfl : (Value.agg J.toArray) = (Value.agg J.toArray))
              with_reducible refine quietAt_load 69 (.tmp 15) ?h0_8kb7_4 p4 2 J (.array 16 5) ?h1_8kb7_4 ?h2_8kb7_4 ?h3_8kb7_4 ?h4_8kb7_4 ?h5_8kb7_4
              case h0_8kb7_4 => rfl
              case h1_8kb7_4 => exact e15
              case h2_8kb7_4 => exact (HJr.out _ (HC4.out.keep hu))
              case h3_8kb7_4 => exact Tryz.underlying69
              case h4_8kb7_4 => rfl
              case h5_8kb7_4 => exact (by rw [HJL.out]; exact Tryz.size69)
            · intro A u hu hpu hsz hout hdeps
              have e14 : A.eval (.tmp 14) = (.bool true) := by have h := depL hdeps 2 (by kernel_rfl) 14 (by kernel_rfl); exact h
              refine ifw_want 2 true 14 rfl rfl e14 ?_
              with_reducible refine shown_q (Value.agg Z.toArray) ?qq_8kb7_5 (fun _ _ => ?qr_8kb7_5)
              case qr_8kb7_5 => exact (rfl : (Value.agg Z.toArray) = (Value.agg Z.toArray))
              with_reducible refine quietAt_build 69 #[] ?h0_8kb7_5 [] ?h1_8kb7_5 Z ?h2_8kb7_5
              case h0_8kb7_5 => rfl
              case h1_8kb7_5 => simp only [List.map_toArray, List.map_nil]
              case h2_8kb7_5 => exact HBz.out
            · intro A u hu hpu hsz hout hdeps
              have e14 : A.eval (.tmp 14) = (.bool true) := by have h := depL hdeps 2 (by kernel_rfl) 14 (by kernel_rfl); exact h
              have e16 : A.eval (.tmp 16) = (.agg J.toArray) := by have h := depL hdeps 4 (by kernel_rfl) 16 (by kernel_rfl); exact h
              have e17 : A.eval (.tmp 17) = (.agg Z.toArray) := by have h := depL hdeps 5 (by kernel_rfl) 17 (by kernel_rfl); exact h
              refine ifw_want 2 true 14 rfl rfl e14 ?_
              with_reducible refine shown_q (Value.bool true) ?qq_8kb7_6 (fun _ _ => ?qr_8kb7_6)
              case qr_8kb7_6 => exact (rfl : (Value.bool true) = (Value.bool true))
              with_reducible refine quietAt_bin .neq 69 (.tmp 16) (.tmp 17) 69 (Value.agg J.toArray) (Value.agg Z.toArray) (Value.bool true) ?h0_8kb7_6 ?h1_8kb7_6 ?h2_8kb7_6 ?h3_8kb7_6
              case h0_8kb7_6 => rfl
              case h1_8kb7_6 => exact e16
              case h2_8kb7_6 => exact e17
              case h3_8kb7_6 => exact HNz.out _ _ u
            · intro A u hu hpu hsz hout hdeps
              have e14 : A.eval (.tmp 14) = (.bool true) := by have h := depL hdeps 2 (by kernel_rfl) 14 (by kernel_rfl); exact h
              have e18 : A.eval (.tmp 18) = (.bool true) := by have h := depL hdeps 6 (by kernel_rfl) 18 (by kernel_rfl); exact h
              refine ifw_none rfl ?_
              with_reducible refine shown_q (Value.bool true) ?qq_8kb7_7 (fun _ _ => ?qr_8kb7_7)
              case qr_8kb7_7 => exact (rfl : (Value.bool true) = (Value.bool true))
              with_reducible refine quietAt_pick (.tmp 14) (.tmp 18) (.const (.bool false)) true (Value.bool true) ?h0_8kb7_7 ?h1_8kb7_7 ?h2_8kb7_7
              case h0_8kb7_7 => rfl
              case h1_8kb7_7 => exact e14
              case h2_8kb7_7 => rw [if_pos rfl]; exact e18
            · intro A u hu hpu hsz hout hdeps
              have e19 : A.eval (.tmp 19) = (.bool true) := by have h := depL hdeps 7 (by kernel_rfl) 19 (by kernel_rfl); exact h
              refine ifw_none rfl ?_
              with_reducible refine shown_q (Value.bool true) ?qq_8kb7_8 (fun _ _ => ?qr_8kb7_8)
              case qr_8kb7_8 => exact (rfl : (Value.bool true) = (Value.bool true))
              with_reducible refine quietAt_mv (.tmp 19) (Value.bool true) ?h0_8kb7_8 ?h1_8kb7_8
              case h0_8kb7_8 => rfl
              case h1_8kb7_8 => exact e19
            · intro A u hu hpu hsz hout hdeps
              have e20 : A.eval (.tmp 20) = (.bool true) := by have h := depL hdeps 8 (by kernel_rfl) 20 (by kernel_rfl); exact h
              refine ifw_pass 8 false true 20 rfl rfl e20 (by decide) ?_
              exact rfl
            · intro A u hu hpu hsz hout hdeps
              have e20 : A.eval (.tmp 20) = (.bool true) := by have h := depL hdeps 8 (by kernel_rfl) 20 (by kernel_rfl); exact h
              refine ifw_pass 8 false true 20 rfl rfl e20 (by decide) ?_
              exact rfl
            · intro A u hu hpu hsz hout hdeps
              have e20 : A.eval (.tmp 20) = (.bool true) := by have h := depL hdeps 8 (by kernel_rfl) 20 (by kernel_rfl); exact h
              refine ifw_pass 8 false true 20 rfl rfl e20 (by decide) ?_
              exact rfl
            · intro A u hu hpu hsz hout hdeps
              have e23 : A.eval (.tmp 23) = undef := by have h := depL hdeps 11 (by kernel_rfl) 23 (by kernel_rfl); exact h
              refine ifw_undef 11 true 23 rfl rfl e23 ?_
              exact rfl
            · intro A u hu hpu hsz hout hdeps
              have e23 : A.eval (.tmp 23) = undef := by have h := depL hdeps 11 (by kernel_rfl) 23 (by kernel_rfl); exact h
              refine ifw_undef 11 true 23 rfl rfl e23 ?_
              exact rfl
            · intro A u hu hpu hsz hout hdeps
              have e23 : A.eval (.tmp 23) = undef := by have h := depL hdeps 11 (by kernel_rfl) 23 (by kernel_rfl); exact h
              refine ifw_undef 11 true 23 rfl rfl e23 ?_
              exact rfl
            · intro A u hu hpu hsz hout hdeps
              have e23 : A.eval (.tmp 23) = undef := by have h := depL hdeps 11 (by kernel_rfl) 23 (by kernel_rfl); exact h
              refine ifw_undef 11 true 23 rfl rfl e23 ?_
              exact rfl
            · intro A u hu hpu hsz hout hdeps
              have e23 : A.eval (.tmp 23) = undef := by have h := depL hdeps 11 (by kernel_rfl) 23 (by kernel_rfl); exact h
              refine ifw_undef 11 true 23 rfl rfl e23 ?_
              exact rfl
            · intro A u hu hpu hsz hout hdeps
              have e23 : A.eval (.tmp 23) = undef := by have h := depL hdeps 11 (by kernel_rfl) 23 (by kernel_rfl); exact h
              refine ifw_undef 11 true 23 rfl rfl e23 ?_
              exact rfl
            · intro A u hu hpu hsz hout hdeps
              have e23 : A.eval (.tmp 23) = undef := by have h := depL hdeps 11 (by kernel_rfl) 23 (by kernel_rfl); exact h
              refine ifw_undef 11 true 23 rfl rfl e23 ?_
              exact rfl
            · intro A u hu hpu hsz hout hdeps
              have e23 : A.eval (.tmp 23) = undef := by have h := depL hdeps 11 (by kernel_rfl) 23 (by kernel_rfl); exact h
              refine ifw_undef 11 true 23 rfl rfl e23 ?_
              exact rfl
            · intro A u hu hpu hsz hout hdeps
              have e20 : A.eval (.tmp 20) = (.bool true) := by have h := depL hdeps 8 (by kernel_rfl) 20 (by kernel_rfl); exact h
              refine ifw_pass 8 false true 20 rfl rfl e20 (by decide) ?_
              exact rfl
            · intro A u hu hpu hsz hout hdeps
              have e20 : A.eval (.tmp 20) = (.bool true) := by have h := depL hdeps 8 (by kernel_rfl) 20 (by kernel_rfl); exact h
              refine ifw_none rfl ?_
              with_reducible refine shown_q (Value.bool true) ?qq_8kb7_21 (fun _ _ => ?qr_8kb7_21)
              case qr_8kb7_21 => exact (rfl : (Value.bool true) = (Value.bool true))
              with_reducible refine quietAt_pick (.tmp 20) (.const (.bool true)) (.tmp 32) true (Value.bool true) ?h0_8kb7_21 ?h1_8kb7_21 ?h2_8kb7_21
              case h0_8kb7_21 => rfl
              case h1_8kb7_21 => exact e20
              case h2_8kb7_21 => rw [if_pos rfl]; exact rfl
            · intro A u8 listed hh hall
              have hA := hh.frame
              have HU := hid hh.grown
              obtain ⟨x12, hx12⟩ : ∃ x, A.eval (.tmp 12) = x := ⟨_, rfl⟩
              have f12 : (fun v _ => v = (Value.pointer (some ⟨p4, 0, none⟩))) x12 u8 := by rw [← hx12]; exact hh.got 0 _ 12 rfl rfl (hall 0 (by decide))
              obtain ⟨x13, hx13⟩ : ∃ x, A.eval (.tmp 13) = x := ⟨_, rfl⟩
              have f13 : (fun v _ => v = (Value.bool true)) x13 u8 := by rw [← hx13]; exact hh.got 1 _ 13 rfl rfl (hall 1 (by decide))
              obtain ⟨x14, hx14⟩ : ∃ x, A.eval (.tmp 14) = x := ⟨_, rfl⟩
              have f14 : (fun v _ => v = (Value.bool true)) x14 u8 := by rw [← hx14]; exact hh.got 2 _ 14 rfl rfl (hall 2 (by decide))
              obtain ⟨x15, hx15⟩ : ∃ x, A.eval (.tmp 15) = x := ⟨_, rfl⟩
              have f15 : (fun v _ => v = (Value.pointer (some ⟨p4, 2, none⟩))) x15 u8 := by rw [← hx15]; exact hh.got 3 _ 15 rfl rfl (hall 3 (by decide))
              obtain ⟨x16, hx16⟩ : ∃ x, A.eval (.tmp 16) = x := ⟨_, rfl⟩
              have f16 : (fun v _ => v = (Value.agg J.toArray)) x16 u8 := by rw [← hx16]; exact hh.got 4 _ 16 rfl rfl (hall 4 (by decide))
              obtain ⟨x17, hx17⟩ : ∃ x, A.eval (.tmp 17) = x := ⟨_, rfl⟩
              have f17 : (fun v _ => v = (Value.agg Z.toArray)) x17 u8 := by rw [← hx17]; exact hh.got 5 _ 17 rfl rfl (hall 5 (by decide))
              obtain ⟨x18, hx18⟩ : ∃ x, A.eval (.tmp 18) = x := ⟨_, rfl⟩
              have f18 : (fun v _ => v = (Value.bool true)) x18 u8 := by rw [← hx18]; exact hh.got 6 _ 18 rfl rfl (hall 6 (by decide))
              obtain ⟨x19, hx19⟩ : ∃ x, A.eval (.tmp 19) = x := ⟨_, rfl⟩
              have f19 : (fun v _ => v = (Value.bool true)) x19 u8 := by rw [← hx19]; exact hh.got 7 _ 19 rfl rfl (hall 7 (by decide))
              obtain ⟨x20, hx20⟩ : ∃ x, A.eval (.tmp 20) = x := ⟨_, rfl⟩
              have f20 : (fun v _ => v = (Value.bool true)) x20 u8 := by rw [← hx20]; exact hh.got 8 _ 20 rfl rfl (hall 8 (by decide))
              obtain ⟨x21, hx21⟩ : ∃ x, A.eval (.tmp 21) = x := ⟨_, rfl⟩
              have f21 : (fun v _ => v = undef) x21 u8 := by rw [← hx21]; exact hh.got 9 _ 21 rfl rfl (hall 9 (by decide))
              obtain ⟨x22, hx22⟩ : ∃ x, A.eval (.tmp 22) = x := ⟨_, rfl⟩
              have f22 : (fun v _ => v = undef) x22 u8 := by rw [← hx22]; exact hh.got 10 _ 22 rfl rfl (hall 10 (by decide))
              obtain ⟨x23, hx23⟩ : ∃ x, A.eval (.tmp 23) = x := ⟨_, rfl⟩
              have f23 : (fun v _ => v = undef) x23 u8 := by rw [← hx23]; exact hh.got 11 _ 23 rfl rfl (hall 11 (by decide))
              obtain ⟨x24, hx24⟩ : ∃ x, A.eval (.tmp 24) = x := ⟨_, rfl⟩
              have f24 : (fun v _ => v = undef) x24 u8 := by rw [← hx24]; exact hh.got 12 _ 24 rfl rfl (hall 12 (by decide))
              obtain ⟨x25, hx25⟩ : ∃ x, A.eval (.tmp 25) = x := ⟨_, rfl⟩
              have f25 : (fun v _ => v = undef) x25 u8 := by rw [← hx25]; exact hh.got 13 _ 25 rfl rfl (hall 13 (by decide))
              obtain ⟨x26, hx26⟩ : ∃ x, A.eval (.tmp 26) = x := ⟨_, rfl⟩
              have f26 : (fun v _ => v = undef) x26 u8 := by rw [← hx26]; exact hh.got 14 _ 26 rfl rfl (hall 14 (by decide))
              obtain ⟨x27, hx27⟩ : ∃ x, A.eval (.tmp 27) = x := ⟨_, rfl⟩
              have f27 : (fun v _ => v = undef) x27 u8 := by rw [← hx27]; exact hh.got 15 _ 27 rfl rfl (hall 15 (by decide))
              obtain ⟨x28, hx28⟩ : ∃ x, A.eval (.tmp 28) = x := ⟨_, rfl⟩
              have f28 : (fun v _ => v = undef) x28 u8 := by rw [← hx28]; exact hh.got 16 _ 28 rfl rfl (hall 16 (by decide))
              obtain ⟨x29, hx29⟩ : ∃ x, A.eval (.tmp 29) = x := ⟨_, rfl⟩
              have f29 : (fun v _ => v = undef) x29 u8 := by rw [← hx29]; exact hh.got 17 _ 29 rfl rfl (hall 17 (by decide))
              obtain ⟨x30, hx30⟩ : ∃ x, A.eval (.tmp 30) = x := ⟨_, rfl⟩
              have f30 : (fun v _ => v = undef) x30 u8 := by rw [← hx30]; exact hh.got 18 _ 30 rfl rfl (hall 18 (by decide))
              obtain ⟨x31, hx31⟩ : ∃ x, A.eval (.tmp 31) = x := ⟨_, rfl⟩
              have f31 : (fun v _ => v = undef) x31 u8 := by rw [← hx31]; exact hh.got 19 _ 31 rfl rfl (hall 19 (by decide))
              obtain ⟨x32, hx32⟩ : ∃ x, A.eval (.tmp 32) = x := ⟨_, rfl⟩
              have f32 : (fun v _ => v = undef) x32 u8 := by rw [← hx32]; exact hh.got 20 _ 32 rfl rfl (hall 20 (by decide))
              obtain ⟨x33, hx33⟩ : ∃ x, A.eval (.tmp 33) = x := ⟨_, rfl⟩
              have f33 : (fun v _ => v = (Value.bool true)) x33 u8 := by rw [← hx33]; exact hh.got 21 _ 33 rfl rfl (hall 21 (by decide))
              dsimp only [wrote, List.foldl] at hA
              rw [hx12, hx13, hx14, hx15, hx16, hx17, hx18, hx19, hx20, hx21, hx22, hx23, hx24, hx25, hx26, hx27, hx28, hx29, hx30, hx31, hx32, hx33] at hA
              clear hh hall hx12 hx13 hx14 hx15 hx16 hx17 hx18 hx19 hx20 hx21 hx22 hx23 hx24 hx25 hx26 hx27 hx28 hx29 hx30 hx31 hx32 hx33
              replace f12 := (f12 : x12 = (.pointer (some ⟨p4, 0, none⟩)))
              subst f12
              replace f13 := (f13 : x13 = (.bool true))
              subst f13
              replace f14 := (f14 : x14 = (.bool true))
              subst f14
              replace f15 := (f15 : x15 = (.pointer (some ⟨p4, 2, none⟩)))
              subst f15
              replace f16 := (f16 : x16 = (.agg J.toArray))
              subst f16
              replace f17 := (f17 : x17 = (.agg Z.toArray))
              subst f17
              replace f18 := (f18 : x18 = (.bool true))
              subst f18
              replace f19 := (f19 : x19 = (.bool true))
              subst f19
              replace f20 := (f20 : x20 = (.bool true))
              subst f20
              replace f21 := (f21 : x21 = undef)
              subst f21
              replace f22 := (f22 : x22 = undef)
              subst f22
              replace f23 := (f23 : x23 = undef)
              subst f23
              replace f24 := (f24 : x24 = undef)
              subst f24
              replace f25 := (f25 : x25 = undef)
              subst f25
              replace f26 := (f26 : x26 = undef)
              subst f26
              replace f27 := (f27 : x27 = undef)
              subst f27
              replace f28 := (f28 : x28 = undef)
              subst f28
              replace f29 := (f29 : x29 = undef)
              subst f29
              replace f30 := (f30 : x30 = undef)
              subst f30
              replace f31 := (f31 : x31 = undef)
              subst f31
              replace f32 := (f32 : x32 = undef)
              subst f32
              replace f33 := (f33 : x33 = (.bool true))
              subst f33
              subst hA
              show wpList _ _ _ [] _ _
              unfold wpList
              simp only [Act.put, List.setIfInBounds_toArray, List.set_cons_succ, List.set_cons_zero]
              have HUz := hid (gtrans HU4.out HU.out)
              go_wp2_with fail
              go_ret
              exact ⟨by rw [← HEE.out, HRf.out]; rfl, HUz.out⟩
    · have hge : ¬ (i : Int) < (n : Int) := by omega
      have HRt : Hid (R = true) := hid (by rw [HRg.out]; exact chkR_end l i (by rw [HN.out]; omega))
      go_wp2_with fail
      go_ret
      exact ⟨by rw [← HEE.out, HRt.out]; rfl, HG.out⟩
end Go.Proofs.YtlgjmhemgfjgnaaGreat
