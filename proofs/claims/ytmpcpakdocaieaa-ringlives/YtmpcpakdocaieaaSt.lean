/- stands. -/
import Derived.Test.YtmpcpakdocaieaaFateB
import Derived.Test.YtmpcpakdocaieaaLate
import Derived.Test.YtmpcpakdocaieaaSw
namespace Go.Proofs.Ytmpcpakdocaieaa
open Go Go.RowKit
open Go.RowKit (wrap32 wrap64)

theorem quietAt_build {P : Program} {C : World → Prop} {o : Oper} {A : Act} {u : World} (t : TypeId) (xs : Array (Nat × Operand)) (ho : o.op = .build t xs) (vs : List (Nat × Value)) (hx : (xs.map fun (i, x) => (i, A.eval x)) = vs.toArray) (z : List Value) (hz : P.built t vs = some z.toArray) : o.quietAt P A C u (.agg z.toArray) := by
  have e : P.built t (xs.map fun (i, x) => (i, A.eval x)).toList = some z.toArray := by rw [hx]; exact hz
  unfold Oper.quietAt execOp
  simp only [ho, Sem.run_bind, run_build u t _ _ e]
  exact ⟨rfl, rfl⟩
theorem ld4 (b i : Nat) (x : Bool) (u : World) (h : u.cell? ⟨b, i, none⟩ = some (.bool x)) : (Instr.loadAt 4 (.pointer (some ⟨b, i, none⟩))).run Try.prog u = .ok (.bool x) u := by
  go_simp
theorem ld2' (b i : Nat) (n : Int) (u : World) (h : u.cell? ⟨b, i, none⟩ = some (.int .i64 n)) : (Instr.loadAt 2 (.pointer (some ⟨b, i, none⟩))).run Try.prog u = .ok (.int .i64 n) u := by
  go_simp
theorem eql4 (x y : Operand) (p q : Bool) (u : World) : (do eqGuard .eql 4 x y (.bool p) (.bool q); binOp .eql 4 (.bool p) (.bool q) : Sem Value).run Try.prog u = .ok (.bool (p == q)) u := by
  cases p <;> cases q <;> kernel_rfl
set_option maxRecDepth 100000 in
set_option maxHeartbeats 3200000 in
theorem stands_any (w : World) (v : Value) (F : Nat → Prop) (l : List Ky) (nx : Nat) (fs : List Ft) (fb fo fc : Nat) (hv : RdK w F v l) (hlv : Lv l nx fs) (hnx : nx ≤ 1000) (hs : okF fs)
    (hr : ∀ u, w.grownBy u none → ∀ j (hj : j < fs.length), u.rangeAt fb (fo + j * 35) (fs[j].cells (1 + j))) :
    Calls Try.prog 27 #[.agg #[v, .int .u64 nx], .slice (some ⟨fb, fo, none⟩) fs.length fc] w fun e w' => e = .returned (.bool true) ∧ w.grownBy w' none := by
  have HV := hid hv
  have HLv := hid hlv
  have HS := hid hs
  have HR : Hid (∀ u, w.grownBy u none → ∀ j (hj : j < fs.length), u.rangeAt fb (fo + j * 35) (fs[j].cells (1 + j))) := hid hr
  obtain ⟨ho, a, b, off, c, rfl, hc, Ha, Hc⟩ := hv.open
  obtain ⟨n, HN⟩ : ∃ n, Hid (l.length = n) := ⟨_, hid rfl⟩
  obtain ⟨m, HM⟩ : ∃ n, Hid (fs.length = n) := ⟨_, hid rfl⟩
  have HL8 : Hid (l.length ≤ 8) := hid (goodL_pos (isRing_good hlv.ring).1).2
  have hnm : (nx : Int) = (m : Int) + 1 := by have := hlv.nx_eq; have := HM.out; omega
  have hm99 : m ≤ 999 := by omega
  have HCk : Hid (∀ u, w.grownBy u none → Calls Try.prog 31 #[.agg #[.slice a n c, .int .u64 nx]] u fun e w' => e = .returned (.int .i64 0) ∧ u.grownBy w' none) := fun u hu => by
    have := check_any u _ F l nx (HV.out.keep hu) (by have := HL8.out; omega)
    unfold chk at this
    rw [HLv.out.ring, if_pos rfl, HN.out] at this
    exact this
  have HCu : Hid (∀ u, w.grownBy u none → Calls Try.prog 29 #[.agg #[.slice a n c, .int .u64 nx]] u fun e w' => e = .returned (.tuple #[.agg (lastK l).cells.toArray, .bool true]) ∧ u.grownBy w' none) := fun u hu => by
    have := current_any u _ F l nx (HV.out.keep hu) (by have := HL8.out; omega)
    rw [HLv.out.ring, if_pos rfl, HN.out] at this
    exact this
  have HFi : Hid (∀ (kid : Nat) u, w.grownBy u none → Calls Try.prog 30 #[.agg #[.slice a n c, .int .u64 nx], .int .u64 kid] u fun e w' => e = .returned (.tuple #[.agg (keyOr (fnd l nx kid)).cells.toArray, .bool (fnd l nx kid).isSome]) ∧ u.grownBy w' none) := fun kid u hu => by
    have := rfind_any u _ F l nx kid (HV.out.keep hu) (by have := HL8.out; omega)
    rw [HN.out] at this
    exact this
  have HFn : Hid (∀ u, w.grownBy u none → Calls Try.prog 30 #[.agg #[.slice a n c, .int .u64 nx], .int .u64 ((m : Int) + 1)] u fun e w' => e = .returned (.tuple #[.agg zky.cells.toArray, .bool false]) ∧ u.grownBy w' none) := fun u hu => by
    have := HFi.out nx u hu
    rw [← hnm]
    have hno : fnd l nx nx = none := by
      unfold fnd
      rw [if_pos HLv.out.ring]
      exact HLv.out.find_no (fun j f hj _ e => by have := (List.getElem?_eq_some_iff.1 hj).1; have := HLv.out.nx_eq; omega)
    rw [hno] at this
    exact this
  have HNu : Hid (∀ (e : Int) (u : World), Calls Try.prog 22 #[.int .i64 e] u fun r w' => r = .returned (.int .i64 e) ∧ w' = u) := fun e u => num_any e u
  have HKm : Hid ((lastK l).sec.length = 32 ∧ (lastK l).kid = m) := hid (by
    refine ⟨(ho _ (lastK_mem (goodL_pos (isRing_good hlv.ring).1).1)).2.1, ?_⟩
    obtain ⟨gs, f, e, hf⟩ := hlv.last
    subst e
    have h1 := (hlv.split hf).2.1
    rw [h1, ← HM.out]
    simp)
  obtain ⟨K, HKe⟩ : ∃ x, Hid (lastK l = x) := ⟨_, hid rfl⟩
  rw [HKe.out] at HCu HKm
  have HKL : Hid (K.cells.length = 34) := hid (Ky.cells_length HKm.out.1)
  have HCnt : Hid ((fs.take m).countP (fun f => !f.gone) = n) := hid (by rw [← HM.out, List.take_length, ← HN.out, HLv.out.len])
  rw [HN.out, HM.out]
  rw [HN.out] at HV
  clear hv hc ho Ha Hc hlv hs hr
  obtain ⟨W1, hW1⟩ : ∃ x, w.alloc (.cells #[.slice a n c, .int .u64 nx] 69) = x := ⟨_, rfl⟩
  obtain ⟨b1, hb1⟩ : ∃ x, w.heap.size = x := ⟨_, rfl⟩
  have HB1 : Hid (Blk W1 b1 [.slice a n c, .int .u64 nx] 69) := hid (by rw [← hW1, ← hb1]; exact Blk.new w [.slice a n c, .int .u64 nx] 69)
  have HG1 : Hid (w.grownBy W1 none) := hid (by rw [← hW1]; exact galloc _ _ _)
  have y0 : W1.cell? ⟨b1, 0, none⟩ = some (.slice a n c) := HB1.out.cell 0
  have y1 : W1.cell? ⟨b1, 1, none⟩ = some (.int .u64 nx) := HB1.out.cell 1
  have hq1 : ((nx : Int) != (m : Int) + 1) = false := by rw [hnm]; simp
  have HNm := hid hnm
  clear hnm
  go_enter Try.func27, Try.ntmps27
  go_wp2_with (first
    | (go_at_call 31; (with_reducible refine (HCk.out _ HG1.out).mono ?_); rintro e w3 ⟨rfl, hg3⟩; have HG3 := hid (gtrans HG1.out hg3); have HB3 := hid (HB1.out.keep hg3); clear hg3; have y0 := HB3.out.cell 0; have y1 := HB3.out.cell 1)
    | (go_at_call 22; (with_reducible refine (HNu.out _ _).mono ?_); rintro e w19' ⟨rfl, hw19⟩; have hw19' := hw19.symm; clear hw19; subst hw19'))
  obtain ⟨cn, HCn⟩ : ∃ f : Nat → Nat, Hid (∀ i, (fs.take i).countP (fun f => !f.gone) = f i) := ⟨_, hid (fun _ => rfl)⟩
  have HCs : Hid (∀ (i : Nat) (hi : i < fs.length), cn (i + 1) = cn i + (if fs[i].gone = true then 0 else 1)) := hid (fun i hi => by
    rw [← HCn.out, ← HCn.out, List.take_succ_eq_append_getElem hi, List.countP_append]
    congr 1
    cases h : fs[i].gone <;> simp [h])
  have HCe : Hid (cn m = n) := hid (by rw [← HCn.out]; exact HCnt.out)
  have HC0 : Hid (cn 0 = 0) := hid (by rw [← HCn.out]; rfl)
  have HCle : Hid (∀ i, cn i ≤ 999) := hid (fun i => by
    rw [← HCn.out]
    refine Nat.le_trans List.countP_le_length ?_
    rw [List.length_take]
    have := HM.out
    omega)
  clear HCnt HCn
  go_loopw [5, 6] (fun cv iv wr => ∃ i : Nat, iv = .int .i64 i ∧ cv = .int .i64 (cn i : Nat) ∧ i ≤ m ∧ Hid (w3.grownBy wr none)) (fun _ iv _ => m - (intOf iv).toNat)
  case atStart => exact ⟨0, rfl, by rw [HC0.out]; rfl, Nat.zero_le _, hid (grefl _ _)⟩
  case round =>
    obtain ⟨i, rfl, rfl, hin, HG⟩ := hrel
    have HB4 := hid (HB3.out.keep HG.out)
    have HG4 := hid (gtrans HG3.out HG.out)
    clear y0 y1
    have y0 := HB4.out.cell 0
    have y1 := HB4.out.cell 1
    by_cases him : i < m
    · have hil : i < fs.length := by rw [HM.out]; exact him
      have hlt' : (i : Int) < (m : Int) := by omega
      have hrr := fun u (hu : wr.grownBy u none) => HR.out u (gtrans HG4.out hu) i hil
      have hsl := HS.out _ (List.getElem_mem hil)
      have HF0 : Hid (∀ u, wr.grownBy u none → u.cell? ⟨fb, fo + i * 35, none⟩ = some (.int .u64 ((i + 1 : Nat) : Int))) := hid (fun u hu => by have := hrr u hu 0 _ (Ft.c0 _ _); rw [show 1 + i = i + 1 by omega] at this; exact this)
      have HF33 : Hid (∀ u, wr.grownBy u none → u.cell? ⟨fb, fo + i * 35 + 33, none⟩ = some (.int .i64 fs[i].til)) := hid (fun u hu => hrr u hu 33 _ (Ft.c33 hsl))
      have HF34 : Hid (∀ u, wr.grownBy u none → u.cell? ⟨fb, fo + i * 35 + 34, none⟩ = some (.bool fs[i].gone)) := hid (fun u hu => hrr u hu 34 _ (Ft.c34 hsl))
      have HFs : Hid (∀ u, wr.grownBy u none → u.rangeAt fb (fo + i * 35 + 1) (Lib.byteCells fs[i].sec)) := hid (fun u hu => Ft.sec_at (hrr u hu))
      have HFf : Hid (fs[i].gone = false → fnd l nx (i + 1) = some ⟨i + 1, fs[i].sec, fs[i].til⟩) := hid (fun h => by
        unfold fnd
        rw [if_pos HLv.out.ring]
        exact HLv.out.find_some (List.getElem?_eq_getElem hil) h)
      have HFg : Hid (fs[i].gone = true → fnd l nx (i + 1) = none) := hid (fun h => by
        unfold fnd
        rw [if_pos HLv.out.ring]
        refine HLv.out.find_no (fun j f hj hf e => ?_)
        have : j = i := by omega
        subst this
        rw [List.getElem?_eq_getElem hil] at hj
        injection hj with hj
        rw [hj, hf] at h
        cases h)
      have hcs := HCs.out i hil
      obtain ⟨Z, HZe⟩ : ∃ x : Ky, Hid (⟨i + 1, fs[i].sec, fs[i].til⟩ = x) := ⟨_, hid rfl⟩
      have hZs : fs[i].sec = Z.sec := by rw [← HZe.out]
      have hZt : fs[i].til = Z.til := by rw [← HZe.out]
      have hZk : i + 1 = Z.kid := by rw [← HZe.out]
      have HZs : Hid (Z.sec.length = 32) := hid (by rw [← hZs]; exact hsl)
      have HZL : Hid (Z.cells.length = 34) := hid (Ky.cells_length HZs.out)
      rw [hZs] at HFs
      rw [hZt] at HF33
      rw [HZe.out] at HFf
      obtain ⟨KD, HKD⟩ : ∃ x, Hid (i + 1 = x) := ⟨_, hid rfl⟩
      rw [HKD.out] at HF0 HFf HFg
      have HBk : Hid (Try.prog.built 107 [(0, .int .u64 (KD : Int)), (1, .agg (Lib.byteCells Z.sec).toArray), (2, .int .i64 Z.til)] = some Z.cells.toArray) := hid (by rw [← HKD.out, hZk]; exact built_all Z.kid Z.sec Z.til HZs.out)
      have HNz : Hid (∀ (x y : Operand) (u : World), (do eqGuard .neq 107 x y (.agg Z.cells.toArray) (.agg Z.cells.toArray); binOp .neq 107 (.agg Z.cells.toArray) (.agg Z.cells.toArray) : Sem Value).run Try.prog u = .ok (.bool false) u) := fun x y u => by rw [neq_key HZs.out HZs.out]; simp
      have HFd0 : Hid (∀ u, wr.grownBy u none → Calls Try.prog 30 #[.agg [.slice a n c, .int .u64 nx].toArray, .int .u64 KD] u fun e w' => e = .returned (.tuple #[.agg (keyOr (fnd l nx KD)).cells.toArray, .bool (fnd l nx KD).isSome]) ∧ u.grownBy w' none) := fun u hu => HFi.out KD u (gtrans HG4.out hu)
      obtain ⟨gn, HGn⟩ : ∃ x, Hid (fs[i].gone = x) := ⟨_, hid rfl⟩
      rw [HGn.out] at HF34 HFf HFg hcs
      have HCs2 := hid hcs
      have hcl := HCle.out i
      obtain ⟨q, HQ⟩ : ∃ x, Hid (cn i = x) := ⟨_, hid rfl⟩
      rw [HQ.out] at HCs2 hcl ⊢
      clear hrr hsl hZs hZt hZk hcs
      obtain ⟨HH, HHs⟩ : ∃ x, Hid (wr.heap.size = x) := ⟨_, hid rfl⟩
      cases gn with
      | true =>
        have HFd : Hid (∀ u, wr.grownBy u none → Calls Try.prog 30 #[.agg [.slice a n c, .int .u64 nx].toArray, .int .u64 KD] u fun e w' => e = .returned (.tuple #[.agg zky.cells.toArray, .bool false]) ∧ u.grownBy w' none) := hid (by
          have h := HFd0.out
          rw [HFg.out rfl] at h
          exact h)
        have HE4 : Hid (∀ (x y : Operand) (u : World), (do eqGuard .eql 4 x y (.bool false) (.bool true); binOp .eql 4 (.bool false) (.bool true) : Sem Value).run Try.prog u = .ok (.bool false) u) := fun x y u => eql4 x y false true u
        have HSn : Hid (cn (i + 1) = q) := hid (by rw [HCs2.out]; rfl)
        clear HFd0
        go_wp2_with fail
        have HRL : Hid (zky.cells.length = 34) := hid rfl
        refine wp_region_late (by kernel_rfl) [fun v _ => v = (Value.agg [Value.slice a n c, Value.int .u64 nx].toArray), fun v _ => v = (Value.slice (some ⟨fb, fo, none⟩) m fc), fun v _ => v = (Value.int .i64 (i : Nat)), fun v _ => v = (Value.pointer (some ⟨fb, fo + i * 35, none⟩)), fun v _ => v = (Value.pointer (some ⟨fb, fo + i * 35, none⟩)), fun v _ => v = (Value.int .u64 (KD : Nat)), fun v _ => v = (Value.tuple #[Value.agg zky.cells.toArray, Value.bool false]), fun v _ => v = (Value.tuple #[Value.agg zky.cells.toArray, Value.bool false]), fun v _ => v = (Value.agg zky.cells.toArray), fun v _ => v = (Value.bool false), fun v u => ∃ bb, v = Value.pointer (some ⟨bb, 0, none⟩) ∧ Blk u bb zky.cells 107 ∧ HH ≤ bb] (none) (fun _ => none) 11 9 (by kernel_rfl) (by kernel_rfl) (by kernel_rfl) (by kernel_rfl) (by kernel_rfl) (by decide) (by decide) _ _ rfl rfl noRow_one (fun _ => .inl rfl) ⟨fun i v u u' hki h hg => h, fun i v u u' hki h hg => h, fun i v u u' hki h hg => h, fun i v u u' hki h hg => h, fun i v u u' hki h hg => h, fun i v u u' hki h hg => h, fun i v u u' hki h hg => h, fun i v u u' hki h hg => h, fun i v u u' hki h hg => h, fun i v u u' hki h hg => h, fun i v u u' hki h hg => (by obtain ⟨bb, e, hb, hl⟩ := h; exact ⟨bb, e, hb.keep hg, hl⟩), trivial⟩ ⟨?_, ?_, ?_, ?_, ?_, ?_, ?_, ?_, ?_, ?_, ?_, trivial⟩ ?_ ?_
        · intro A u hu hpu hsz hout hdeps
          have e2 : A.eval (.tmp 2) = (.pointer (some ⟨b1, 0, none⟩)) := (hout 2 (by kernel_rfl)).trans rfl
          refine ifw_none rfl ?_
          with_reducible refine shown_q (Value.agg [Value.slice a n c, Value.int .u64 nx].toArray) ?qq_1g_0 (fun _ _ => ?qr_1g_0)
          case qr_1g_0 => exact (rfl : (Value.agg [Value.slice a n c, Value.int .u64 nx].toArray) = (Value.agg [Value.slice a n c, Value.int .u64 nx].toArray))
          with_reducible refine quietAt_load 69 (.tmp 2) ?h0_1g_0 b1 0 [Value.slice a n c, Value.int .u64 nx] (.struct (Try.prog.fieldsOf 69)) ?h1_1g_0 ?h2_1g_0 ?h3_1g_0 ?h4_1g_0 ?h5_1g_0
          case h0_1g_0 => rfl
          case h1_1g_0 => exact e2
          case h2_1g_0 => exact (HB4.out.keep hu).whole
          case h3_1g_0 => exact Try.under69
          case h4_1g_0 => rfl
          case h5_1g_0 => exact Try.size69
        · intro A u hu hpu hsz hout hdeps
          have e1 : A.eval (.tmp 1) = (.slice (some ⟨fb, fo, none⟩) m fc) := (hout 1 (by kernel_rfl)).trans rfl
          refine ifw_none rfl ?_
          with_reducible refine shown_q (Value.slice (some ⟨fb, fo, none⟩) m fc) ?qq_1g_1 (fun _ _ => ?qr_1g_1)
          case qr_1g_1 => exact (rfl : (Value.slice (some ⟨fb, fo, none⟩) m fc) = (Value.slice (some ⟨fb, fo, none⟩) m fc))
          with_reducible refine quietAt_mv (.tmp 1) (Value.slice (some ⟨fb, fo, none⟩) m fc) ?h0_1g_1 ?h1_1g_1
          case h0_1g_1 => rfl
          case h1_1g_1 => exact e1
        · intro A u hu hpu hsz hout hdeps
          have e6 : A.eval (.tmp 6) = (.int .i64 (i : Nat)) := (hout 6 (by kernel_rfl)).trans rfl
          refine ifw_none rfl ?_
          with_reducible refine shown_q (Value.int .i64 (i : Nat)) ?qq_1g_2 (fun _ _ => ?qr_1g_2)
          case qr_1g_2 => exact (rfl : (Value.int .i64 (i : Nat)) = (Value.int .i64 (i : Nat)))
          with_reducible refine quietAt_mv (.tmp 6) (Value.int .i64 (i : Nat)) ?h0_1g_2 ?h1_1g_2
          case h0_1g_2 => rfl
          case h1_1g_2 => exact e6
        · intro A u hu hpu hsz hout hdeps
          have e34 : A.eval (.tmp 34) = (.slice (some ⟨fb, fo, none⟩) m fc) := by have h := depL hdeps 1 (by kernel_rfl) 34 (by kernel_rfl); exact h
          have e35 : A.eval (.tmp 35) = (.int .i64 (i : Nat)) := by have h := depL hdeps 2 (by kernel_rfl) 35 (by kernel_rfl); exact h
          refine ifw_none rfl ?_
          with_reducible refine shown_q (Value.pointer (some ⟨fb, fo + i * 35, none⟩)) ?qq_1g_3 (fun _ _ => ?qr_1g_3)
          case qr_1g_3 => exact (rfl : (Value.pointer (some ⟨fb, fo + i * 35, none⟩)) = (Value.pointer (some ⟨fb, fo + i * 35, none⟩)))
          with_reducible refine quietAt_idx 97 (.tmp 34) (.tmp 35) (Value.slice (some ⟨fb, fo, none⟩) m fc) (Value.int .i64 (i : Nat)) (Value.pointer (some ⟨fb, fo + i * 35, none⟩)) ?h0_1g_3 ?h1_1g_3 ?h2_1g_3 ?h3_1g_3
          case h0_1g_3 => rfl
          case h1_1g_3 => exact e34
          case h2_1g_3 => exact e35
          case h3_1g_3 => exact idx97 fb fo m fc i him u
        · intro A u hu hpu hsz hout hdeps
          have e36 : A.eval (.tmp 36) = (.pointer (some ⟨fb, fo + i * 35, none⟩)) := by have h := depL hdeps 3 (by kernel_rfl) 36 (by kernel_rfl); exact h
          refine ifw_none rfl ?_
          with_reducible refine shown_q (Value.pointer (some ⟨fb, fo + i * 35, none⟩)) ?qq_1g_4 (fun _ _ => ?qr_1g_4)
          case qr_1g_4 => exact (rfl : (Value.pointer (some ⟨fb, fo + i * 35, none⟩)) = (Value.pointer (some ⟨fb, fo + i * 35, none⟩)))
          with_reducible refine quietAt_field 96 (.tmp 36) 0 ?h0_1g_4 ⟨fb, fo + i * 35, none⟩ ⟨fb, fo + i * 35, none⟩ ?h1_1g_4 ?h2_1g_4
          case h0_1g_4 => rfl
          case h1_1g_4 => exact e36
          case h2_1g_4 => kernel_rfl
        · intro A u hu hpu hsz hout hdeps
          have e37 : A.eval (.tmp 37) = (.pointer (some ⟨fb, fo + i * 35, none⟩)) := by have h := depL hdeps 4 (by kernel_rfl) 37 (by kernel_rfl); exact h
          refine ifw_none rfl ?_
          with_reducible refine shown_q (Value.int .u64 (KD : Nat)) ?qq_1g_5 (fun _ _ => ?qr_1g_5)
          case qr_1g_5 => exact (rfl : (Value.int .u64 (KD : Nat)) = (Value.int .u64 (KD : Nat)))
          with_reducible refine quietAt_ld 67 (.tmp 37) (Value.pointer (some ⟨fb, fo + i * 35, none⟩)) (Value.int .u64 (KD : Nat)) ?h0_1g_5 ?h1_1g_5 ?h2_1g_5
          case h0_1g_5 => rfl
          case h1_1g_5 => exact e37
          case h2_1g_5 => exact ld67 fb (fo + i * 35) KD u (HF0.out u hu)
        · intro A u hu hpu hsz hout hdeps
          have e33 : A.eval (.tmp 33) = (.agg [.slice a n c, .int .u64 nx].toArray) := by have h := depL hdeps 0 (by kernel_rfl) 33 (by kernel_rfl); exact h
          have e38 : A.eval (.tmp 38) = (.int .u64 (KD : Nat)) := by have h := depL hdeps 5 (by kernel_rfl) 38 (by kernel_rfl); exact h
          refine ifw_none rfl ?_
          with_reducible refine shown_q (Value.tuple #[Value.agg zky.cells.toArray, Value.bool false]) ?qq_1g_6 (fun _ _ => ?qr_1g_6)
          case qr_1g_6 => exact (rfl : (Value.tuple #[Value.agg zky.cells.toArray, Value.bool false]) = (Value.tuple #[Value.agg zky.cells.toArray, Value.bool false]))
          with_reducible refine quietAt_call 30 Try.f30 ?h0_1g_6 ?h1_1g_6 ?h2_1g_6 #[.tmp 33, .tmp 38] #[69, 67] ?h3_1g_6 (Value.tuple #[Value.agg zky.cells.toArray, Value.bool false]) #[(Value.agg [Value.slice a n c, Value.int .u64 nx].toArray), (Value.int .u64 (KD : Nat))] ?h4_1g_6 ?h5_1g_6
          case h0_1g_6 => exact Try.func30
          case h1_1g_6 => kernel_rfl
          case h2_1g_6 => kernel_rfl
          case h3_1g_6 => rfl
          case h4_1g_6 => exact map2 _ _ _ _ _ e33 e38
          case h5_1g_6 => exact HFd.out u hu
        · intro A u hu hpu hsz hout hdeps
          have e39 : A.eval (.tmp 39) = (.tuple #[.agg zky.cells.toArray, .bool false]) := by have h := depL hdeps 6 (by kernel_rfl) 39 (by kernel_rfl); exact h
          refine ifw_none rfl ?_
          with_reducible refine shown_q (Value.tuple #[Value.agg zky.cells.toArray, Value.bool false]) ?qq_1g_7 (fun _ _ => ?qr_1g_7)
          case qr_1g_7 => exact (rfl : (Value.tuple #[Value.agg zky.cells.toArray, Value.bool false]) = (Value.tuple #[Value.agg zky.cells.toArray, Value.bool false]))
          with_reducible refine quietAt_mv (.tmp 39) (Value.tuple #[Value.agg zky.cells.toArray, Value.bool false]) ?h0_1g_7 ?h1_1g_7
          case h0_1g_7 => rfl
          case h1_1g_7 => exact e39
        · intro A u hu hpu hsz hout hdeps
          have e32 : A.eval (.tmp 32) = (.tuple #[.agg zky.cells.toArray, .bool false]) := by have h := depL hdeps 7 (by kernel_rfl) 32 (by kernel_rfl); exact h
          refine ifw_none rfl ?_
          with_reducible refine shown_q (Value.agg zky.cells.toArray) ?qq_1g_8 (fun _ _ => ?qr_1g_8)
          case qr_1g_8 => exact (rfl : (Value.agg zky.cells.toArray) = (Value.agg zky.cells.toArray))
          with_reducible refine quietAt_ex (.tmp 32) 0 ?h0_1g_8 #[Value.agg zky.cells.toArray, Value.bool false] (Value.agg zky.cells.toArray) ?h1_1g_8 ?h2_1g_8
          case h0_1g_8 => rfl
          case h1_1g_8 => exact e32
          case h2_1g_8 => kernel_rfl
        · intro A u hu hpu hsz hout hdeps
          have e32 : A.eval (.tmp 32) = (.tuple #[.agg zky.cells.toArray, .bool false]) := by have h := depL hdeps 7 (by kernel_rfl) 32 (by kernel_rfl); exact h
          refine ifw_none rfl ?_
          with_reducible refine shown_q (Value.bool false) ?qq_1g_9 (fun _ _ => ?qr_1g_9)
          case qr_1g_9 => exact (rfl : (Value.bool false) = (Value.bool false))
          with_reducible refine quietAt_ex (.tmp 32) 1 ?h0_1g_9 #[Value.agg zky.cells.toArray, Value.bool false] (Value.bool false) ?h1_1g_9 ?h2_1g_9
          case h0_1g_9 => rfl
          case h1_1g_9 => exact e32
          case h2_1g_9 => kernel_rfl
        · intro A u hu hpu hsz hout hdeps
          refine ifw_none rfl ?_
          exact shown_alloc 107 rfl zky.cells Try.zero107 (fun w' h _ => ⟨u.heap.size, rfl, h, by have := hu.size; have := HHs.out; omega⟩)
        · intro A u7 listed hh hall
          have hA := hh.frame
          have HU := hid hh.grown
          obtain ⟨x33, hx33⟩ : ∃ x, A.eval (.tmp 33) = x := ⟨_, rfl⟩
          have f33 : (fun v _ => v = (Value.agg [Value.slice a n c, Value.int .u64 nx].toArray)) x33 u7 := by rw [← hx33]; exact hh.got 0 _ 33 rfl rfl (hall 0 (by decide))
          obtain ⟨x34, hx34⟩ : ∃ x, A.eval (.tmp 34) = x := ⟨_, rfl⟩
          have f34 : (fun v _ => v = (Value.slice (some ⟨fb, fo, none⟩) m fc)) x34 u7 := by rw [← hx34]; exact hh.got 1 _ 34 rfl rfl (hall 1 (by decide))
          obtain ⟨x35, hx35⟩ : ∃ x, A.eval (.tmp 35) = x := ⟨_, rfl⟩
          have f35 : (fun v _ => v = (Value.int .i64 (i : Nat))) x35 u7 := by rw [← hx35]; exact hh.got 2 _ 35 rfl rfl (hall 2 (by decide))
          obtain ⟨x36, hx36⟩ : ∃ x, A.eval (.tmp 36) = x := ⟨_, rfl⟩
          have f36 : (fun v _ => v = (Value.pointer (some ⟨fb, fo + i * 35, none⟩))) x36 u7 := by rw [← hx36]; exact hh.got 3 _ 36 rfl rfl (hall 3 (by decide))
          obtain ⟨x37, hx37⟩ : ∃ x, A.eval (.tmp 37) = x := ⟨_, rfl⟩
          have f37 : (fun v _ => v = (Value.pointer (some ⟨fb, fo + i * 35, none⟩))) x37 u7 := by rw [← hx37]; exact hh.got 4 _ 37 rfl rfl (hall 4 (by decide))
          obtain ⟨x38, hx38⟩ : ∃ x, A.eval (.tmp 38) = x := ⟨_, rfl⟩
          have f38 : (fun v _ => v = (Value.int .u64 (KD : Nat))) x38 u7 := by rw [← hx38]; exact hh.got 5 _ 38 rfl rfl (hall 5 (by decide))
          obtain ⟨x39, hx39⟩ : ∃ x, A.eval (.tmp 39) = x := ⟨_, rfl⟩
          have f39 : (fun v _ => v = (Value.tuple #[Value.agg zky.cells.toArray, Value.bool false])) x39 u7 := by rw [← hx39]; exact hh.got 6 _ 39 rfl rfl (hall 6 (by decide))
          obtain ⟨x32, hx32⟩ : ∃ x, A.eval (.tmp 32) = x := ⟨_, rfl⟩
          have f32 : (fun v _ => v = (Value.tuple #[Value.agg zky.cells.toArray, Value.bool false])) x32 u7 := by rw [← hx32]; exact hh.got 7 _ 32 rfl rfl (hall 7 (by decide))
          obtain ⟨x40, hx40⟩ : ∃ x, A.eval (.tmp 40) = x := ⟨_, rfl⟩
          have f40 : (fun v _ => v = (Value.agg zky.cells.toArray)) x40 u7 := by rw [← hx40]; exact hh.got 8 _ 40 rfl rfl (hall 8 (by decide))
          obtain ⟨x41, hx41⟩ : ∃ x, A.eval (.tmp 41) = x := ⟨_, rfl⟩
          have f41 : (fun v _ => v = (Value.bool false)) x41 u7 := by rw [← hx41]; exact hh.got 9 _ 41 rfl rfl (hall 9 (by decide))
          obtain ⟨x7, hx7⟩ : ∃ x, A.eval (.tmp 7) = x := ⟨_, rfl⟩
          have f7 : (fun v u => ∃ bb, v = Value.pointer (some ⟨bb, 0, none⟩) ∧ Blk u bb zky.cells 107 ∧ HH ≤ bb) x7 u7 := by rw [← hx7]; exact hh.got 10 _ 7 rfl rfl (hall 10 (by decide))
          obtain ⟨x8, hx8⟩ : ∃ x, A.eval (.tmp 8) = x := ⟨_, rfl⟩
          dsimp only [wrote, List.foldl] at hA
          rw [hx33, hx34, hx35, hx36, hx37, hx38, hx39, hx32, hx40, hx41, hx7, hx8] at hA
          clear hh hall hx33 hx34 hx35 hx36 hx37 hx38 hx39 hx32 hx40 hx41 hx7 hx8
          replace f33 := (f33 : x33 = (.agg [.slice a n c, .int .u64 nx].toArray))
          subst f33
          replace f34 := (f34 : x34 = (.slice (some ⟨fb, fo, none⟩) m fc))
          subst f34
          replace f35 := (f35 : x35 = (.int .i64 (i : Nat)))
          subst f35
          replace f36 := (f36 : x36 = (.pointer (some ⟨fb, fo + i * 35, none⟩)))
          subst f36
          replace f37 := (f37 : x37 = (.pointer (some ⟨fb, fo + i * 35, none⟩)))
          subst f37
          replace f38 := (f38 : x38 = (.int .u64 (KD : Nat)))
          subst f38
          replace f39 := (f39 : x39 = (.tuple #[.agg zky.cells.toArray, .bool false]))
          subst f39
          replace f32 := (f32 : x32 = (.tuple #[.agg zky.cells.toArray, .bool false]))
          subst f32
          replace f40 := (f40 : x40 = (.agg zky.cells.toArray))
          subst f40
          replace f41 := (f41 : x41 = (.bool false))
          subst f41
          obtain ⟨b7, e7, hb7b, hb7l⟩ := f7
          subst e7
          subst hA
          show wpList _ _ _ [_, _] _ _
          simp only [Act.put, List.setIfInBounds_toArray, List.set_cons_succ, List.set_cons_zero]
          go_wp2_with ((with_reducible refine wpList_store_all (by with_unfolding_all rfl) 107 _ _ (by with_unfolding_all rfl) _ zky.cells zky.cells 107 (by with_unfolding_all rfl) (by with_unfolding_all rfl) hb7b (by with_unfolding_all rfl) (by with_unfolding_all exact Try.size107) (Ky.one _) ?_); intro w30 B30 g30 s30; have HB30 := hid B30; have HG30 := hid g30; have HS30 := hid s30; clear B30 g30 s30)
          have HSq := hid ((HU.out).andThen HG30.out (fun j hj => .inl (by injection hj with hj; have := HHs.out; omega)))
          clear HU hb7b hb7l HG30 HS30
          refine wp_region_list (by kernel_rfl) [fun v _ => v = (Value.bool false), fun v _ => v = (Value.slice (some ⟨fb, fo, none⟩) m fc), fun v _ => v = (Value.int .i64 (i : Nat)), fun v _ => v = (Value.pointer (some ⟨fb, fo + i * 35, none⟩)), fun v _ => v = (Value.pointer (some ⟨fb, fo + i * 35 + 34, none⟩)), fun v _ => v = (Value.bool true), fun v _ => v = (Value.bool false), fun v _ => v = (Value.bool false), fun v _ => v = (Value.bool false), fun v _ => v = (Value.bool false), fun v _ => v = undef, fun v _ => v = undef, fun v _ => v = undef, fun v _ => v = undef, fun v _ => v = undef, fun v _ => v = undef, fun v _ => v = undef, fun v _ => v = undef, fun v _ => v = undef, fun v _ => v = undef, fun v _ => v = undef, fun v _ => v = undef, fun v _ => v = undef, fun v _ => v = undef, fun v _ => v = undef, fun v _ => v = undef, fun v _ => v = undef, fun v _ => v = undef, fun v _ => v = (Value.bool false), fun v _ => v = (Value.bool false)] (none) (fun _ => none) 30 (by kernel_rfl) (by kernel_rfl) (by kernel_rfl) (by kernel_rfl) (by decide) noRow_one (fun _ => .inl rfl) ⟨fun i v u u' hki h hg => h, fun i v u u' hki h hg => h, fun i v u u' hki h hg => h, fun i v u u' hki h hg => h, fun i v u u' hki h hg => h, fun i v u u' hki h hg => h, fun i v u u' hki h hg => h, fun i v u u' hki h hg => h, fun i v u u' hki h hg => h, fun i v u u' hki h hg => h, fun i v u u' hki h hg => h, fun i v u u' hki h hg => h, fun i v u u' hki h hg => h, fun i v u u' hki h hg => h, fun i v u u' hki h hg => h, fun i v u u' hki h hg => h, fun i v u u' hki h hg => h, fun i v u u' hki h hg => h, fun i v u u' hki h hg => h, fun i v u u' hki h hg => h, fun i v u u' hki h hg => h, fun i v u u' hki h hg => h, fun i v u u' hki h hg => h, fun i v u u' hki h hg => h, fun i v u u' hki h hg => h, fun i v u u' hki h hg => h, fun i v u u' hki h hg => h, fun i v u u' hki h hg => h, fun i v u u' hki h hg => h, fun i v u u' hki h hg => h, trivial⟩ ⟨?_, ?_, ?_, ?_, ?_, ?_, ?_, ?_, ?_, ?_, ?_, ?_, ?_, ?_, ?_, ?_, ?_, ?_, ?_, ?_, ?_, ?_, ?_, ?_, ?_, ?_, ?_, ?_, ?_, ?_, trivial⟩ ?_
          · intro A u hu hpu hsz hout hdeps
            have e8 : A.eval (.tmp 8) = (.bool false) := (hout 8 (by kernel_rfl)).trans rfl
            refine ifw_none rfl ?_
            with_reducible refine shown_q (Value.bool false) ?qq_2g_0 (fun _ _ => ?qr_2g_0)
            case qr_2g_0 => exact (rfl : (Value.bool false) = (Value.bool false))
            with_reducible refine quietAt_mv (.tmp 8) (Value.bool false) ?h0_2g_0 ?h1_2g_0
            case h0_2g_0 => rfl
            case h1_2g_0 => exact e8
          · intro A u hu hpu hsz hout hdeps
            have e1 : A.eval (.tmp 1) = (.slice (some ⟨fb, fo, none⟩) m fc) := (hout 1 (by kernel_rfl)).trans rfl
            refine ifw_none rfl ?_
            with_reducible refine shown_q (Value.slice (some ⟨fb, fo, none⟩) m fc) ?qq_2g_1 (fun _ _ => ?qr_2g_1)
            case qr_2g_1 => exact (rfl : (Value.slice (some ⟨fb, fo, none⟩) m fc) = (Value.slice (some ⟨fb, fo, none⟩) m fc))
            with_reducible refine quietAt_mv (.tmp 1) (Value.slice (some ⟨fb, fo, none⟩) m fc) ?h0_2g_1 ?h1_2g_1
            case h0_2g_1 => rfl
            case h1_2g_1 => exact e1
          · intro A u hu hpu hsz hout hdeps
            have e6 : A.eval (.tmp 6) = (.int .i64 (i : Nat)) := (hout 6 (by kernel_rfl)).trans rfl
            refine ifw_none rfl ?_
            with_reducible refine shown_q (Value.int .i64 (i : Nat)) ?qq_2g_2 (fun _ _ => ?qr_2g_2)
            case qr_2g_2 => exact (rfl : (Value.int .i64 (i : Nat)) = (Value.int .i64 (i : Nat)))
            with_reducible refine quietAt_mv (.tmp 6) (Value.int .i64 (i : Nat)) ?h0_2g_2 ?h1_2g_2
            case h0_2g_2 => rfl
            case h1_2g_2 => exact e6
          · intro A u hu hpu hsz hout hdeps
            have e43 : A.eval (.tmp 43) = (.slice (some ⟨fb, fo, none⟩) m fc) := by have h := depL hdeps 1 (by kernel_rfl) 43 (by kernel_rfl); exact h
            have e44 : A.eval (.tmp 44) = (.int .i64 (i : Nat)) := by have h := depL hdeps 2 (by kernel_rfl) 44 (by kernel_rfl); exact h
            refine ifw_none rfl ?_
            with_reducible refine shown_q (Value.pointer (some ⟨fb, fo + i * 35, none⟩)) ?qq_2g_3 (fun _ _ => ?qr_2g_3)
            case qr_2g_3 => exact (rfl : (Value.pointer (some ⟨fb, fo + i * 35, none⟩)) = (Value.pointer (some ⟨fb, fo + i * 35, none⟩)))
            with_reducible refine quietAt_idx 97 (.tmp 43) (.tmp 44) (Value.slice (some ⟨fb, fo, none⟩) m fc) (Value.int .i64 (i : Nat)) (Value.pointer (some ⟨fb, fo + i * 35, none⟩)) ?h0_2g_3 ?h1_2g_3 ?h2_2g_3 ?h3_2g_3
            case h0_2g_3 => rfl
            case h1_2g_3 => exact e43
            case h2_2g_3 => exact e44
            case h3_2g_3 => exact idx97 fb fo m fc i him u
          · intro A u hu hpu hsz hout hdeps
            have e45 : A.eval (.tmp 45) = (.pointer (some ⟨fb, fo + i * 35, none⟩)) := by have h := depL hdeps 3 (by kernel_rfl) 45 (by kernel_rfl); exact h
            refine ifw_none rfl ?_
            with_reducible refine shown_q (Value.pointer (some ⟨fb, fo + i * 35 + 34, none⟩)) ?qq_2g_4 (fun _ _ => ?qr_2g_4)
            case qr_2g_4 => exact (rfl : (Value.pointer (some ⟨fb, fo + i * 35 + 34, none⟩)) = (Value.pointer (some ⟨fb, fo + i * 35 + 34, none⟩)))
            with_reducible refine quietAt_field 96 (.tmp 45) 3 ?h0_2g_4 ⟨fb, fo + i * 35, none⟩ ⟨fb, fo + i * 35 + 34, none⟩ ?h1_2g_4 ?h2_2g_4
            case h0_2g_4 => rfl
            case h1_2g_4 => exact e45
            case h2_2g_4 => kernel_rfl
          · intro A u hu hpu hsz hout hdeps
            have e46 : A.eval (.tmp 46) = (.pointer (some ⟨fb, fo + i * 35 + 34, none⟩)) := by have h := depL hdeps 4 (by kernel_rfl) 46 (by kernel_rfl); exact h
            refine ifw_none rfl ?_
            with_reducible refine shown_q (Value.bool true) ?qq_2g_5 (fun _ _ => ?qr_2g_5)
            case qr_2g_5 => exact (rfl : (Value.bool true) = (Value.bool true))
            with_reducible refine quietAt_ld 4 (.tmp 46) (Value.pointer (some ⟨fb, fo + i * 35 + 34, none⟩)) (Value.bool true) ?h0_2g_5 ?h1_2g_5 ?h2_2g_5
            case h0_2g_5 => rfl
            case h1_2g_5 => exact e46
            case h2_2g_5 => exact ld4 fb (fo + i * 35 + 34) true u (HF34.out u (gtrans HSq.out hu))
          · intro A u hu hpu hsz hout hdeps
            have e42 : A.eval (.tmp 42) = (.bool false) := by have h := depL hdeps 0 (by kernel_rfl) 42 (by kernel_rfl); exact h
            have e47 : A.eval (.tmp 47) = (.bool true) := by have h := depL hdeps 5 (by kernel_rfl) 47 (by kernel_rfl); exact h
            refine ifw_none rfl ?_
            with_reducible refine shown_q (Value.bool false) ?qq_2g_6 (fun _ _ => ?qr_2g_6)
            case qr_2g_6 => exact (rfl : (Value.bool false) = (Value.bool false))
            with_reducible refine quietAt_bin .eql 4 (.tmp 42) (.tmp 47) 4 (Value.bool false) (Value.bool true) (Value.bool false) ?h0_2g_6 ?h1_2g_6 ?h2_2g_6 ?h3_2g_6
            case h0_2g_6 => rfl
            case h1_2g_6 => exact e42
            case h2_2g_6 => exact e47
            case h3_2g_6 => exact HE4.out _ _ u
          · intro A u hu hpu hsz hout hdeps
            have e48 : A.eval (.tmp 48) = (.bool false) := by have h := depL hdeps 6 (by kernel_rfl) 48 (by kernel_rfl); exact h
            refine ifw_none rfl ?_
            with_reducible refine shown_q (Value.bool false) ?qq_2g_7 (fun _ _ => ?qr_2g_7)
            case qr_2g_7 => exact (rfl : (Value.bool false) = (Value.bool false))
            with_reducible refine quietAt_mv (.tmp 48) (Value.bool false) ?h0_2g_7 ?h1_2g_7
            case h0_2g_7 => rfl
            case h1_2g_7 => exact e48
          · intro A u hu hpu hsz hout hdeps
            have e49 : A.eval (.tmp 49) = (.bool false) := by have h := depL hdeps 7 (by kernel_rfl) 49 (by kernel_rfl); exact h
            have e8 : A.eval (.tmp 8) = (.bool false) := (hout 8 (by kernel_rfl)).trans rfl
            refine ifw_want 7 false 49 rfl rfl e49 ?_
            with_reducible refine shown_q (Value.bool false) ?qq_2g_8 (fun _ _ => ?qr_2g_8)
            case qr_2g_8 => exact (rfl : (Value.bool false) = (Value.bool false))
            with_reducible refine quietAt_mv (.tmp 8) (Value.bool false) ?h0_2g_8 ?h1_2g_8
            case h0_2g_8 => rfl
            case h1_2g_8 => exact e8
          · intro A u hu hpu hsz hout hdeps
            have e49 : A.eval (.tmp 49) = (.bool false) := by have h := depL hdeps 7 (by kernel_rfl) 49 (by kernel_rfl); exact h
            have e50 : A.eval (.tmp 50) = (.bool false) := by have h := depL hdeps 8 (by kernel_rfl) 50 (by kernel_rfl); exact h
            refine ifw_want 7 false 49 rfl rfl e49 ?_
            with_reducible refine shown_q (Value.bool false) ?qq_2g_9 (fun _ _ => ?qr_2g_9)
            case qr_2g_9 => exact (rfl : (Value.bool false) = (Value.bool false))
            with_reducible refine quietAt_mv (.tmp 50) (Value.bool false) ?h0_2g_9 ?h1_2g_9
            case h0_2g_9 => rfl
            case h1_2g_9 => exact e50
          · intro A u hu hpu hsz hout hdeps
            have e51 : A.eval (.tmp 51) = (.bool false) := by have h := depL hdeps 9 (by kernel_rfl) 51 (by kernel_rfl); exact h
            refine ifw_pass 9 true false 51 rfl rfl e51 (by decide) ?_
            exact rfl
          · intro A u hu hpu hsz hout hdeps
            have e51 : A.eval (.tmp 51) = (.bool false) := by have h := depL hdeps 9 (by kernel_rfl) 51 (by kernel_rfl); exact h
            refine ifw_pass 9 true false 51 rfl rfl e51 (by decide) ?_
            exact rfl
          · intro A u hu hpu hsz hout hdeps
            have e51 : A.eval (.tmp 51) = (.bool false) := by have h := depL hdeps 9 (by kernel_rfl) 51 (by kernel_rfl); exact h
            refine ifw_pass 9 true false 51 rfl rfl e51 (by decide) ?_
            exact rfl
          · intro A u hu hpu hsz hout hdeps
            have e51 : A.eval (.tmp 51) = (.bool false) := by have h := depL hdeps 9 (by kernel_rfl) 51 (by kernel_rfl); exact h
            refine ifw_pass 9 true false 51 rfl rfl e51 (by decide) ?_
            exact rfl
          · intro A u hu hpu hsz hout hdeps
            have e51 : A.eval (.tmp 51) = (.bool false) := by have h := depL hdeps 9 (by kernel_rfl) 51 (by kernel_rfl); exact h
            refine ifw_pass 9 true false 51 rfl rfl e51 (by decide) ?_
            exact rfl
          · intro A u hu hpu hsz hout hdeps
            have e51 : A.eval (.tmp 51) = (.bool false) := by have h := depL hdeps 9 (by kernel_rfl) 51 (by kernel_rfl); exact h
            refine ifw_pass 9 true false 51 rfl rfl e51 (by decide) ?_
            exact rfl
          · intro A u hu hpu hsz hout hdeps
            have e51 : A.eval (.tmp 51) = (.bool false) := by have h := depL hdeps 9 (by kernel_rfl) 51 (by kernel_rfl); exact h
            refine ifw_pass 9 true false 51 rfl rfl e51 (by decide) ?_
            exact rfl
          · intro A u hu hpu hsz hout hdeps
            have e51 : A.eval (.tmp 51) = (.bool false) := by have h := depL hdeps 9 (by kernel_rfl) 51 (by kernel_rfl); exact h
            refine ifw_pass 9 true false 51 rfl rfl e51 (by decide) ?_
            exact rfl
          · intro A u hu hpu hsz hout hdeps
            have e51 : A.eval (.tmp 51) = (.bool false) := by have h := depL hdeps 9 (by kernel_rfl) 51 (by kernel_rfl); exact h
            refine ifw_pass 9 true false 51 rfl rfl e51 (by decide) ?_
            exact rfl
          · intro A u hu hpu hsz hout hdeps
            have e51 : A.eval (.tmp 51) = (.bool false) := by have h := depL hdeps 9 (by kernel_rfl) 51 (by kernel_rfl); exact h
            refine ifw_pass 9 true false 51 rfl rfl e51 (by decide) ?_
            exact rfl
          · intro A u hu hpu hsz hout hdeps
            have e51 : A.eval (.tmp 51) = (.bool false) := by have h := depL hdeps 9 (by kernel_rfl) 51 (by kernel_rfl); exact h
            refine ifw_pass 9 true false 51 rfl rfl e51 (by decide) ?_
            exact rfl
          · intro A u hu hpu hsz hout hdeps
            have e51 : A.eval (.tmp 51) = (.bool false) := by have h := depL hdeps 9 (by kernel_rfl) 51 (by kernel_rfl); exact h
            refine ifw_pass 9 true false 51 rfl rfl e51 (by decide) ?_
            exact rfl
          · intro A u hu hpu hsz hout hdeps
            have e51 : A.eval (.tmp 51) = (.bool false) := by have h := depL hdeps 9 (by kernel_rfl) 51 (by kernel_rfl); exact h
            refine ifw_pass 9 true false 51 rfl rfl e51 (by decide) ?_
            exact rfl
          · intro A u hu hpu hsz hout hdeps
            have e51 : A.eval (.tmp 51) = (.bool false) := by have h := depL hdeps 9 (by kernel_rfl) 51 (by kernel_rfl); exact h
            refine ifw_pass 9 true false 51 rfl rfl e51 (by decide) ?_
            exact rfl
          · intro A u hu hpu hsz hout hdeps
            have e51 : A.eval (.tmp 51) = (.bool false) := by have h := depL hdeps 9 (by kernel_rfl) 51 (by kernel_rfl); exact h
            refine ifw_pass 9 true false 51 rfl rfl e51 (by decide) ?_
            exact rfl
          · intro A u hu hpu hsz hout hdeps
            have e51 : A.eval (.tmp 51) = (.bool false) := by have h := depL hdeps 9 (by kernel_rfl) 51 (by kernel_rfl); exact h
            refine ifw_pass 9 true false 51 rfl rfl e51 (by decide) ?_
            exact rfl
          · intro A u hu hpu hsz hout hdeps
            have e51 : A.eval (.tmp 51) = (.bool false) := by have h := depL hdeps 9 (by kernel_rfl) 51 (by kernel_rfl); exact h
            refine ifw_pass 9 true false 51 rfl rfl e51 (by decide) ?_
            exact rfl
          · intro A u hu hpu hsz hout hdeps
            have e51 : A.eval (.tmp 51) = (.bool false) := by have h := depL hdeps 9 (by kernel_rfl) 51 (by kernel_rfl); exact h
            refine ifw_pass 9 true false 51 rfl rfl e51 (by decide) ?_
            exact rfl
          · intro A u hu hpu hsz hout hdeps
            have e49 : A.eval (.tmp 49) = (.bool false) := by have h := depL hdeps 7 (by kernel_rfl) 49 (by kernel_rfl); exact h
            have e51 : A.eval (.tmp 51) = (.bool false) := by have h := depL hdeps 9 (by kernel_rfl) 51 (by kernel_rfl); exact h
            refine ifw_want 7 false 49 rfl rfl e49 ?_
            with_reducible refine shown_q (Value.bool false) ?qq_2g_28 (fun _ _ => ?qr_2g_28)
            case qr_2g_28 => exact (rfl : (Value.bool false) = (Value.bool false))
            with_reducible refine quietAt_pick (.tmp 51) (.tmp 69) (.const (.bool false)) false (Value.bool false) ?h0_2g_28 ?h1_2g_28 ?h2_2g_28
            case h0_2g_28 => rfl
            case h1_2g_28 => exact e51
            case h2_2g_28 => rw [if_neg (by decide)]; exact rfl
          · intro A u hu hpu hsz hout hdeps
            have e49 : A.eval (.tmp 49) = (.bool false) := by have h := depL hdeps 7 (by kernel_rfl) 49 (by kernel_rfl); exact h
            have e70 : A.eval (.tmp 70) = (.bool false) := by have h := depL hdeps 28 (by kernel_rfl) 70 (by kernel_rfl); exact h
            refine ifw_none rfl ?_
            with_reducible refine shown_q (Value.bool false) ?qq_2g_29 (fun _ _ => ?qr_2g_29)
            case qr_2g_29 => exact (rfl : (Value.bool false) = (Value.bool false))
            with_reducible refine quietAt_pick (.tmp 49) (.const (.bool true)) (.tmp 70) false (Value.bool false) ?h0_2g_29 ?h1_2g_29 ?h2_2g_29
            case h0_2g_29 => rfl
            case h1_2g_29 => exact e49
            case h2_2g_29 => rw [if_neg (by decide)]; exact e70
          · intro A u8 listed hh hall
            have hA := hh.frame
            have HU := hid hh.grown
            obtain ⟨x42, hx42⟩ : ∃ x, A.eval (.tmp 42) = x := ⟨_, rfl⟩
            have f42 : (fun v _ => v = (Value.bool false)) x42 u8 := by rw [← hx42]; exact hh.got 0 _ 42 rfl rfl (hall 0 (by decide))
            obtain ⟨x43, hx43⟩ : ∃ x, A.eval (.tmp 43) = x := ⟨_, rfl⟩
            have f43 : (fun v _ => v = (Value.slice (some ⟨fb, fo, none⟩) m fc)) x43 u8 := by rw [← hx43]; exact hh.got 1 _ 43 rfl rfl (hall 1 (by decide))
            obtain ⟨x44, hx44⟩ : ∃ x, A.eval (.tmp 44) = x := ⟨_, rfl⟩
            have f44 : (fun v _ => v = (Value.int .i64 (i : Nat))) x44 u8 := by rw [← hx44]; exact hh.got 2 _ 44 rfl rfl (hall 2 (by decide))
            obtain ⟨x45, hx45⟩ : ∃ x, A.eval (.tmp 45) = x := ⟨_, rfl⟩
            have f45 : (fun v _ => v = (Value.pointer (some ⟨fb, fo + i * 35, none⟩))) x45 u8 := by rw [← hx45]; exact hh.got 3 _ 45 rfl rfl (hall 3 (by decide))
            obtain ⟨x46, hx46⟩ : ∃ x, A.eval (.tmp 46) = x := ⟨_, rfl⟩
            have f46 : (fun v _ => v = (Value.pointer (some ⟨fb, fo + i * 35 + 34, none⟩))) x46 u8 := by rw [← hx46]; exact hh.got 4 _ 46 rfl rfl (hall 4 (by decide))
            obtain ⟨x47, hx47⟩ : ∃ x, A.eval (.tmp 47) = x := ⟨_, rfl⟩
            have f47 : (fun v _ => v = (Value.bool true)) x47 u8 := by rw [← hx47]; exact hh.got 5 _ 47 rfl rfl (hall 5 (by decide))
            obtain ⟨x48, hx48⟩ : ∃ x, A.eval (.tmp 48) = x := ⟨_, rfl⟩
            have f48 : (fun v _ => v = (Value.bool false)) x48 u8 := by rw [← hx48]; exact hh.got 6 _ 48 rfl rfl (hall 6 (by decide))
            obtain ⟨x49, hx49⟩ : ∃ x, A.eval (.tmp 49) = x := ⟨_, rfl⟩
            have f49 : (fun v _ => v = (Value.bool false)) x49 u8 := by rw [← hx49]; exact hh.got 7 _ 49 rfl rfl (hall 7 (by decide))
            obtain ⟨x50, hx50⟩ : ∃ x, A.eval (.tmp 50) = x := ⟨_, rfl⟩
            have f50 : (fun v _ => v = (Value.bool false)) x50 u8 := by rw [← hx50]; exact hh.got 8 _ 50 rfl rfl (hall 8 (by decide))
            obtain ⟨x51, hx51⟩ : ∃ x, A.eval (.tmp 51) = x := ⟨_, rfl⟩
            have f51 : (fun v _ => v = (Value.bool false)) x51 u8 := by rw [← hx51]; exact hh.got 9 _ 51 rfl rfl (hall 9 (by decide))
            obtain ⟨x52, hx52⟩ : ∃ x, A.eval (.tmp 52) = x := ⟨_, rfl⟩
            have f52 : (fun v _ => v = undef) x52 u8 := by rw [← hx52]; exact hh.got 10 _ 52 rfl rfl (hall 10 (by decide))
            obtain ⟨x53, hx53⟩ : ∃ x, A.eval (.tmp 53) = x := ⟨_, rfl⟩
            have f53 : (fun v _ => v = undef) x53 u8 := by rw [← hx53]; exact hh.got 11 _ 53 rfl rfl (hall 11 (by decide))
            obtain ⟨x54, hx54⟩ : ∃ x, A.eval (.tmp 54) = x := ⟨_, rfl⟩
            have f54 : (fun v _ => v = undef) x54 u8 := by rw [← hx54]; exact hh.got 12 _ 54 rfl rfl (hall 12 (by decide))
            obtain ⟨x55, hx55⟩ : ∃ x, A.eval (.tmp 55) = x := ⟨_, rfl⟩
            have f55 : (fun v _ => v = undef) x55 u8 := by rw [← hx55]; exact hh.got 13 _ 55 rfl rfl (hall 13 (by decide))
            obtain ⟨x56, hx56⟩ : ∃ x, A.eval (.tmp 56) = x := ⟨_, rfl⟩
            have f56 : (fun v _ => v = undef) x56 u8 := by rw [← hx56]; exact hh.got 14 _ 56 rfl rfl (hall 14 (by decide))
            obtain ⟨x57, hx57⟩ : ∃ x, A.eval (.tmp 57) = x := ⟨_, rfl⟩
            have f57 : (fun v _ => v = undef) x57 u8 := by rw [← hx57]; exact hh.got 15 _ 57 rfl rfl (hall 15 (by decide))
            obtain ⟨x58, hx58⟩ : ∃ x, A.eval (.tmp 58) = x := ⟨_, rfl⟩
            have f58 : (fun v _ => v = undef) x58 u8 := by rw [← hx58]; exact hh.got 16 _ 58 rfl rfl (hall 16 (by decide))
            obtain ⟨x59, hx59⟩ : ∃ x, A.eval (.tmp 59) = x := ⟨_, rfl⟩
            have f59 : (fun v _ => v = undef) x59 u8 := by rw [← hx59]; exact hh.got 17 _ 59 rfl rfl (hall 17 (by decide))
            obtain ⟨x60, hx60⟩ : ∃ x, A.eval (.tmp 60) = x := ⟨_, rfl⟩
            have f60 : (fun v _ => v = undef) x60 u8 := by rw [← hx60]; exact hh.got 18 _ 60 rfl rfl (hall 18 (by decide))
            obtain ⟨x61, hx61⟩ : ∃ x, A.eval (.tmp 61) = x := ⟨_, rfl⟩
            have f61 : (fun v _ => v = undef) x61 u8 := by rw [← hx61]; exact hh.got 19 _ 61 rfl rfl (hall 19 (by decide))
            obtain ⟨x62, hx62⟩ : ∃ x, A.eval (.tmp 62) = x := ⟨_, rfl⟩
            have f62 : (fun v _ => v = undef) x62 u8 := by rw [← hx62]; exact hh.got 20 _ 62 rfl rfl (hall 20 (by decide))
            obtain ⟨x63, hx63⟩ : ∃ x, A.eval (.tmp 63) = x := ⟨_, rfl⟩
            have f63 : (fun v _ => v = undef) x63 u8 := by rw [← hx63]; exact hh.got 21 _ 63 rfl rfl (hall 21 (by decide))
            obtain ⟨x64, hx64⟩ : ∃ x, A.eval (.tmp 64) = x := ⟨_, rfl⟩
            have f64 : (fun v _ => v = undef) x64 u8 := by rw [← hx64]; exact hh.got 22 _ 64 rfl rfl (hall 22 (by decide))
            obtain ⟨x65, hx65⟩ : ∃ x, A.eval (.tmp 65) = x := ⟨_, rfl⟩
            have f65 : (fun v _ => v = undef) x65 u8 := by rw [← hx65]; exact hh.got 23 _ 65 rfl rfl (hall 23 (by decide))
            obtain ⟨x66, hx66⟩ : ∃ x, A.eval (.tmp 66) = x := ⟨_, rfl⟩
            have f66 : (fun v _ => v = undef) x66 u8 := by rw [← hx66]; exact hh.got 24 _ 66 rfl rfl (hall 24 (by decide))
            obtain ⟨x67, hx67⟩ : ∃ x, A.eval (.tmp 67) = x := ⟨_, rfl⟩
            have f67 : (fun v _ => v = undef) x67 u8 := by rw [← hx67]; exact hh.got 25 _ 67 rfl rfl (hall 25 (by decide))
            obtain ⟨x68, hx68⟩ : ∃ x, A.eval (.tmp 68) = x := ⟨_, rfl⟩
            have f68 : (fun v _ => v = undef) x68 u8 := by rw [← hx68]; exact hh.got 26 _ 68 rfl rfl (hall 26 (by decide))
            obtain ⟨x69, hx69⟩ : ∃ x, A.eval (.tmp 69) = x := ⟨_, rfl⟩
            have f69 : (fun v _ => v = undef) x69 u8 := by rw [← hx69]; exact hh.got 27 _ 69 rfl rfl (hall 27 (by decide))
            obtain ⟨x70, hx70⟩ : ∃ x, A.eval (.tmp 70) = x := ⟨_, rfl⟩
            have f70 : (fun v _ => v = (Value.bool false)) x70 u8 := by rw [← hx70]; exact hh.got 28 _ 70 rfl rfl (hall 28 (by decide))
            obtain ⟨x71, hx71⟩ : ∃ x, A.eval (.tmp 71) = x := ⟨_, rfl⟩
            have f71 : (fun v _ => v = (Value.bool false)) x71 u8 := by rw [← hx71]; exact hh.got 29 _ 71 rfl rfl (hall 29 (by decide))
            dsimp only [wrote, List.foldl] at hA
            rw [hx42, hx43, hx44, hx45, hx46, hx47, hx48, hx49, hx50, hx51, hx52, hx53, hx54, hx55, hx56, hx57, hx58, hx59, hx60, hx61, hx62, hx63, hx64, hx65, hx66, hx67, hx68, hx69, hx70, hx71] at hA
            clear hh hall hx42 hx43 hx44 hx45 hx46 hx47 hx48 hx49 hx50 hx51 hx52 hx53 hx54 hx55 hx56 hx57 hx58 hx59 hx60 hx61 hx62 hx63 hx64 hx65 hx66 hx67 hx68 hx69 hx70 hx71
            replace f42 := (f42 : x42 = (.bool false))
            subst f42
            replace f43 := (f43 : x43 = (.slice (some ⟨fb, fo, none⟩) m fc))
            subst f43
            replace f44 := (f44 : x44 = (.int .i64 (i : Nat)))
            subst f44
            replace f45 := (f45 : x45 = (.pointer (some ⟨fb, fo + i * 35, none⟩)))
            subst f45
            replace f46 := (f46 : x46 = (.pointer (some ⟨fb, fo + i * 35 + 34, none⟩)))
            subst f46
            replace f47 := (f47 : x47 = (.bool true))
            subst f47
            replace f48 := (f48 : x48 = (.bool false))
            subst f48
            replace f49 := (f49 : x49 = (.bool false))
            subst f49
            replace f50 := (f50 : x50 = (.bool false))
            subst f50
            replace f51 := (f51 : x51 = (.bool false))
            subst f51
            replace f52 := (f52 : x52 = undef)
            subst f52
            replace f53 := (f53 : x53 = undef)
            subst f53
            replace f54 := (f54 : x54 = undef)
            subst f54
            replace f55 := (f55 : x55 = undef)
            subst f55
            replace f56 := (f56 : x56 = undef)
            subst f56
            replace f57 := (f57 : x57 = undef)
            subst f57
            replace f58 := (f58 : x58 = undef)
            subst f58
            replace f59 := (f59 : x59 = undef)
            subst f59
            replace f60 := (f60 : x60 = undef)
            subst f60
            replace f61 := (f61 : x61 = undef)
            subst f61
            replace f62 := (f62 : x62 = undef)
            subst f62
            replace f63 := (f63 : x63 = undef)
            subst f63
            replace f64 := (f64 : x64 = undef)
            subst f64
            replace f65 := (f65 : x65 = undef)
            subst f65
            replace f66 := (f66 : x66 = undef)
            subst f66
            replace f67 := (f67 : x67 = undef)
            subst f67
            replace f68 := (f68 : x68 = undef)
            subst f68
            replace f69 := (f69 : x69 = undef)
            subst f69
            replace f70 := (f70 : x70 = (.bool false))
            subst f70
            replace f71 := (f71 : x71 = (.bool false))
            subst f71
            subst hA
            show wpList _ _ _ [] _ _
            unfold wpList
            simp only [Act.put, List.setIfInBounds_toArray, List.set_cons_succ, List.set_cons_zero]
            have HGx := hid (gtrans HG.out (gtrans HSq.out HU.out))
            go_wp2_with fail
            go_roundw
            case rel => exact ⟨i + 1, by go_num, by rw [HSn.out], by omega, HGx⟩
            case measure => simp [intOf]; omega
        · intro A u7 listed hh hall hzz hnn
          have hA := hh.frame
          have HU := hid hh.grown
          obtain ⟨x33, hx33⟩ : ∃ x, A.eval (.tmp 33) = x := ⟨_, rfl⟩
          have f33 : (fun v _ => v = (Value.agg [Value.slice a n c, Value.int .u64 nx].toArray)) x33 u7 := by rw [← hx33]; exact hh.got 0 _ 33 rfl rfl (hall 0 (by decide) (by decide))
          obtain ⟨x34, hx34⟩ : ∃ x, A.eval (.tmp 34) = x := ⟨_, rfl⟩
          have f34 : (fun v _ => v = (Value.slice (some ⟨fb, fo, none⟩) m fc)) x34 u7 := by rw [← hx34]; exact hh.got 1 _ 34 rfl rfl (hall 1 (by decide) (by decide))
          obtain ⟨x35, hx35⟩ : ∃ x, A.eval (.tmp 35) = x := ⟨_, rfl⟩
          have f35 : (fun v _ => v = (Value.int .i64 (i : Nat))) x35 u7 := by rw [← hx35]; exact hh.got 2 _ 35 rfl rfl (hall 2 (by decide) (by decide))
          obtain ⟨x36, hx36⟩ : ∃ x, A.eval (.tmp 36) = x := ⟨_, rfl⟩
          have f36 : (fun v _ => v = (Value.pointer (some ⟨fb, fo + i * 35, none⟩))) x36 u7 := by rw [← hx36]; exact hh.got 3 _ 36 rfl rfl (hall 3 (by decide) (by decide))
          obtain ⟨x37, hx37⟩ : ∃ x, A.eval (.tmp 37) = x := ⟨_, rfl⟩
          have f37 : (fun v _ => v = (Value.pointer (some ⟨fb, fo + i * 35, none⟩))) x37 u7 := by rw [← hx37]; exact hh.got 4 _ 37 rfl rfl (hall 4 (by decide) (by decide))
          obtain ⟨x38, hx38⟩ : ∃ x, A.eval (.tmp 38) = x := ⟨_, rfl⟩
          have f38 : (fun v _ => v = (Value.int .u64 (KD : Nat))) x38 u7 := by rw [← hx38]; exact hh.got 5 _ 38 rfl rfl (hall 5 (by decide) (by decide))
          obtain ⟨x39, hx39⟩ : ∃ x, A.eval (.tmp 39) = x := ⟨_, rfl⟩
          have f39 : (fun v _ => v = (Value.tuple #[Value.agg zky.cells.toArray, Value.bool false])) x39 u7 := by rw [← hx39]; exact hh.got 6 _ 39 rfl rfl (hall 6 (by decide) (by decide))
          obtain ⟨x32, hx32⟩ : ∃ x, A.eval (.tmp 32) = x := ⟨_, rfl⟩
          have f32 : (fun v _ => v = (Value.tuple #[Value.agg zky.cells.toArray, Value.bool false])) x32 u7 := by rw [← hx32]; exact hh.got 7 _ 32 rfl rfl (hall 7 (by decide) (by decide))
          obtain ⟨x40, hx40⟩ : ∃ x, A.eval (.tmp 40) = x := ⟨_, rfl⟩
          have f40 : (fun v _ => v = (Value.agg zky.cells.toArray)) x40 u7 := by rw [← hx40]; exact hh.got 8 _ 40 rfl rfl (hall 8 (by decide) (by decide))
          obtain ⟨x41, hx41⟩ : ∃ x, A.eval (.tmp 41) = x := ⟨_, rfl⟩
          obtain ⟨x7, hx7⟩ : ∃ x, A.eval (.tmp 7) = x := ⟨_, rfl⟩
          have f7 : (fun v u => ∃ bb, v = Value.pointer (some ⟨bb, 0, none⟩) ∧ Blk u bb zky.cells 107 ∧ HH ≤ bb) x7 u7 := by rw [← hx7]; exact hh.got 10 _ 7 rfl rfl (hall 10 (by decide) (by decide))
          obtain ⟨x8, hx8⟩ : ∃ x, A.eval (.tmp 8) = x := ⟨_, rfl⟩
          dsimp only [wrote, List.foldl] at hA
          rw [hx33, hx34, hx35, hx36, hx37, hx38, hx39, hx32, hx40, hx41, hx7, hx8] at hA
          clear hzz hnn hh hall hx33 hx34 hx35 hx36 hx37 hx38 hx39 hx32 hx40 hx41 hx7 hx8
          replace f33 := (f33 : x33 = (.agg [.slice a n c, .int .u64 nx].toArray))
          subst f33
          replace f34 := (f34 : x34 = (.slice (some ⟨fb, fo, none⟩) m fc))
          subst f34
          replace f35 := (f35 : x35 = (.int .i64 (i : Nat)))
          subst f35
          replace f36 := (f36 : x36 = (.pointer (some ⟨fb, fo + i * 35, none⟩)))
          subst f36
          replace f37 := (f37 : x37 = (.pointer (some ⟨fb, fo + i * 35, none⟩)))
          subst f37
          replace f38 := (f38 : x38 = (.int .u64 (KD : Nat)))
          subst f38
          replace f39 := (f39 : x39 = (.tuple #[.agg zky.cells.toArray, .bool false]))
          subst f39
          replace f32 := (f32 : x32 = (.tuple #[.agg zky.cells.toArray, .bool false]))
          subst f32
          replace f40 := (f40 : x40 = (.agg zky.cells.toArray))
          subst f40
          obtain ⟨b7, e7, hb7b, hb7l⟩ := f7
          subst e7
          subst hA
          show wpList _ _ _ [_, _, _] _ _
          simp only [Act.put, List.setIfInBounds_toArray, List.set_cons_succ, List.set_cons_zero]
          go_wp2_with ((with_reducible refine wpList_store_all (by with_unfolding_all rfl) 107 _ _ (by with_unfolding_all rfl) _ zky.cells zky.cells 107 (by with_unfolding_all rfl) (by with_unfolding_all rfl) hb7b (by with_unfolding_all rfl) (by with_unfolding_all exact Try.size107) (Ky.one _) ?_); intro w30 B30 g30 s30; have HB30 := hid B30; have HG30 := hid g30; have HS30 := hid s30; clear B30 g30 s30)
          have HSq := hid ((HU.out).andThen HG30.out (fun j hj => .inl (by injection hj with hj; have := HHs.out; omega)))
          clear HU hb7b hb7l HG30 HS30
          refine wp_region_list (by kernel_rfl) [fun v _ => v = (Value.bool false), fun v _ => v = (Value.slice (some ⟨fb, fo, none⟩) m fc), fun v _ => v = (Value.int .i64 (i : Nat)), fun v _ => v = (Value.pointer (some ⟨fb, fo + i * 35, none⟩)), fun v _ => v = (Value.pointer (some ⟨fb, fo + i * 35 + 34, none⟩)), fun v _ => v = (Value.bool true), fun v _ => v = (Value.bool false), fun v _ => v = (Value.bool false), fun v _ => v = (Value.bool false), fun v _ => v = (Value.bool false), fun v _ => v = undef, fun v _ => v = undef, fun v _ => v = undef, fun v _ => v = undef, fun v _ => v = undef, fun v _ => v = undef, fun v _ => v = undef, fun v _ => v = undef, fun v _ => v = undef, fun v _ => v = undef, fun v _ => v = undef, fun v _ => v = undef, fun v _ => v = undef, fun v _ => v = undef, fun v _ => v = undef, fun v _ => v = undef, fun v _ => v = undef, fun v _ => v = undef, fun v _ => v = (Value.bool false), fun v _ => v = (Value.bool false)] (none) (fun _ => none) 30 (by kernel_rfl) (by kernel_rfl) (by kernel_rfl) (by kernel_rfl) (by decide) noRow_one (fun _ => .inl rfl) ⟨fun i v u u' hki h hg => h, fun i v u u' hki h hg => h, fun i v u u' hki h hg => h, fun i v u u' hki h hg => h, fun i v u u' hki h hg => h, fun i v u u' hki h hg => h, fun i v u u' hki h hg => h, fun i v u u' hki h hg => h, fun i v u u' hki h hg => h, fun i v u u' hki h hg => h, fun i v u u' hki h hg => h, fun i v u u' hki h hg => h, fun i v u u' hki h hg => h, fun i v u u' hki h hg => h, fun i v u u' hki h hg => h, fun i v u u' hki h hg => h, fun i v u u' hki h hg => h, fun i v u u' hki h hg => h, fun i v u u' hki h hg => h, fun i v u u' hki h hg => h, fun i v u u' hki h hg => h, fun i v u u' hki h hg => h, fun i v u u' hki h hg => h, fun i v u u' hki h hg => h, fun i v u u' hki h hg => h, fun i v u u' hki h hg => h, fun i v u u' hki h hg => h, fun i v u u' hki h hg => h, fun i v u u' hki h hg => h, fun i v u u' hki h hg => h, trivial⟩ ⟨?_, ?_, ?_, ?_, ?_, ?_, ?_, ?_, ?_, ?_, ?_, ?_, ?_, ?_, ?_, ?_, ?_, ?_, ?_, ?_, ?_, ?_, ?_, ?_, ?_, ?_, ?_, ?_, ?_, ?_, trivial⟩ ?_
          · intro A u hu hpu hsz hout hdeps
            have e8 : A.eval (.tmp 8) = (.bool false) := (hout 8 (by kernel_rfl)).trans rfl
            refine ifw_none rfl ?_
            with_reducible refine shown_q (Value.bool false) ?qq_2Lg_0 (fun _ _ => ?qr_2Lg_0)
            case qr_2Lg_0 => exact (rfl : (Value.bool false) = (Value.bool false))
            with_reducible refine quietAt_mv (.tmp 8) (Value.bool false) ?h0_2Lg_0 ?h1_2Lg_0
            case h0_2Lg_0 => rfl
            case h1_2Lg_0 => exact e8
          · intro A u hu hpu hsz hout hdeps
            have e1 : A.eval (.tmp 1) = (.slice (some ⟨fb, fo, none⟩) m fc) := (hout 1 (by kernel_rfl)).trans rfl
            refine ifw_none rfl ?_
            with_reducible refine shown_q (Value.slice (some ⟨fb, fo, none⟩) m fc) ?qq_2Lg_1 (fun _ _ => ?qr_2Lg_1)
            case qr_2Lg_1 => exact (rfl : (Value.slice (some ⟨fb, fo, none⟩) m fc) = (Value.slice (some ⟨fb, fo, none⟩) m fc))
            with_reducible refine quietAt_mv (.tmp 1) (Value.slice (some ⟨fb, fo, none⟩) m fc) ?h0_2Lg_1 ?h1_2Lg_1
            case h0_2Lg_1 => rfl
            case h1_2Lg_1 => exact e1
          · intro A u hu hpu hsz hout hdeps
            have e6 : A.eval (.tmp 6) = (.int .i64 (i : Nat)) := (hout 6 (by kernel_rfl)).trans rfl
            refine ifw_none rfl ?_
            with_reducible refine shown_q (Value.int .i64 (i : Nat)) ?qq_2Lg_2 (fun _ _ => ?qr_2Lg_2)
            case qr_2Lg_2 => exact (rfl : (Value.int .i64 (i : Nat)) = (Value.int .i64 (i : Nat)))
            with_reducible refine quietAt_mv (.tmp 6) (Value.int .i64 (i : Nat)) ?h0_2Lg_2 ?h1_2Lg_2
            case h0_2Lg_2 => rfl
            case h1_2Lg_2 => exact e6
          · intro A u hu hpu hsz hout hdeps
            have e43 : A.eval (.tmp 43) = (.slice (some ⟨fb, fo, none⟩) m fc) := by have h := depL hdeps 1 (by kernel_rfl) 43 (by kernel_rfl); exact h
            have e44 : A.eval (.tmp 44) = (.int .i64 (i : Nat)) := by have h := depL hdeps 2 (by kernel_rfl) 44 (by kernel_rfl); exact h
            refine ifw_none rfl ?_
            with_reducible refine shown_q (Value.pointer (some ⟨fb, fo + i * 35, none⟩)) ?qq_2Lg_3 (fun _ _ => ?qr_2Lg_3)
            case qr_2Lg_3 => exact (rfl : (Value.pointer (some ⟨fb, fo + i * 35, none⟩)) = (Value.pointer (some ⟨fb, fo + i * 35, none⟩)))
            with_reducible refine quietAt_idx 97 (.tmp 43) (.tmp 44) (Value.slice (some ⟨fb, fo, none⟩) m fc) (Value.int .i64 (i : Nat)) (Value.pointer (some ⟨fb, fo + i * 35, none⟩)) ?h0_2Lg_3 ?h1_2Lg_3 ?h2_2Lg_3 ?h3_2Lg_3
            case h0_2Lg_3 => rfl
            case h1_2Lg_3 => exact e43
            case h2_2Lg_3 => exact e44
            case h3_2Lg_3 => exact idx97 fb fo m fc i him u
          · intro A u hu hpu hsz hout hdeps
            have e45 : A.eval (.tmp 45) = (.pointer (some ⟨fb, fo + i * 35, none⟩)) := by have h := depL hdeps 3 (by kernel_rfl) 45 (by kernel_rfl); exact h
            refine ifw_none rfl ?_
            with_reducible refine shown_q (Value.pointer (some ⟨fb, fo + i * 35 + 34, none⟩)) ?qq_2Lg_4 (fun _ _ => ?qr_2Lg_4)
            case qr_2Lg_4 => exact (rfl : (Value.pointer (some ⟨fb, fo + i * 35 + 34, none⟩)) = (Value.pointer (some ⟨fb, fo + i * 35 + 34, none⟩)))
            with_reducible refine quietAt_field 96 (.tmp 45) 3 ?h0_2Lg_4 ⟨fb, fo + i * 35, none⟩ ⟨fb, fo + i * 35 + 34, none⟩ ?h1_2Lg_4 ?h2_2Lg_4
            case h0_2Lg_4 => rfl
            case h1_2Lg_4 => exact e45
            case h2_2Lg_4 => kernel_rfl
          · intro A u hu hpu hsz hout hdeps
            have e46 : A.eval (.tmp 46) = (.pointer (some ⟨fb, fo + i * 35 + 34, none⟩)) := by have h := depL hdeps 4 (by kernel_rfl) 46 (by kernel_rfl); exact h
            refine ifw_none rfl ?_
            with_reducible refine shown_q (Value.bool true) ?qq_2Lg_5 (fun _ _ => ?qr_2Lg_5)
            case qr_2Lg_5 => exact (rfl : (Value.bool true) = (Value.bool true))
            with_reducible refine quietAt_ld 4 (.tmp 46) (Value.pointer (some ⟨fb, fo + i * 35 + 34, none⟩)) (Value.bool true) ?h0_2Lg_5 ?h1_2Lg_5 ?h2_2Lg_5
            case h0_2Lg_5 => rfl
            case h1_2Lg_5 => exact e46
            case h2_2Lg_5 => exact ld4 fb (fo + i * 35 + 34) true u (HF34.out u (gtrans HSq.out hu))
          · intro A u hu hpu hsz hout hdeps
            have e42 : A.eval (.tmp 42) = (.bool false) := by have h := depL hdeps 0 (by kernel_rfl) 42 (by kernel_rfl); exact h
            have e47 : A.eval (.tmp 47) = (.bool true) := by have h := depL hdeps 5 (by kernel_rfl) 47 (by kernel_rfl); exact h
            refine ifw_none rfl ?_
            with_reducible refine shown_q (Value.bool false) ?qq_2Lg_6 (fun _ _ => ?qr_2Lg_6)
            case qr_2Lg_6 => exact (rfl : (Value.bool false) = (Value.bool false))
            with_reducible refine quietAt_bin .eql 4 (.tmp 42) (.tmp 47) 4 (Value.bool false) (Value.bool true) (Value.bool false) ?h0_2Lg_6 ?h1_2Lg_6 ?h2_2Lg_6 ?h3_2Lg_6
            case h0_2Lg_6 => rfl
            case h1_2Lg_6 => exact e42
            case h2_2Lg_6 => exact e47
            case h3_2Lg_6 => exact HE4.out _ _ u
          · intro A u hu hpu hsz hout hdeps
            have e48 : A.eval (.tmp 48) = (.bool false) := by have h := depL hdeps 6 (by kernel_rfl) 48 (by kernel_rfl); exact h
            refine ifw_none rfl ?_
            with_reducible refine shown_q (Value.bool false) ?qq_2Lg_7 (fun _ _ => ?qr_2Lg_7)
            case qr_2Lg_7 => exact (rfl : (Value.bool false) = (Value.bool false))
            with_reducible refine quietAt_mv (.tmp 48) (Value.bool false) ?h0_2Lg_7 ?h1_2Lg_7
            case h0_2Lg_7 => rfl
            case h1_2Lg_7 => exact e48
          · intro A u hu hpu hsz hout hdeps
            have e49 : A.eval (.tmp 49) = (.bool false) := by have h := depL hdeps 7 (by kernel_rfl) 49 (by kernel_rfl); exact h
            have e8 : A.eval (.tmp 8) = (.bool false) := (hout 8 (by kernel_rfl)).trans rfl
            refine ifw_want 7 false 49 rfl rfl e49 ?_
            with_reducible refine shown_q (Value.bool false) ?qq_2Lg_8 (fun _ _ => ?qr_2Lg_8)
            case qr_2Lg_8 => exact (rfl : (Value.bool false) = (Value.bool false))
            with_reducible refine quietAt_mv (.tmp 8) (Value.bool false) ?h0_2Lg_8 ?h1_2Lg_8
            case h0_2Lg_8 => rfl
            case h1_2Lg_8 => exact e8
          · intro A u hu hpu hsz hout hdeps
            have e49 : A.eval (.tmp 49) = (.bool false) := by have h := depL hdeps 7 (by kernel_rfl) 49 (by kernel_rfl); exact h
            have e50 : A.eval (.tmp 50) = (.bool false) := by have h := depL hdeps 8 (by kernel_rfl) 50 (by kernel_rfl); exact h
            refine ifw_want 7 false 49 rfl rfl e49 ?_
            with_reducible refine shown_q (Value.bool false) ?qq_2Lg_9 (fun _ _ => ?qr_2Lg_9)
            case qr_2Lg_9 => exact (rfl : (Value.bool false) = (Value.bool false))
            with_reducible refine quietAt_mv (.tmp 50) (Value.bool false) ?h0_2Lg_9 ?h1_2Lg_9
            case h0_2Lg_9 => rfl
            case h1_2Lg_9 => exact e50
          · intro A u hu hpu hsz hout hdeps
            have e51 : A.eval (.tmp 51) = (.bool false) := by have h := depL hdeps 9 (by kernel_rfl) 51 (by kernel_rfl); exact h
            refine ifw_pass 9 true false 51 rfl rfl e51 (by decide) ?_
            exact rfl
          · intro A u hu hpu hsz hout hdeps
            have e51 : A.eval (.tmp 51) = (.bool false) := by have h := depL hdeps 9 (by kernel_rfl) 51 (by kernel_rfl); exact h
            refine ifw_pass 9 true false 51 rfl rfl e51 (by decide) ?_
            exact rfl
          · intro A u hu hpu hsz hout hdeps
            have e51 : A.eval (.tmp 51) = (.bool false) := by have h := depL hdeps 9 (by kernel_rfl) 51 (by kernel_rfl); exact h
            refine ifw_pass 9 true false 51 rfl rfl e51 (by decide) ?_
            exact rfl
          · intro A u hu hpu hsz hout hdeps
            have e51 : A.eval (.tmp 51) = (.bool false) := by have h := depL hdeps 9 (by kernel_rfl) 51 (by kernel_rfl); exact h
            refine ifw_pass 9 true false 51 rfl rfl e51 (by decide) ?_
            exact rfl
          · intro A u hu hpu hsz hout hdeps
            have e51 : A.eval (.tmp 51) = (.bool false) := by have h := depL hdeps 9 (by kernel_rfl) 51 (by kernel_rfl); exact h
            refine ifw_pass 9 true false 51 rfl rfl e51 (by decide) ?_
            exact rfl
          · intro A u hu hpu hsz hout hdeps
            have e51 : A.eval (.tmp 51) = (.bool false) := by have h := depL hdeps 9 (by kernel_rfl) 51 (by kernel_rfl); exact h
            refine ifw_pass 9 true false 51 rfl rfl e51 (by decide) ?_
            exact rfl
          · intro A u hu hpu hsz hout hdeps
            have e51 : A.eval (.tmp 51) = (.bool false) := by have h := depL hdeps 9 (by kernel_rfl) 51 (by kernel_rfl); exact h
            refine ifw_pass 9 true false 51 rfl rfl e51 (by decide) ?_
            exact rfl
          · intro A u hu hpu hsz hout hdeps
            have e51 : A.eval (.tmp 51) = (.bool false) := by have h := depL hdeps 9 (by kernel_rfl) 51 (by kernel_rfl); exact h
            refine ifw_pass 9 true false 51 rfl rfl e51 (by decide) ?_
            exact rfl
          · intro A u hu hpu hsz hout hdeps
            have e51 : A.eval (.tmp 51) = (.bool false) := by have h := depL hdeps 9 (by kernel_rfl) 51 (by kernel_rfl); exact h
            refine ifw_pass 9 true false 51 rfl rfl e51 (by decide) ?_
            exact rfl
          · intro A u hu hpu hsz hout hdeps
            have e51 : A.eval (.tmp 51) = (.bool false) := by have h := depL hdeps 9 (by kernel_rfl) 51 (by kernel_rfl); exact h
            refine ifw_pass 9 true false 51 rfl rfl e51 (by decide) ?_
            exact rfl
          · intro A u hu hpu hsz hout hdeps
            have e51 : A.eval (.tmp 51) = (.bool false) := by have h := depL hdeps 9 (by kernel_rfl) 51 (by kernel_rfl); exact h
            refine ifw_pass 9 true false 51 rfl rfl e51 (by decide) ?_
            exact rfl
          · intro A u hu hpu hsz hout hdeps
            have e51 : A.eval (.tmp 51) = (.bool false) := by have h := depL hdeps 9 (by kernel_rfl) 51 (by kernel_rfl); exact h
            refine ifw_pass 9 true false 51 rfl rfl e51 (by decide) ?_
            exact rfl
          · intro A u hu hpu hsz hout hdeps
            have e51 : A.eval (.tmp 51) = (.bool false) := by have h := depL hdeps 9 (by kernel_rfl) 51 (by kernel_rfl); exact h
            refine ifw_pass 9 true false 51 rfl rfl e51 (by decide) ?_
            exact rfl
          · intro A u hu hpu hsz hout hdeps
            have e51 : A.eval (.tmp 51) = (.bool false) := by have h := depL hdeps 9 (by kernel_rfl) 51 (by kernel_rfl); exact h
            refine ifw_pass 9 true false 51 rfl rfl e51 (by decide) ?_
            exact rfl
          · intro A u hu hpu hsz hout hdeps
            have e51 : A.eval (.tmp 51) = (.bool false) := by have h := depL hdeps 9 (by kernel_rfl) 51 (by kernel_rfl); exact h
            refine ifw_pass 9 true false 51 rfl rfl e51 (by decide) ?_
            exact rfl
          · intro A u hu hpu hsz hout hdeps
            have e51 : A.eval (.tmp 51) = (.bool false) := by have h := depL hdeps 9 (by kernel_rfl) 51 (by kernel_rfl); exact h
            refine ifw_pass 9 true false 51 rfl rfl e51 (by decide) ?_
            exact rfl
          · intro A u hu hpu hsz hout hdeps
            have e51 : A.eval (.tmp 51) = (.bool false) := by have h := depL hdeps 9 (by kernel_rfl) 51 (by kernel_rfl); exact h
            refine ifw_pass 9 true false 51 rfl rfl e51 (by decide) ?_
            exact rfl
          · intro A u hu hpu hsz hout hdeps
            have e51 : A.eval (.tmp 51) = (.bool false) := by have h := depL hdeps 9 (by kernel_rfl) 51 (by kernel_rfl); exact h
            refine ifw_pass 9 true false 51 rfl rfl e51 (by decide) ?_
            exact rfl
          · intro A u hu hpu hsz hout hdeps
            have e49 : A.eval (.tmp 49) = (.bool false) := by have h := depL hdeps 7 (by kernel_rfl) 49 (by kernel_rfl); exact h
            have e51 : A.eval (.tmp 51) = (.bool false) := by have h := depL hdeps 9 (by kernel_rfl) 51 (by kernel_rfl); exact h
            refine ifw_want 7 false 49 rfl rfl e49 ?_
            with_reducible refine shown_q (Value.bool false) ?qq_2Lg_28 (fun _ _ => ?qr_2Lg_28)
            case qr_2Lg_28 => exact (rfl : (Value.bool false) = (Value.bool false))
            with_reducible refine quietAt_pick (.tmp 51) (.tmp 69) (.const (.bool false)) false (Value.bool false) ?h0_2Lg_28 ?h1_2Lg_28 ?h2_2Lg_28
            case h0_2Lg_28 => rfl
            case h1_2Lg_28 => exact e51
            case h2_2Lg_28 => rw [if_neg (by decide)]; exact rfl
          · intro A u hu hpu hsz hout hdeps
            have e49 : A.eval (.tmp 49) = (.bool false) := by have h := depL hdeps 7 (by kernel_rfl) 49 (by kernel_rfl); exact h
            have e70 : A.eval (.tmp 70) = (.bool false) := by have h := depL hdeps 28 (by kernel_rfl) 70 (by kernel_rfl); exact h
            refine ifw_none rfl ?_
            with_reducible refine shown_q (Value.bool false) ?qq_2Lg_29 (fun _ _ => ?qr_2Lg_29)
            case qr_2Lg_29 => exact (rfl : (Value.bool false) = (Value.bool false))
            with_reducible refine quietAt_pick (.tmp 49) (.const (.bool true)) (.tmp 70) false (Value.bool false) ?h0_2Lg_29 ?h1_2Lg_29 ?h2_2Lg_29
            case h0_2Lg_29 => rfl
            case h1_2Lg_29 => exact e49
            case h2_2Lg_29 => rw [if_neg (by decide)]; exact e70
          · intro A u8 listed hh hall
            have hA := hh.frame
            have HU := hid hh.grown
            obtain ⟨x42, hx42⟩ : ∃ x, A.eval (.tmp 42) = x := ⟨_, rfl⟩
            have f42 : (fun v _ => v = (Value.bool false)) x42 u8 := by rw [← hx42]; exact hh.got 0 _ 42 rfl rfl (hall 0 (by decide))
            obtain ⟨x43, hx43⟩ : ∃ x, A.eval (.tmp 43) = x := ⟨_, rfl⟩
            have f43 : (fun v _ => v = (Value.slice (some ⟨fb, fo, none⟩) m fc)) x43 u8 := by rw [← hx43]; exact hh.got 1 _ 43 rfl rfl (hall 1 (by decide))
            obtain ⟨x44, hx44⟩ : ∃ x, A.eval (.tmp 44) = x := ⟨_, rfl⟩
            have f44 : (fun v _ => v = (Value.int .i64 (i : Nat))) x44 u8 := by rw [← hx44]; exact hh.got 2 _ 44 rfl rfl (hall 2 (by decide))
            obtain ⟨x45, hx45⟩ : ∃ x, A.eval (.tmp 45) = x := ⟨_, rfl⟩
            have f45 : (fun v _ => v = (Value.pointer (some ⟨fb, fo + i * 35, none⟩))) x45 u8 := by rw [← hx45]; exact hh.got 3 _ 45 rfl rfl (hall 3 (by decide))
            obtain ⟨x46, hx46⟩ : ∃ x, A.eval (.tmp 46) = x := ⟨_, rfl⟩
            have f46 : (fun v _ => v = (Value.pointer (some ⟨fb, fo + i * 35 + 34, none⟩))) x46 u8 := by rw [← hx46]; exact hh.got 4 _ 46 rfl rfl (hall 4 (by decide))
            obtain ⟨x47, hx47⟩ : ∃ x, A.eval (.tmp 47) = x := ⟨_, rfl⟩
            have f47 : (fun v _ => v = (Value.bool true)) x47 u8 := by rw [← hx47]; exact hh.got 5 _ 47 rfl rfl (hall 5 (by decide))
            obtain ⟨x48, hx48⟩ : ∃ x, A.eval (.tmp 48) = x := ⟨_, rfl⟩
            have f48 : (fun v _ => v = (Value.bool false)) x48 u8 := by rw [← hx48]; exact hh.got 6 _ 48 rfl rfl (hall 6 (by decide))
            obtain ⟨x49, hx49⟩ : ∃ x, A.eval (.tmp 49) = x := ⟨_, rfl⟩
            have f49 : (fun v _ => v = (Value.bool false)) x49 u8 := by rw [← hx49]; exact hh.got 7 _ 49 rfl rfl (hall 7 (by decide))
            obtain ⟨x50, hx50⟩ : ∃ x, A.eval (.tmp 50) = x := ⟨_, rfl⟩
            have f50 : (fun v _ => v = (Value.bool false)) x50 u8 := by rw [← hx50]; exact hh.got 8 _ 50 rfl rfl (hall 8 (by decide))
            obtain ⟨x51, hx51⟩ : ∃ x, A.eval (.tmp 51) = x := ⟨_, rfl⟩
            have f51 : (fun v _ => v = (Value.bool false)) x51 u8 := by rw [← hx51]; exact hh.got 9 _ 51 rfl rfl (hall 9 (by decide))
            obtain ⟨x52, hx52⟩ : ∃ x, A.eval (.tmp 52) = x := ⟨_, rfl⟩
            have f52 : (fun v _ => v = undef) x52 u8 := by rw [← hx52]; exact hh.got 10 _ 52 rfl rfl (hall 10 (by decide))
            obtain ⟨x53, hx53⟩ : ∃ x, A.eval (.tmp 53) = x := ⟨_, rfl⟩
            have f53 : (fun v _ => v = undef) x53 u8 := by rw [← hx53]; exact hh.got 11 _ 53 rfl rfl (hall 11 (by decide))
            obtain ⟨x54, hx54⟩ : ∃ x, A.eval (.tmp 54) = x := ⟨_, rfl⟩
            have f54 : (fun v _ => v = undef) x54 u8 := by rw [← hx54]; exact hh.got 12 _ 54 rfl rfl (hall 12 (by decide))
            obtain ⟨x55, hx55⟩ : ∃ x, A.eval (.tmp 55) = x := ⟨_, rfl⟩
            have f55 : (fun v _ => v = undef) x55 u8 := by rw [← hx55]; exact hh.got 13 _ 55 rfl rfl (hall 13 (by decide))
            obtain ⟨x56, hx56⟩ : ∃ x, A.eval (.tmp 56) = x := ⟨_, rfl⟩
            have f56 : (fun v _ => v = undef) x56 u8 := by rw [← hx56]; exact hh.got 14 _ 56 rfl rfl (hall 14 (by decide))
            obtain ⟨x57, hx57⟩ : ∃ x, A.eval (.tmp 57) = x := ⟨_, rfl⟩
            have f57 : (fun v _ => v = undef) x57 u8 := by rw [← hx57]; exact hh.got 15 _ 57 rfl rfl (hall 15 (by decide))
            obtain ⟨x58, hx58⟩ : ∃ x, A.eval (.tmp 58) = x := ⟨_, rfl⟩
            have f58 : (fun v _ => v = undef) x58 u8 := by rw [← hx58]; exact hh.got 16 _ 58 rfl rfl (hall 16 (by decide))
            obtain ⟨x59, hx59⟩ : ∃ x, A.eval (.tmp 59) = x := ⟨_, rfl⟩
            have f59 : (fun v _ => v = undef) x59 u8 := by rw [← hx59]; exact hh.got 17 _ 59 rfl rfl (hall 17 (by decide))
            obtain ⟨x60, hx60⟩ : ∃ x, A.eval (.tmp 60) = x := ⟨_, rfl⟩
            have f60 : (fun v _ => v = undef) x60 u8 := by rw [← hx60]; exact hh.got 18 _ 60 rfl rfl (hall 18 (by decide))
            obtain ⟨x61, hx61⟩ : ∃ x, A.eval (.tmp 61) = x := ⟨_, rfl⟩
            have f61 : (fun v _ => v = undef) x61 u8 := by rw [← hx61]; exact hh.got 19 _ 61 rfl rfl (hall 19 (by decide))
            obtain ⟨x62, hx62⟩ : ∃ x, A.eval (.tmp 62) = x := ⟨_, rfl⟩
            have f62 : (fun v _ => v = undef) x62 u8 := by rw [← hx62]; exact hh.got 20 _ 62 rfl rfl (hall 20 (by decide))
            obtain ⟨x63, hx63⟩ : ∃ x, A.eval (.tmp 63) = x := ⟨_, rfl⟩
            have f63 : (fun v _ => v = undef) x63 u8 := by rw [← hx63]; exact hh.got 21 _ 63 rfl rfl (hall 21 (by decide))
            obtain ⟨x64, hx64⟩ : ∃ x, A.eval (.tmp 64) = x := ⟨_, rfl⟩
            have f64 : (fun v _ => v = undef) x64 u8 := by rw [← hx64]; exact hh.got 22 _ 64 rfl rfl (hall 22 (by decide))
            obtain ⟨x65, hx65⟩ : ∃ x, A.eval (.tmp 65) = x := ⟨_, rfl⟩
            have f65 : (fun v _ => v = undef) x65 u8 := by rw [← hx65]; exact hh.got 23 _ 65 rfl rfl (hall 23 (by decide))
            obtain ⟨x66, hx66⟩ : ∃ x, A.eval (.tmp 66) = x := ⟨_, rfl⟩
            have f66 : (fun v _ => v = undef) x66 u8 := by rw [← hx66]; exact hh.got 24 _ 66 rfl rfl (hall 24 (by decide))
            obtain ⟨x67, hx67⟩ : ∃ x, A.eval (.tmp 67) = x := ⟨_, rfl⟩
            have f67 : (fun v _ => v = undef) x67 u8 := by rw [← hx67]; exact hh.got 25 _ 67 rfl rfl (hall 25 (by decide))
            obtain ⟨x68, hx68⟩ : ∃ x, A.eval (.tmp 68) = x := ⟨_, rfl⟩
            have f68 : (fun v _ => v = undef) x68 u8 := by rw [← hx68]; exact hh.got 26 _ 68 rfl rfl (hall 26 (by decide))
            obtain ⟨x69, hx69⟩ : ∃ x, A.eval (.tmp 69) = x := ⟨_, rfl⟩
            have f69 : (fun v _ => v = undef) x69 u8 := by rw [← hx69]; exact hh.got 27 _ 69 rfl rfl (hall 27 (by decide))
            obtain ⟨x70, hx70⟩ : ∃ x, A.eval (.tmp 70) = x := ⟨_, rfl⟩
            have f70 : (fun v _ => v = (Value.bool false)) x70 u8 := by rw [← hx70]; exact hh.got 28 _ 70 rfl rfl (hall 28 (by decide))
            obtain ⟨x71, hx71⟩ : ∃ x, A.eval (.tmp 71) = x := ⟨_, rfl⟩
            have f71 : (fun v _ => v = (Value.bool false)) x71 u8 := by rw [← hx71]; exact hh.got 29 _ 71 rfl rfl (hall 29 (by decide))
            dsimp only [wrote, List.foldl] at hA
            rw [hx42, hx43, hx44, hx45, hx46, hx47, hx48, hx49, hx50, hx51, hx52, hx53, hx54, hx55, hx56, hx57, hx58, hx59, hx60, hx61, hx62, hx63, hx64, hx65, hx66, hx67, hx68, hx69, hx70, hx71] at hA
            clear hh hall hx42 hx43 hx44 hx45 hx46 hx47 hx48 hx49 hx50 hx51 hx52 hx53 hx54 hx55 hx56 hx57 hx58 hx59 hx60 hx61 hx62 hx63 hx64 hx65 hx66 hx67 hx68 hx69 hx70 hx71
            replace f42 := (f42 : x42 = (.bool false))
            subst f42
            replace f43 := (f43 : x43 = (.slice (some ⟨fb, fo, none⟩) m fc))
            subst f43
            replace f44 := (f44 : x44 = (.int .i64 (i : Nat)))
            subst f44
            replace f45 := (f45 : x45 = (.pointer (some ⟨fb, fo + i * 35, none⟩)))
            subst f45
            replace f46 := (f46 : x46 = (.pointer (some ⟨fb, fo + i * 35 + 34, none⟩)))
            subst f46
            replace f47 := (f47 : x47 = (.bool true))
            subst f47
            replace f48 := (f48 : x48 = (.bool false))
            subst f48
            replace f49 := (f49 : x49 = (.bool false))
            subst f49
            replace f50 := (f50 : x50 = (.bool false))
            subst f50
            replace f51 := (f51 : x51 = (.bool false))
            subst f51
            replace f52 := (f52 : x52 = undef)
            subst f52
            replace f53 := (f53 : x53 = undef)
            subst f53
            replace f54 := (f54 : x54 = undef)
            subst f54
            replace f55 := (f55 : x55 = undef)
            subst f55
            replace f56 := (f56 : x56 = undef)
            subst f56
            replace f57 := (f57 : x57 = undef)
            subst f57
            replace f58 := (f58 : x58 = undef)
            subst f58
            replace f59 := (f59 : x59 = undef)
            subst f59
            replace f60 := (f60 : x60 = undef)
            subst f60
            replace f61 := (f61 : x61 = undef)
            subst f61
            replace f62 := (f62 : x62 = undef)
            subst f62
            replace f63 := (f63 : x63 = undef)
            subst f63
            replace f64 := (f64 : x64 = undef)
            subst f64
            replace f65 := (f65 : x65 = undef)
            subst f65
            replace f66 := (f66 : x66 = undef)
            subst f66
            replace f67 := (f67 : x67 = undef)
            subst f67
            replace f68 := (f68 : x68 = undef)
            subst f68
            replace f69 := (f69 : x69 = undef)
            subst f69
            replace f70 := (f70 : x70 = (.bool false))
            subst f70
            replace f71 := (f71 : x71 = (.bool false))
            subst f71
            subst hA
            show wpList _ _ _ [] _ _
            unfold wpList
            simp only [Act.put, List.setIfInBounds_toArray, List.set_cons_succ, List.set_cons_zero]
            have HGx := hid (gtrans HG.out (gtrans HSq.out HU.out))
            go_wp2_with fail
            go_roundw
            case rel => exact ⟨i + 1, by go_num, by rw [HSn.out], by omega, HGx⟩
            case measure => simp [intOf]; omega
      | false =>
        have HFd : Hid (∀ u, wr.grownBy u none → Calls Try.prog 30 #[.agg [.slice a n c, .int .u64 nx].toArray, .int .u64 KD] u fun e w' => e = .returned (.tuple #[.agg Z.cells.toArray, .bool true]) ∧ u.grownBy w' none) := hid (by
          have h := HFd0.out
          rw [HFf.out rfl] at h
          exact h)
        have HE4 : Hid (∀ (x y : Operand) (u : World), (do eqGuard .eql 4 x y (.bool true) (.bool false); binOp .eql 4 (.bool true) (.bool false) : Sem Value).run Try.prog u = .ok (.bool false) u) := fun x y u => eql4 x y true false u
        have HSn : Hid (cn (i + 1) = q + 1) := hid (by rw [HCs2.out]; rfl)
        clear HFd0
        go_wp2_with fail
        have HRL : Hid (Z.cells.length = 34) := HZL
        refine wp_region_late (by kernel_rfl) [fun v _ => v = (Value.agg [Value.slice a n c, Value.int .u64 nx].toArray), fun v _ => v = (Value.slice (some ⟨fb, fo, none⟩) m fc), fun v _ => v = (Value.int .i64 (i : Nat)), fun v _ => v = (Value.pointer (some ⟨fb, fo + i * 35, none⟩)), fun v _ => v = (Value.pointer (some ⟨fb, fo + i * 35, none⟩)), fun v _ => v = (Value.int .u64 (KD : Nat)), fun v _ => v = (Value.tuple #[Value.agg Z.cells.toArray, Value.bool true]), fun v _ => v = (Value.tuple #[Value.agg Z.cells.toArray, Value.bool true]), fun v _ => v = (Value.agg Z.cells.toArray), fun v _ => v = (Value.bool true), fun v u => ∃ bb, v = Value.pointer (some ⟨bb, 0, none⟩) ∧ Blk u bb zky.cells 107 ∧ HH ≤ bb] (none) (fun _ => none) 11 9 (by kernel_rfl) (by kernel_rfl) (by kernel_rfl) (by kernel_rfl) (by kernel_rfl) (by decide) (by decide) _ _ rfl rfl noRow_one (fun _ => .inl rfl) ⟨fun i v u u' hki h hg => h, fun i v u u' hki h hg => h, fun i v u u' hki h hg => h, fun i v u u' hki h hg => h, fun i v u u' hki h hg => h, fun i v u u' hki h hg => h, fun i v u u' hki h hg => h, fun i v u u' hki h hg => h, fun i v u u' hki h hg => h, fun i v u u' hki h hg => h, fun i v u u' hki h hg => (by obtain ⟨bb, e, hb, hl⟩ := h; exact ⟨bb, e, hb.keep hg, hl⟩), trivial⟩ ⟨?_, ?_, ?_, ?_, ?_, ?_, ?_, ?_, ?_, ?_, ?_, trivial⟩ ?_ ?_
        · intro A u hu hpu hsz hout hdeps
          have e2 : A.eval (.tmp 2) = (.pointer (some ⟨b1, 0, none⟩)) := (hout 2 (by kernel_rfl)).trans rfl
          refine ifw_none rfl ?_
          with_reducible refine shown_q (Value.agg [Value.slice a n c, Value.int .u64 nx].toArray) ?qq_1h_0 (fun _ _ => ?qr_1h_0)
          case qr_1h_0 => exact (rfl : (Value.agg [Value.slice a n c, Value.int .u64 nx].toArray) = (Value.agg [Value.slice a n c, Value.int .u64 nx].toArray))
          with_reducible refine quietAt_load 69 (.tmp 2) ?h0_1h_0 b1 0 [Value.slice a n c, Value.int .u64 nx] (.struct (Try.prog.fieldsOf 69)) ?h1_1h_0 ?h2_1h_0 ?h3_1h_0 ?h4_1h_0 ?h5_1h_0
          case h0_1h_0 => rfl
          case h1_1h_0 => exact e2
          case h2_1h_0 => exact (HB4.out.keep hu).whole
          case h3_1h_0 => exact Try.under69
          case h4_1h_0 => rfl
          case h5_1h_0 => exact Try.size69
        · intro A u hu hpu hsz hout hdeps
          have e1 : A.eval (.tmp 1) = (.slice (some ⟨fb, fo, none⟩) m fc) := (hout 1 (by kernel_rfl)).trans rfl
          refine ifw_none rfl ?_
          with_reducible refine shown_q (Value.slice (some ⟨fb, fo, none⟩) m fc) ?qq_1h_1 (fun _ _ => ?qr_1h_1)
          case qr_1h_1 => exact (rfl : (Value.slice (some ⟨fb, fo, none⟩) m fc) = (Value.slice (some ⟨fb, fo, none⟩) m fc))
          with_reducible refine quietAt_mv (.tmp 1) (Value.slice (some ⟨fb, fo, none⟩) m fc) ?h0_1h_1 ?h1_1h_1
          case h0_1h_1 => rfl
          case h1_1h_1 => exact e1
        · intro A u hu hpu hsz hout hdeps
          have e6 : A.eval (.tmp 6) = (.int .i64 (i : Nat)) := (hout 6 (by kernel_rfl)).trans rfl
          refine ifw_none rfl ?_
          with_reducible refine shown_q (Value.int .i64 (i : Nat)) ?qq_1h_2 (fun _ _ => ?qr_1h_2)
          case qr_1h_2 => exact (rfl : (Value.int .i64 (i : Nat)) = (Value.int .i64 (i : Nat)))
          with_reducible refine quietAt_mv (.tmp 6) (Value.int .i64 (i : Nat)) ?h0_1h_2 ?h1_1h_2
          case h0_1h_2 => rfl
          case h1_1h_2 => exact e6
        · intro A u hu hpu hsz hout hdeps
          have e34 : A.eval (.tmp 34) = (.slice (some ⟨fb, fo, none⟩) m fc) := by have h := depL hdeps 1 (by kernel_rfl) 34 (by kernel_rfl); exact h
          have e35 : A.eval (.tmp 35) = (.int .i64 (i : Nat)) := by have h := depL hdeps 2 (by kernel_rfl) 35 (by kernel_rfl); exact h
          refine ifw_none rfl ?_
          with_reducible refine shown_q (Value.pointer (some ⟨fb, fo + i * 35, none⟩)) ?qq_1h_3 (fun _ _ => ?qr_1h_3)
          case qr_1h_3 => exact (rfl : (Value.pointer (some ⟨fb, fo + i * 35, none⟩)) = (Value.pointer (some ⟨fb, fo + i * 35, none⟩)))
          with_reducible refine quietAt_idx 97 (.tmp 34) (.tmp 35) (Value.slice (some ⟨fb, fo, none⟩) m fc) (Value.int .i64 (i : Nat)) (Value.pointer (some ⟨fb, fo + i * 35, none⟩)) ?h0_1h_3 ?h1_1h_3 ?h2_1h_3 ?h3_1h_3
          case h0_1h_3 => rfl
          case h1_1h_3 => exact e34
          case h2_1h_3 => exact e35
          case h3_1h_3 => exact idx97 fb fo m fc i him u
        · intro A u hu hpu hsz hout hdeps
          have e36 : A.eval (.tmp 36) = (.pointer (some ⟨fb, fo + i * 35, none⟩)) := by have h := depL hdeps 3 (by kernel_rfl) 36 (by kernel_rfl); exact h
          refine ifw_none rfl ?_
          with_reducible refine shown_q (Value.pointer (some ⟨fb, fo + i * 35, none⟩)) ?qq_1h_4 (fun _ _ => ?qr_1h_4)
          case qr_1h_4 => exact (rfl : (Value.pointer (some ⟨fb, fo + i * 35, none⟩)) = (Value.pointer (some ⟨fb, fo + i * 35, none⟩)))
          with_reducible refine quietAt_field 96 (.tmp 36) 0 ?h0_1h_4 ⟨fb, fo + i * 35, none⟩ ⟨fb, fo + i * 35, none⟩ ?h1_1h_4 ?h2_1h_4
          case h0_1h_4 => rfl
          case h1_1h_4 => exact e36
          case h2_1h_4 => kernel_rfl
        · intro A u hu hpu hsz hout hdeps
          have e37 : A.eval (.tmp 37) = (.pointer (some ⟨fb, fo + i * 35, none⟩)) := by have h := depL hdeps 4 (by kernel_rfl) 37 (by kernel_rfl); exact h
          refine ifw_none rfl ?_
          with_reducible refine shown_q (Value.int .u64 (KD : Nat)) ?qq_1h_5 (fun _ _ => ?qr_1h_5)
          case qr_1h_5 => exact (rfl : (Value.int .u64 (KD : Nat)) = (Value.int .u64 (KD : Nat)))
          with_reducible refine quietAt_ld 67 (.tmp 37) (Value.pointer (some ⟨fb, fo + i * 35, none⟩)) (Value.int .u64 (KD : Nat)) ?h0_1h_5 ?h1_1h_5 ?h2_1h_5
          case h0_1h_5 => rfl
          case h1_1h_5 => exact e37
          case h2_1h_5 => exact ld67 fb (fo + i * 35) KD u (HF0.out u hu)
        · intro A u hu hpu hsz hout hdeps
          have e33 : A.eval (.tmp 33) = (.agg [.slice a n c, .int .u64 nx].toArray) := by have h := depL hdeps 0 (by kernel_rfl) 33 (by kernel_rfl); exact h
          have e38 : A.eval (.tmp 38) = (.int .u64 (KD : Nat)) := by have h := depL hdeps 5 (by kernel_rfl) 38 (by kernel_rfl); exact h
          refine ifw_none rfl ?_
          with_reducible refine shown_q (Value.tuple #[Value.agg Z.cells.toArray, Value.bool true]) ?qq_1h_6 (fun _ _ => ?qr_1h_6)
          case qr_1h_6 => exact (rfl : (Value.tuple #[Value.agg Z.cells.toArray, Value.bool true]) = (Value.tuple #[Value.agg Z.cells.toArray, Value.bool true]))
          with_reducible refine quietAt_call 30 Try.f30 ?h0_1h_6 ?h1_1h_6 ?h2_1h_6 #[.tmp 33, .tmp 38] #[69, 67] ?h3_1h_6 (Value.tuple #[Value.agg Z.cells.toArray, Value.bool true]) #[(Value.agg [Value.slice a n c, Value.int .u64 nx].toArray), (Value.int .u64 (KD : Nat))] ?h4_1h_6 ?h5_1h_6
          case h0_1h_6 => exact Try.func30
          case h1_1h_6 => kernel_rfl
          case h2_1h_6 => kernel_rfl
          case h3_1h_6 => rfl
          case h4_1h_6 => exact map2 _ _ _ _ _ e33 e38
          case h5_1h_6 => exact HFd.out u hu
        · intro A u hu hpu hsz hout hdeps
          have e39 : A.eval (.tmp 39) = (.tuple #[.agg Z.cells.toArray, .bool true]) := by have h := depL hdeps 6 (by kernel_rfl) 39 (by kernel_rfl); exact h
          refine ifw_none rfl ?_
          with_reducible refine shown_q (Value.tuple #[Value.agg Z.cells.toArray, Value.bool true]) ?qq_1h_7 (fun _ _ => ?qr_1h_7)
          case qr_1h_7 => exact (rfl : (Value.tuple #[Value.agg Z.cells.toArray, Value.bool true]) = (Value.tuple #[Value.agg Z.cells.toArray, Value.bool true]))
          with_reducible refine quietAt_mv (.tmp 39) (Value.tuple #[Value.agg Z.cells.toArray, Value.bool true]) ?h0_1h_7 ?h1_1h_7
          case h0_1h_7 => rfl
          case h1_1h_7 => exact e39
        · intro A u hu hpu hsz hout hdeps
          have e32 : A.eval (.tmp 32) = (.tuple #[.agg Z.cells.toArray, .bool true]) := by have h := depL hdeps 7 (by kernel_rfl) 32 (by kernel_rfl); exact h
          refine ifw_none rfl ?_
          with_reducible refine shown_q (Value.agg Z.cells.toArray) ?qq_1h_8 (fun _ _ => ?qr_1h_8)
          case qr_1h_8 => exact (rfl : (Value.agg Z.cells.toArray) = (Value.agg Z.cells.toArray))
          with_reducible refine quietAt_ex (.tmp 32) 0 ?h0_1h_8 #[Value.agg Z.cells.toArray, Value.bool true] (Value.agg Z.cells.toArray) ?h1_1h_8 ?h2_1h_8
          case h0_1h_8 => rfl
          case h1_1h_8 => exact e32
          case h2_1h_8 => kernel_rfl
        · intro A u hu hpu hsz hout hdeps
          have e32 : A.eval (.tmp 32) = (.tuple #[.agg Z.cells.toArray, .bool true]) := by have h := depL hdeps 7 (by kernel_rfl) 32 (by kernel_rfl); exact h
          refine ifw_none rfl ?_
          with_reducible refine shown_q (Value.bool true) ?qq_1h_9 (fun _ _ => ?qr_1h_9)
          case qr_1h_9 => exact (rfl : (Value.bool true) = (Value.bool true))
          with_reducible refine quietAt_ex (.tmp 32) 1 ?h0_1h_9 #[Value.agg Z.cells.toArray, Value.bool true] (Value.bool true) ?h1_1h_9 ?h2_1h_9
          case h0_1h_9 => rfl
          case h1_1h_9 => exact e32
          case h2_1h_9 => kernel_rfl
        · intro A u hu hpu hsz hout hdeps
          refine ifw_none rfl ?_
          exact shown_alloc 107 rfl zky.cells Try.zero107 (fun w' h _ => ⟨u.heap.size, rfl, h, by have := hu.size; have := HHs.out; omega⟩)
        · intro A u7 listed hh hall
          have hA := hh.frame
          have HU := hid hh.grown
          obtain ⟨x33, hx33⟩ : ∃ x, A.eval (.tmp 33) = x := ⟨_, rfl⟩
          have f33 : (fun v _ => v = (Value.agg [Value.slice a n c, Value.int .u64 nx].toArray)) x33 u7 := by rw [← hx33]; exact hh.got 0 _ 33 rfl rfl (hall 0 (by decide))
          obtain ⟨x34, hx34⟩ : ∃ x, A.eval (.tmp 34) = x := ⟨_, rfl⟩
          have f34 : (fun v _ => v = (Value.slice (some ⟨fb, fo, none⟩) m fc)) x34 u7 := by rw [← hx34]; exact hh.got 1 _ 34 rfl rfl (hall 1 (by decide))
          obtain ⟨x35, hx35⟩ : ∃ x, A.eval (.tmp 35) = x := ⟨_, rfl⟩
          have f35 : (fun v _ => v = (Value.int .i64 (i : Nat))) x35 u7 := by rw [← hx35]; exact hh.got 2 _ 35 rfl rfl (hall 2 (by decide))
          obtain ⟨x36, hx36⟩ : ∃ x, A.eval (.tmp 36) = x := ⟨_, rfl⟩
          have f36 : (fun v _ => v = (Value.pointer (some ⟨fb, fo + i * 35, none⟩))) x36 u7 := by rw [← hx36]; exact hh.got 3 _ 36 rfl rfl (hall 3 (by decide))
          obtain ⟨x37, hx37⟩ : ∃ x, A.eval (.tmp 37) = x := ⟨_, rfl⟩
          have f37 : (fun v _ => v = (Value.pointer (some ⟨fb, fo + i * 35, none⟩))) x37 u7 := by rw [← hx37]; exact hh.got 4 _ 37 rfl rfl (hall 4 (by decide))
          obtain ⟨x38, hx38⟩ : ∃ x, A.eval (.tmp 38) = x := ⟨_, rfl⟩
          have f38 : (fun v _ => v = (Value.int .u64 (KD : Nat))) x38 u7 := by rw [← hx38]; exact hh.got 5 _ 38 rfl rfl (hall 5 (by decide))
          obtain ⟨x39, hx39⟩ : ∃ x, A.eval (.tmp 39) = x := ⟨_, rfl⟩
          have f39 : (fun v _ => v = (Value.tuple #[Value.agg Z.cells.toArray, Value.bool true])) x39 u7 := by rw [← hx39]; exact hh.got 6 _ 39 rfl rfl (hall 6 (by decide))
          obtain ⟨x32, hx32⟩ : ∃ x, A.eval (.tmp 32) = x := ⟨_, rfl⟩
          have f32 : (fun v _ => v = (Value.tuple #[Value.agg Z.cells.toArray, Value.bool true])) x32 u7 := by rw [← hx32]; exact hh.got 7 _ 32 rfl rfl (hall 7 (by decide))
          obtain ⟨x40, hx40⟩ : ∃ x, A.eval (.tmp 40) = x := ⟨_, rfl⟩
          have f40 : (fun v _ => v = (Value.agg Z.cells.toArray)) x40 u7 := by rw [← hx40]; exact hh.got 8 _ 40 rfl rfl (hall 8 (by decide))
          obtain ⟨x41, hx41⟩ : ∃ x, A.eval (.tmp 41) = x := ⟨_, rfl⟩
          have f41 : (fun v _ => v = (Value.bool true)) x41 u7 := by rw [← hx41]; exact hh.got 9 _ 41 rfl rfl (hall 9 (by decide))
          obtain ⟨x7, hx7⟩ : ∃ x, A.eval (.tmp 7) = x := ⟨_, rfl⟩
          have f7 : (fun v u => ∃ bb, v = Value.pointer (some ⟨bb, 0, none⟩) ∧ Blk u bb zky.cells 107 ∧ HH ≤ bb) x7 u7 := by rw [← hx7]; exact hh.got 10 _ 7 rfl rfl (hall 10 (by decide))
          obtain ⟨x8, hx8⟩ : ∃ x, A.eval (.tmp 8) = x := ⟨_, rfl⟩
          dsimp only [wrote, List.foldl] at hA
          rw [hx33, hx34, hx35, hx36, hx37, hx38, hx39, hx32, hx40, hx41, hx7, hx8] at hA
          clear hh hall hx33 hx34 hx35 hx36 hx37 hx38 hx39 hx32 hx40 hx41 hx7 hx8
          replace f33 := (f33 : x33 = (.agg [.slice a n c, .int .u64 nx].toArray))
          subst f33
          replace f34 := (f34 : x34 = (.slice (some ⟨fb, fo, none⟩) m fc))
          subst f34
          replace f35 := (f35 : x35 = (.int .i64 (i : Nat)))
          subst f35
          replace f36 := (f36 : x36 = (.pointer (some ⟨fb, fo + i * 35, none⟩)))
          subst f36
          replace f37 := (f37 : x37 = (.pointer (some ⟨fb, fo + i * 35, none⟩)))
          subst f37
          replace f38 := (f38 : x38 = (.int .u64 (KD : Nat)))
          subst f38
          replace f39 := (f39 : x39 = (.tuple #[.agg Z.cells.toArray, .bool true]))
          subst f39
          replace f32 := (f32 : x32 = (.tuple #[.agg Z.cells.toArray, .bool true]))
          subst f32
          replace f40 := (f40 : x40 = (.agg Z.cells.toArray))
          subst f40
          replace f41 := (f41 : x41 = (.bool true))
          subst f41
          obtain ⟨b7, e7, hb7b, hb7l⟩ := f7
          subst e7
          subst hA
          show wpList _ _ _ [_, _] _ _
          simp only [Act.put, List.setIfInBounds_toArray, List.set_cons_succ, List.set_cons_zero]
          go_wp2_with ((with_reducible refine wpList_store_all (by with_unfolding_all rfl) 107 _ _ (by with_unfolding_all rfl) _ zky.cells Z.cells 107 (by with_unfolding_all rfl) (by with_unfolding_all rfl) hb7b (by rw [HRL.out]; with_unfolding_all rfl) (by rw [HRL.out]; exact Try.size107) (Ky.one _) ?_); intro w30 B30 g30 s30; have HB30 := hid B30; have HG30 := hid g30; have HS30 := hid s30; clear B30 g30 s30)
          have HSq := hid ((HU.out).andThen HG30.out (fun j hj => .inl (by injection hj with hj; have := HHs.out; omega)))
          clear HU hb7b hb7l HG30 HS30
          refine wp_region_list (by kernel_rfl) [fun v _ => v = (Value.bool true), fun v _ => v = (Value.slice (some ⟨fb, fo, none⟩) m fc), fun v _ => v = (Value.int .i64 (i : Nat)), fun v _ => v = (Value.pointer (some ⟨fb, fo + i * 35, none⟩)), fun v _ => v = (Value.pointer (some ⟨fb, fo + i * 35 + 34, none⟩)), fun v _ => v = (Value.bool false), fun v _ => v = (Value.bool false), fun v _ => v = (Value.bool false), fun v _ => v = (Value.bool true), fun v _ => v = (Value.bool true), fun v _ => v = (Value.agg Z.cells.toArray), fun v _ => v = (Value.slice (some ⟨fb, fo, none⟩) m fc), fun v _ => v = (Value.int .i64 (i : Nat)), fun v _ => v = (Value.pointer (some ⟨fb, fo + i * 35, none⟩)), fun v _ => v = (Value.pointer (some ⟨fb, fo + i * 35, none⟩)), fun v _ => v = (Value.int .u64 (KD : Nat)), fun v _ => v = (Value.slice (some ⟨fb, fo, none⟩) m fc), fun v _ => v = (Value.int .i64 (i : Nat)), fun v _ => v = (Value.pointer (some ⟨fb, fo + i * 35, none⟩)), fun v _ => v = (Value.pointer (some ⟨fb, fo + i * 35 + 1, none⟩)), fun v _ => v = (Value.agg (Lib.byteCells Z.sec).toArray), fun v _ => v = (Value.slice (some ⟨fb, fo, none⟩) m fc), fun v _ => v = (Value.int .i64 (i : Nat)), fun v _ => v = (Value.pointer (some ⟨fb, fo + i * 35, none⟩)), fun v _ => v = (Value.pointer (some ⟨fb, fo + i * 35 + 33, none⟩)), fun v _ => v = (Value.int .i64 Z.til), fun v _ => v = (Value.agg Z.cells.toArray), fun v _ => v = (Value.bool false), fun v _ => v = (Value.bool false), fun v _ => v = (Value.bool false)] (none) (fun _ => none) 30 (by kernel_rfl) (by kernel_rfl) (by kernel_rfl) (by kernel_rfl) (by decide) noRow_one (fun _ => .inl rfl) ⟨fun i v u u' hki h hg => h, fun i v u u' hki h hg => h, fun i v u u' hki h hg => h, fun i v u u' hki h hg => h, fun i v u u' hki h hg => h, fun i v u u' hki h hg => h, fun i v u u' hki h hg => h, fun i v u u' hki h hg => h, fun i v u u' hki h hg => h, fun i v u u' hki h hg => h, fun i v u u' hki h hg => h, fun i v u u' hki h hg => h, fun i v u u' hki h hg => h, fun i v u u' hki h hg => h, fun i v u u' hki h hg => h, fun i v u u' hki h hg => h, fun i v u u' hki h hg => h, fun i v u u' hki h hg => h, fun i v u u' hki h hg => h, fun i v u u' hki h hg => h, fun i v u u' hki h hg => h, fun i v u u' hki h hg => h, fun i v u u' hki h hg => h, fun i v u u' hki h hg => h, fun i v u u' hki h hg => h, fun i v u u' hki h hg => h, fun i v u u' hki h hg => h, fun i v u u' hki h hg => h, fun i v u u' hki h hg => h, fun i v u u' hki h hg => h, trivial⟩ ⟨?_, ?_, ?_, ?_, ?_, ?_, ?_, ?_, ?_, ?_, ?_, ?_, ?_, ?_, ?_, ?_, ?_, ?_, ?_, ?_, ?_, ?_, ?_, ?_, ?_, ?_, ?_, ?_, ?_, ?_, trivial⟩ ?_
          · intro A u hu hpu hsz hout hdeps
            have e8 : A.eval (.tmp 8) = (.bool true) := (hout 8 (by kernel_rfl)).trans rfl
            refine ifw_none rfl ?_
            with_reducible refine shown_q (Value.bool true) ?qq_3h_0 (fun _ _ => ?qr_3h_0)
            case qr_3h_0 => exact (rfl : (Value.bool true) = (Value.bool true))
            with_reducible refine quietAt_mv (.tmp 8) (Value.bool true) ?h0_3h_0 ?h1_3h_0
            case h0_3h_0 => rfl
            case h1_3h_0 => exact e8
          · intro A u hu hpu hsz hout hdeps
            have e1 : A.eval (.tmp 1) = (.slice (some ⟨fb, fo, none⟩) m fc) := (hout 1 (by kernel_rfl)).trans rfl
            refine ifw_none rfl ?_
            with_reducible refine shown_q (Value.slice (some ⟨fb, fo, none⟩) m fc) ?qq_3h_1 (fun _ _ => ?qr_3h_1)
            case qr_3h_1 => exact (rfl : (Value.slice (some ⟨fb, fo, none⟩) m fc) = (Value.slice (some ⟨fb, fo, none⟩) m fc))
            with_reducible refine quietAt_mv (.tmp 1) (Value.slice (some ⟨fb, fo, none⟩) m fc) ?h0_3h_1 ?h1_3h_1
            case h0_3h_1 => rfl
            case h1_3h_1 => exact e1
          · intro A u hu hpu hsz hout hdeps
            have e6 : A.eval (.tmp 6) = (.int .i64 (i : Nat)) := (hout 6 (by kernel_rfl)).trans rfl
            refine ifw_none rfl ?_
            with_reducible refine shown_q (Value.int .i64 (i : Nat)) ?qq_3h_2 (fun _ _ => ?qr_3h_2)
            case qr_3h_2 => exact (rfl : (Value.int .i64 (i : Nat)) = (Value.int .i64 (i : Nat)))
            with_reducible refine quietAt_mv (.tmp 6) (Value.int .i64 (i : Nat)) ?h0_3h_2 ?h1_3h_2
            case h0_3h_2 => rfl
            case h1_3h_2 => exact e6
          · intro A u hu hpu hsz hout hdeps
            have e43 : A.eval (.tmp 43) = (.slice (some ⟨fb, fo, none⟩) m fc) := by have h := depL hdeps 1 (by kernel_rfl) 43 (by kernel_rfl); exact h
            have e44 : A.eval (.tmp 44) = (.int .i64 (i : Nat)) := by have h := depL hdeps 2 (by kernel_rfl) 44 (by kernel_rfl); exact h
            refine ifw_none rfl ?_
            with_reducible refine shown_q (Value.pointer (some ⟨fb, fo + i * 35, none⟩)) ?qq_3h_3 (fun _ _ => ?qr_3h_3)
            case qr_3h_3 => exact (rfl : (Value.pointer (some ⟨fb, fo + i * 35, none⟩)) = (Value.pointer (some ⟨fb, fo + i * 35, none⟩)))
            with_reducible refine quietAt_idx 97 (.tmp 43) (.tmp 44) (Value.slice (some ⟨fb, fo, none⟩) m fc) (Value.int .i64 (i : Nat)) (Value.pointer (some ⟨fb, fo + i * 35, none⟩)) ?h0_3h_3 ?h1_3h_3 ?h2_3h_3 ?h3_3h_3
            case h0_3h_3 => rfl
            case h1_3h_3 => exact e43
            case h2_3h_3 => exact e44
            case h3_3h_3 => exact idx97 fb fo m fc i him u
          · intro A u hu hpu hsz hout hdeps
            have e45 : A.eval (.tmp 45) = (.pointer (some ⟨fb, fo + i * 35, none⟩)) := by have h := depL hdeps 3 (by kernel_rfl) 45 (by kernel_rfl); exact h
            refine ifw_none rfl ?_
            with_reducible refine shown_q (Value.pointer (some ⟨fb, fo + i * 35 + 34, none⟩)) ?qq_3h_4 (fun _ _ => ?qr_3h_4)
            case qr_3h_4 => exact (rfl : (Value.pointer (some ⟨fb, fo + i * 35 + 34, none⟩)) = (Value.pointer (some ⟨fb, fo + i * 35 + 34, none⟩)))
            with_reducible refine quietAt_field 96 (.tmp 45) 3 ?h0_3h_4 ⟨fb, fo + i * 35, none⟩ ⟨fb, fo + i * 35 + 34, none⟩ ?h1_3h_4 ?h2_3h_4
            case h0_3h_4 => rfl
            case h1_3h_4 => exact e45
            case h2_3h_4 => kernel_rfl
          · intro A u hu hpu hsz hout hdeps
            have e46 : A.eval (.tmp 46) = (.pointer (some ⟨fb, fo + i * 35 + 34, none⟩)) := by have h := depL hdeps 4 (by kernel_rfl) 46 (by kernel_rfl); exact h
            refine ifw_none rfl ?_
            with_reducible refine shown_q (Value.bool false) ?qq_3h_5 (fun _ _ => ?qr_3h_5)
            case qr_3h_5 => exact (rfl : (Value.bool false) = (Value.bool false))
            with_reducible refine quietAt_ld 4 (.tmp 46) (Value.pointer (some ⟨fb, fo + i * 35 + 34, none⟩)) (Value.bool false) ?h0_3h_5 ?h1_3h_5 ?h2_3h_5
            case h0_3h_5 => rfl
            case h1_3h_5 => exact e46
            case h2_3h_5 => exact ld4 fb (fo + i * 35 + 34) false u (HF34.out u (gtrans HSq.out hu))
          · intro A u hu hpu hsz hout hdeps
            have e42 : A.eval (.tmp 42) = (.bool true) := by have h := depL hdeps 0 (by kernel_rfl) 42 (by kernel_rfl); exact h
            have e47 : A.eval (.tmp 47) = (.bool false) := by have h := depL hdeps 5 (by kernel_rfl) 47 (by kernel_rfl); exact h
            refine ifw_none rfl ?_
            with_reducible refine shown_q (Value.bool false) ?qq_3h_6 (fun _ _ => ?qr_3h_6)
            case qr_3h_6 => exact (rfl : (Value.bool false) = (Value.bool false))
            with_reducible refine quietAt_bin .eql 4 (.tmp 42) (.tmp 47) 4 (Value.bool true) (Value.bool false) (Value.bool false) ?h0_3h_6 ?h1_3h_6 ?h2_3h_6 ?h3_3h_6
            case h0_3h_6 => rfl
            case h1_3h_6 => exact e42
            case h2_3h_6 => exact e47
            case h3_3h_6 => exact HE4.out _ _ u
          · intro A u hu hpu hsz hout hdeps
            have e48 : A.eval (.tmp 48) = (.bool false) := by have h := depL hdeps 6 (by kernel_rfl) 48 (by kernel_rfl); exact h
            refine ifw_none rfl ?_
            with_reducible refine shown_q (Value.bool false) ?qq_3h_7 (fun _ _ => ?qr_3h_7)
            case qr_3h_7 => exact (rfl : (Value.bool false) = (Value.bool false))
            with_reducible refine quietAt_mv (.tmp 48) (Value.bool false) ?h0_3h_7 ?h1_3h_7
            case h0_3h_7 => rfl
            case h1_3h_7 => exact e48
          · intro A u hu hpu hsz hout hdeps
            have e49 : A.eval (.tmp 49) = (.bool false) := by have h := depL hdeps 7 (by kernel_rfl) 49 (by kernel_rfl); exact h
            have e8 : A.eval (.tmp 8) = (.bool true) := (hout 8 (by kernel_rfl)).trans rfl
            refine ifw_want 7 false 49 rfl rfl e49 ?_
            with_reducible refine shown_q (Value.bool true) ?qq_3h_8 (fun _ _ => ?qr_3h_8)
            case qr_3h_8 => exact (rfl : (Value.bool true) = (Value.bool true))
            with_reducible refine quietAt_mv (.tmp 8) (Value.bool true) ?h0_3h_8 ?h1_3h_8
            case h0_3h_8 => rfl
            case h1_3h_8 => exact e8
          · intro A u hu hpu hsz hout hdeps
            have e49 : A.eval (.tmp 49) = (.bool false) := by have h := depL hdeps 7 (by kernel_rfl) 49 (by kernel_rfl); exact h
            have e50 : A.eval (.tmp 50) = (.bool true) := by have h := depL hdeps 8 (by kernel_rfl) 50 (by kernel_rfl); exact h
            refine ifw_want 7 false 49 rfl rfl e49 ?_
            with_reducible refine shown_q (Value.bool true) ?qq_3h_9 (fun _ _ => ?qr_3h_9)
            case qr_3h_9 => exact (rfl : (Value.bool true) = (Value.bool true))
            with_reducible refine quietAt_mv (.tmp 50) (Value.bool true) ?h0_3h_9 ?h1_3h_9
            case h0_3h_9 => rfl
            case h1_3h_9 => exact e50
          · intro A u hu hpu hsz hout hdeps
            have e51 : A.eval (.tmp 51) = (.bool true) := by have h := depL hdeps 9 (by kernel_rfl) 51 (by kernel_rfl); exact h
            have e7 : A.eval (.tmp 7) = (.pointer (some ⟨b7, 0, none⟩)) := (hout 7 (by kernel_rfl)).trans rfl
            refine ifw_want 9 true 51 rfl rfl e51 ?_
            with_reducible refine shown_q (Value.agg Z.cells.toArray) ?qq_3h_10 (fun _ _ => ?qr_3h_10)
            case qr_3h_10 => exact (rfl : (Value.agg Z.cells.toArray) = (Value.agg Z.cells.toArray))
            with_reducible refine quietAt_load 107 (.tmp 7) ?h0_3h_10 b7 0 Z.cells (.struct (Try.prog.fieldsOf 107)) ?h1_3h_10 ?h2_3h_10 ?h3_3h_10 ?h4_3h_10 ?h5_3h_10
            case h0_3h_10 => rfl
            case h1_3h_10 => exact e7
            case h2_3h_10 => exact (HB30.out.keep hu).whole
            case h3_3h_10 => exact Try.under107
            case h4_3h_10 => rfl
            case h5_3h_10 => exact (by rw [HZL.out]; exact Try.size107)
          · intro A u hu hpu hsz hout hdeps
            have e51 : A.eval (.tmp 51) = (.bool true) := by have h := depL hdeps 9 (by kernel_rfl) 51 (by kernel_rfl); exact h
            have e1 : A.eval (.tmp 1) = (.slice (some ⟨fb, fo, none⟩) m fc) := (hout 1 (by kernel_rfl)).trans rfl
            refine ifw_want 9 true 51 rfl rfl e51 ?_
            with_reducible refine shown_q (Value.slice (some ⟨fb, fo, none⟩) m fc) ?qq_3h_11 (fun _ _ => ?qr_3h_11)
            case qr_3h_11 => exact (rfl : (Value.slice (some ⟨fb, fo, none⟩) m fc) = (Value.slice (some ⟨fb, fo, none⟩) m fc))
            with_reducible refine quietAt_mv (.tmp 1) (Value.slice (some ⟨fb, fo, none⟩) m fc) ?h0_3h_11 ?h1_3h_11
            case h0_3h_11 => rfl
            case h1_3h_11 => exact e1
          · intro A u hu hpu hsz hout hdeps
            have e51 : A.eval (.tmp 51) = (.bool true) := by have h := depL hdeps 9 (by kernel_rfl) 51 (by kernel_rfl); exact h
            have e6 : A.eval (.tmp 6) = (.int .i64 (i : Nat)) := (hout 6 (by kernel_rfl)).trans rfl
            refine ifw_want 9 true 51 rfl rfl e51 ?_
            with_reducible refine shown_q (Value.int .i64 (i : Nat)) ?qq_3h_12 (fun _ _ => ?qr_3h_12)
            case qr_3h_12 => exact (rfl : (Value.int .i64 (i : Nat)) = (Value.int .i64 (i : Nat)))
            with_reducible refine quietAt_mv (.tmp 6) (Value.int .i64 (i : Nat)) ?h0_3h_12 ?h1_3h_12
            case h0_3h_12 => rfl
            case h1_3h_12 => exact e6
          · intro A u hu hpu hsz hout hdeps
            have e51 : A.eval (.tmp 51) = (.bool true) := by have h := depL hdeps 9 (by kernel_rfl) 51 (by kernel_rfl); exact h
            have e53 : A.eval (.tmp 53) = (.slice (some ⟨fb, fo, none⟩) m fc) := by have h := depL hdeps 11 (by kernel_rfl) 53 (by kernel_rfl); exact h
            have e54 : A.eval (.tmp 54) = (.int .i64 (i : Nat)) := by have h := depL hdeps 12 (by kernel_rfl) 54 (by kernel_rfl); exact h
            refine ifw_want 9 true 51 rfl rfl e51 ?_
            with_reducible refine shown_q (Value.pointer (some ⟨fb, fo + i * 35, none⟩)) ?qq_3h_13 (fun _ _ => ?qr_3h_13)
            case qr_3h_13 => exact (rfl : (Value.pointer (some ⟨fb, fo + i * 35, none⟩)) = (Value.pointer (some ⟨fb, fo + i * 35, none⟩)))
            with_reducible refine quietAt_idx 97 (.tmp 53) (.tmp 54) (Value.slice (some ⟨fb, fo, none⟩) m fc) (Value.int .i64 (i : Nat)) (Value.pointer (some ⟨fb, fo + i * 35, none⟩)) ?h0_3h_13 ?h1_3h_13 ?h2_3h_13 ?h3_3h_13
            case h0_3h_13 => rfl
            case h1_3h_13 => exact e53
            case h2_3h_13 => exact e54
            case h3_3h_13 => exact idx97 fb fo m fc i him u
          · intro A u hu hpu hsz hout hdeps
            have e51 : A.eval (.tmp 51) = (.bool true) := by have h := depL hdeps 9 (by kernel_rfl) 51 (by kernel_rfl); exact h
            have e55 : A.eval (.tmp 55) = (.pointer (some ⟨fb, fo + i * 35, none⟩)) := by have h := depL hdeps 13 (by kernel_rfl) 55 (by kernel_rfl); exact h
            refine ifw_want 9 true 51 rfl rfl e51 ?_
            with_reducible refine shown_q (Value.pointer (some ⟨fb, fo + i * 35, none⟩)) ?qq_3h_14 (fun _ _ => ?qr_3h_14)
            case qr_3h_14 => exact (rfl : (Value.pointer (some ⟨fb, fo + i * 35, none⟩)) = (Value.pointer (some ⟨fb, fo + i * 35, none⟩)))
            with_reducible refine quietAt_field 96 (.tmp 55) 0 ?h0_3h_14 ⟨fb, fo + i * 35, none⟩ ⟨fb, fo + i * 35, none⟩ ?h1_3h_14 ?h2_3h_14
            case h0_3h_14 => rfl
            case h1_3h_14 => exact e55
            case h2_3h_14 => kernel_rfl
          · intro A u hu hpu hsz hout hdeps
            have e51 : A.eval (.tmp 51) = (.bool true) := by have h := depL hdeps 9 (by kernel_rfl) 51 (by kernel_rfl); exact h
            have e56 : A.eval (.tmp 56) = (.pointer (some ⟨fb, fo + i * 35, none⟩)) := by have h := depL hdeps 14 (by kernel_rfl) 56 (by kernel_rfl); exact h
            refine ifw_want 9 true 51 rfl rfl e51 ?_
            with_reducible refine shown_q (Value.int .u64 (KD : Nat)) ?qq_3h_15 (fun _ _ => ?qr_3h_15)
            case qr_3h_15 => exact (rfl : (Value.int .u64 (KD : Nat)) = (Value.int .u64 (KD : Nat)))
            with_reducible refine quietAt_ld 67 (.tmp 56) (Value.pointer (some ⟨fb, fo + i * 35, none⟩)) (Value.int .u64 (KD : Nat)) ?h0_3h_15 ?h1_3h_15 ?h2_3h_15
            case h0_3h_15 => rfl
            case h1_3h_15 => exact e56
            case h2_3h_15 => exact ld67 fb (fo + i * 35) KD u (HF0.out u (gtrans HSq.out hu))
          · intro A u hu hpu hsz hout hdeps
            have e51 : A.eval (.tmp 51) = (.bool true) := by have h := depL hdeps 9 (by kernel_rfl) 51 (by kernel_rfl); exact h
            have e1 : A.eval (.tmp 1) = (.slice (some ⟨fb, fo, none⟩) m fc) := (hout 1 (by kernel_rfl)).trans rfl
            refine ifw_want 9 true 51 rfl rfl e51 ?_
            with_reducible refine shown_q (Value.slice (some ⟨fb, fo, none⟩) m fc) ?qq_3h_16 (fun _ _ => ?qr_3h_16)
            case qr_3h_16 => exact (rfl : (Value.slice (some ⟨fb, fo, none⟩) m fc) = (Value.slice (some ⟨fb, fo, none⟩) m fc))
            with_reducible refine quietAt_mv (.tmp 1) (Value.slice (some ⟨fb, fo, none⟩) m fc) ?h0_3h_16 ?h1_3h_16
            case h0_3h_16 => rfl
            case h1_3h_16 => exact e1
          · intro A u hu hpu hsz hout hdeps
            have e51 : A.eval (.tmp 51) = (.bool true) := by have h := depL hdeps 9 (by kernel_rfl) 51 (by kernel_rfl); exact h
            have e6 : A.eval (.tmp 6) = (.int .i64 (i : Nat)) := (hout 6 (by kernel_rfl)).trans rfl
            refine ifw_want 9 true 51 rfl rfl e51 ?_
            with_reducible refine shown_q (Value.int .i64 (i : Nat)) ?qq_3h_17 (fun _ _ => ?qr_3h_17)
            case qr_3h_17 => exact (rfl : (Value.int .i64 (i : Nat)) = (Value.int .i64 (i : Nat)))
            with_reducible refine quietAt_mv (.tmp 6) (Value.int .i64 (i : Nat)) ?h0_3h_17 ?h1_3h_17
            case h0_3h_17 => rfl
            case h1_3h_17 => exact e6
          · intro A u hu hpu hsz hout hdeps
            have e51 : A.eval (.tmp 51) = (.bool true) := by have h := depL hdeps 9 (by kernel_rfl) 51 (by kernel_rfl); exact h
            have e58 : A.eval (.tmp 58) = (.slice (some ⟨fb, fo, none⟩) m fc) := by have h := depL hdeps 16 (by kernel_rfl) 58 (by kernel_rfl); exact h
            have e59 : A.eval (.tmp 59) = (.int .i64 (i : Nat)) := by have h := depL hdeps 17 (by kernel_rfl) 59 (by kernel_rfl); exact h
            refine ifw_want 9 true 51 rfl rfl e51 ?_
            with_reducible refine shown_q (Value.pointer (some ⟨fb, fo + i * 35, none⟩)) ?qq_3h_18 (fun _ _ => ?qr_3h_18)
            case qr_3h_18 => exact (rfl : (Value.pointer (some ⟨fb, fo + i * 35, none⟩)) = (Value.pointer (some ⟨fb, fo + i * 35, none⟩)))
            with_reducible refine quietAt_idx 97 (.tmp 58) (.tmp 59) (Value.slice (some ⟨fb, fo, none⟩) m fc) (Value.int .i64 (i : Nat)) (Value.pointer (some ⟨fb, fo + i * 35, none⟩)) ?h0_3h_18 ?h1_3h_18 ?h2_3h_18 ?h3_3h_18
            case h0_3h_18 => rfl
            case h1_3h_18 => exact e58
            case h2_3h_18 => exact e59
            case h3_3h_18 => exact idx97 fb fo m fc i him u
          · intro A u hu hpu hsz hout hdeps
            have e51 : A.eval (.tmp 51) = (.bool true) := by have h := depL hdeps 9 (by kernel_rfl) 51 (by kernel_rfl); exact h
            have e60 : A.eval (.tmp 60) = (.pointer (some ⟨fb, fo + i * 35, none⟩)) := by have h := depL hdeps 18 (by kernel_rfl) 60 (by kernel_rfl); exact h
            refine ifw_want 9 true 51 rfl rfl e51 ?_
            with_reducible refine shown_q (Value.pointer (some ⟨fb, fo + i * 35 + 1, none⟩)) ?qq_3h_19 (fun _ _ => ?qr_3h_19)
            case qr_3h_19 => exact (rfl : (Value.pointer (some ⟨fb, fo + i * 35 + 1, none⟩)) = (Value.pointer (some ⟨fb, fo + i * 35 + 1, none⟩)))
            with_reducible refine quietAt_field 96 (.tmp 60) 1 ?h0_3h_19 ⟨fb, fo + i * 35, none⟩ ⟨fb, fo + i * 35 + 1, none⟩ ?h1_3h_19 ?h2_3h_19
            case h0_3h_19 => rfl
            case h1_3h_19 => exact e60
            case h2_3h_19 => kernel_rfl
          · intro A u hu hpu hsz hout hdeps
            have e51 : A.eval (.tmp 51) = (.bool true) := by have h := depL hdeps 9 (by kernel_rfl) 51 (by kernel_rfl); exact h
            have e61 : A.eval (.tmp 61) = (.pointer (some ⟨fb, fo + i * 35 + 1, none⟩)) := by have h := depL hdeps 19 (by kernel_rfl) 61 (by kernel_rfl); exact h
            refine ifw_want 9 true 51 rfl rfl e51 ?_
            with_reducible refine shown_q (Value.agg (Lib.byteCells Z.sec).toArray) ?qq_3h_20 (fun _ _ => ?qr_3h_20)
            case qr_3h_20 => exact (rfl : (Value.agg (Lib.byteCells Z.sec).toArray) = (Value.agg (Lib.byteCells Z.sec).toArray))
            with_reducible refine quietAt_load 70 (.tmp 61) ?h0_3h_20 fb (fo + i * 35 + 1) (Lib.byteCells Z.sec) (.array 32 5) ?h1_3h_20 ?h2_3h_20 ?h3_3h_20 ?h4_3h_20 ?h5_3h_20
            case h0_3h_20 => rfl
            case h1_3h_20 => exact e61
            case h2_3h_20 => exact (HFs.out u (gtrans HSq.out hu))
            case h3_3h_20 => exact Try.underlying70
            case h4_3h_20 => rfl
            case h5_3h_20 => exact (by rw [byteCells_length, HZs.out]; exact Try.size70)
          · intro A u hu hpu hsz hout hdeps
            have e51 : A.eval (.tmp 51) = (.bool true) := by have h := depL hdeps 9 (by kernel_rfl) 51 (by kernel_rfl); exact h
            have e1 : A.eval (.tmp 1) = (.slice (some ⟨fb, fo, none⟩) m fc) := (hout 1 (by kernel_rfl)).trans rfl
            refine ifw_want 9 true 51 rfl rfl e51 ?_
            with_reducible refine shown_q (Value.slice (some ⟨fb, fo, none⟩) m fc) ?qq_3h_21 (fun _ _ => ?qr_3h_21)
            case qr_3h_21 => exact (rfl : (Value.slice (some ⟨fb, fo, none⟩) m fc) = (Value.slice (some ⟨fb, fo, none⟩) m fc))
            with_reducible refine quietAt_mv (.tmp 1) (Value.slice (some ⟨fb, fo, none⟩) m fc) ?h0_3h_21 ?h1_3h_21
            case h0_3h_21 => rfl
            case h1_3h_21 => exact e1
          · intro A u hu hpu hsz hout hdeps
            have e51 : A.eval (.tmp 51) = (.bool true) := by have h := depL hdeps 9 (by kernel_rfl) 51 (by kernel_rfl); exact h
            have e6 : A.eval (.tmp 6) = (.int .i64 (i : Nat)) := (hout 6 (by kernel_rfl)).trans rfl
            refine ifw_want 9 true 51 rfl rfl e51 ?_
            with_reducible refine shown_q (Value.int .i64 (i : Nat)) ?qq_3h_22 (fun _ _ => ?qr_3h_22)
            case qr_3h_22 => exact (rfl : (Value.int .i64 (i : Nat)) = (Value.int .i64 (i : Nat)))
            with_reducible refine quietAt_mv (.tmp 6) (Value.int .i64 (i : Nat)) ?h0_3h_22 ?h1_3h_22
            case h0_3h_22 => rfl
            case h1_3h_22 => exact e6
          · intro A u hu hpu hsz hout hdeps
            have e51 : A.eval (.tmp 51) = (.bool true) := by have h := depL hdeps 9 (by kernel_rfl) 51 (by kernel_rfl); exact h
            have e63 : A.eval (.tmp 63) = (.slice (some ⟨fb, fo, none⟩) m fc) := by have h := depL hdeps 21 (by kernel_rfl) 63 (by kernel_rfl); exact h
            have e64 : A.eval (.tmp 64) = (.int .i64 (i : Nat)) := by have h := depL hdeps 22 (by kernel_rfl) 64 (by kernel_rfl); exact h
            refine ifw_want 9 true 51 rfl rfl e51 ?_
            with_reducible refine shown_q (Value.pointer (some ⟨fb, fo + i * 35, none⟩)) ?qq_3h_23 (fun _ _ => ?qr_3h_23)
            case qr_3h_23 => exact (rfl : (Value.pointer (some ⟨fb, fo + i * 35, none⟩)) = (Value.pointer (some ⟨fb, fo + i * 35, none⟩)))
            with_reducible refine quietAt_idx 97 (.tmp 63) (.tmp 64) (Value.slice (some ⟨fb, fo, none⟩) m fc) (Value.int .i64 (i : Nat)) (Value.pointer (some ⟨fb, fo + i * 35, none⟩)) ?h0_3h_23 ?h1_3h_23 ?h2_3h_23 ?h3_3h_23
            case h0_3h_23 => rfl
            case h1_3h_23 => exact e63
            case h2_3h_23 => exact e64
            case h3_3h_23 => exact idx97 fb fo m fc i him u
          · intro A u hu hpu hsz hout hdeps
            have e51 : A.eval (.tmp 51) = (.bool true) := by have h := depL hdeps 9 (by kernel_rfl) 51 (by kernel_rfl); exact h
            have e65 : A.eval (.tmp 65) = (.pointer (some ⟨fb, fo + i * 35, none⟩)) := by have h := depL hdeps 23 (by kernel_rfl) 65 (by kernel_rfl); exact h
            refine ifw_want 9 true 51 rfl rfl e51 ?_
            with_reducible refine shown_q (Value.pointer (some ⟨fb, fo + i * 35 + 33, none⟩)) ?qq_3h_24 (fun _ _ => ?qr_3h_24)
            case qr_3h_24 => exact (rfl : (Value.pointer (some ⟨fb, fo + i * 35 + 33, none⟩)) = (Value.pointer (some ⟨fb, fo + i * 35 + 33, none⟩)))
            with_reducible refine quietAt_field 96 (.tmp 65) 2 ?h0_3h_24 ⟨fb, fo + i * 35, none⟩ ⟨fb, fo + i * 35 + 33, none⟩ ?h1_3h_24 ?h2_3h_24
            case h0_3h_24 => rfl
            case h1_3h_24 => exact e65
            case h2_3h_24 => kernel_rfl
          · intro A u hu hpu hsz hout hdeps
            have e51 : A.eval (.tmp 51) = (.bool true) := by have h := depL hdeps 9 (by kernel_rfl) 51 (by kernel_rfl); exact h
            have e66 : A.eval (.tmp 66) = (.pointer (some ⟨fb, fo + i * 35 + 33, none⟩)) := by have h := depL hdeps 24 (by kernel_rfl) 66 (by kernel_rfl); exact h
            refine ifw_want 9 true 51 rfl rfl e51 ?_
            with_reducible refine shown_q (Value.int .i64 Z.til) ?qq_3h_25 (fun _ _ => ?qr_3h_25)
            case qr_3h_25 => exact (rfl : (Value.int .i64 Z.til) = (Value.int .i64 Z.til))
            with_reducible refine quietAt_ld 2 (.tmp 66) (Value.pointer (some ⟨fb, fo + i * 35 + 33, none⟩)) (Value.int .i64 Z.til) ?h0_3h_25 ?h1_3h_25 ?h2_3h_25
            case h0_3h_25 => rfl
            case h1_3h_25 => exact e66
            case h2_3h_25 => exact ld2' fb (fo + i * 35 + 33) Z.til u (HF33.out u (gtrans HSq.out hu))
          · intro A u hu hpu hsz hout hdeps
            have e51 : A.eval (.tmp 51) = (.bool true) := by have h := depL hdeps 9 (by kernel_rfl) 51 (by kernel_rfl); exact h
            have e57 : A.eval (.tmp 57) = (.int .u64 (KD : Nat)) := by have h := depL hdeps 15 (by kernel_rfl) 57 (by kernel_rfl); exact h
            have e62 : A.eval (.tmp 62) = (.agg (Lib.byteCells Z.sec).toArray) := by have h := depL hdeps 20 (by kernel_rfl) 62 (by kernel_rfl); exact h
            have e67 : A.eval (.tmp 67) = (.int .i64 Z.til) := by have h := depL hdeps 25 (by kernel_rfl) 67 (by kernel_rfl); exact h
            refine ifw_want 9 true 51 rfl rfl e51 ?_
            with_reducible refine shown_q (Value.agg Z.cells.toArray) ?qq_3h_26 (fun _ _ => ?qr_3h_26)
            case qr_3h_26 => exact (rfl : (Value.agg Z.cells.toArray) = (Value.agg Z.cells.toArray))
            with_reducible refine quietAt_build 107 #[(0, .tmp 57), (1, .tmp 62), (2, .tmp 67)] ?h0_3h_26 [(0, (Value.int .u64 (KD : Nat))), (1, (Value.agg (Lib.byteCells Z.sec).toArray)), (2, (Value.int .i64 Z.til))] ?h1_3h_26 Z.cells ?h2_3h_26
            case h0_3h_26 => rfl
            case h1_3h_26 => simp only [List.map_toArray, List.map_cons, List.map_nil, e57, e62, e67]
            case h2_3h_26 => exact HBk.out
          · intro A u hu hpu hsz hout hdeps
            have e51 : A.eval (.tmp 51) = (.bool true) := by have h := depL hdeps 9 (by kernel_rfl) 51 (by kernel_rfl); exact h
            have e52 : A.eval (.tmp 52) = (.agg Z.cells.toArray) := by have h := depL hdeps 10 (by kernel_rfl) 52 (by kernel_rfl); exact h
            have e68 : A.eval (.tmp 68) = (.agg Z.cells.toArray) := by have h := depL hdeps 26 (by kernel_rfl) 68 (by kernel_rfl); exact h
            refine ifw_want 9 true 51 rfl rfl e51 ?_
            with_reducible refine shown_q (Value.bool false) ?qq_3h_27 (fun _ _ => ?qr_3h_27)
            case qr_3h_27 => exact (rfl : (Value.bool false) = (Value.bool false))
            with_reducible refine quietAt_bin .neq 107 (.tmp 52) (.tmp 68) 107 (Value.agg Z.cells.toArray) (Value.agg Z.cells.toArray) (Value.bool false) ?h0_3h_27 ?h1_3h_27 ?h2_3h_27 ?h3_3h_27
            case h0_3h_27 => rfl
            case h1_3h_27 => exact e52
            case h2_3h_27 => exact e68
            case h3_3h_27 => exact HNz.out _ _ u
          · intro A u hu hpu hsz hout hdeps
            have e49 : A.eval (.tmp 49) = (.bool false) := by have h := depL hdeps 7 (by kernel_rfl) 49 (by kernel_rfl); exact h
            have e51 : A.eval (.tmp 51) = (.bool true) := by have h := depL hdeps 9 (by kernel_rfl) 51 (by kernel_rfl); exact h
            have e69 : A.eval (.tmp 69) = (.bool false) := by have h := depL hdeps 27 (by kernel_rfl) 69 (by kernel_rfl); exact h
            refine ifw_want 7 false 49 rfl rfl e49 ?_
            with_reducible refine shown_q (Value.bool false) ?qq_3h_28 (fun _ _ => ?qr_3h_28)
            case qr_3h_28 => exact (rfl : (Value.bool false) = (Value.bool false))
            with_reducible refine quietAt_pick (.tmp 51) (.tmp 69) (.const (.bool false)) true (Value.bool false) ?h0_3h_28 ?h1_3h_28 ?h2_3h_28
            case h0_3h_28 => rfl
            case h1_3h_28 => exact e51
            case h2_3h_28 => rw [if_pos rfl]; exact e69
          · intro A u hu hpu hsz hout hdeps
            have e49 : A.eval (.tmp 49) = (.bool false) := by have h := depL hdeps 7 (by kernel_rfl) 49 (by kernel_rfl); exact h
            have e70 : A.eval (.tmp 70) = (.bool false) := by have h := depL hdeps 28 (by kernel_rfl) 70 (by kernel_rfl); exact h
            refine ifw_none rfl ?_
            with_reducible refine shown_q (Value.bool false) ?qq_3h_29 (fun _ _ => ?qr_3h_29)
            case qr_3h_29 => exact (rfl : (Value.bool false) = (Value.bool false))
            with_reducible refine quietAt_pick (.tmp 49) (.const (.bool true)) (.tmp 70) false (Value.bool false) ?h0_3h_29 ?h1_3h_29 ?h2_3h_29
            case h0_3h_29 => rfl
            case h1_3h_29 => exact e49
            case h2_3h_29 => rw [if_neg (by decide)]; exact e70
          · intro A u8 listed hh hall
            have hA := hh.frame
            have HU := hid hh.grown
            obtain ⟨x42, hx42⟩ : ∃ x, A.eval (.tmp 42) = x := ⟨_, rfl⟩
            have f42 : (fun v _ => v = (Value.bool true)) x42 u8 := by rw [← hx42]; exact hh.got 0 _ 42 rfl rfl (hall 0 (by decide))
            obtain ⟨x43, hx43⟩ : ∃ x, A.eval (.tmp 43) = x := ⟨_, rfl⟩
            have f43 : (fun v _ => v = (Value.slice (some ⟨fb, fo, none⟩) m fc)) x43 u8 := by rw [← hx43]; exact hh.got 1 _ 43 rfl rfl (hall 1 (by decide))
            obtain ⟨x44, hx44⟩ : ∃ x, A.eval (.tmp 44) = x := ⟨_, rfl⟩
            have f44 : (fun v _ => v = (Value.int .i64 (i : Nat))) x44 u8 := by rw [← hx44]; exact hh.got 2 _ 44 rfl rfl (hall 2 (by decide))
            obtain ⟨x45, hx45⟩ : ∃ x, A.eval (.tmp 45) = x := ⟨_, rfl⟩
            have f45 : (fun v _ => v = (Value.pointer (some ⟨fb, fo + i * 35, none⟩))) x45 u8 := by rw [← hx45]; exact hh.got 3 _ 45 rfl rfl (hall 3 (by decide))
            obtain ⟨x46, hx46⟩ : ∃ x, A.eval (.tmp 46) = x := ⟨_, rfl⟩
            have f46 : (fun v _ => v = (Value.pointer (some ⟨fb, fo + i * 35 + 34, none⟩))) x46 u8 := by rw [← hx46]; exact hh.got 4 _ 46 rfl rfl (hall 4 (by decide))
            obtain ⟨x47, hx47⟩ : ∃ x, A.eval (.tmp 47) = x := ⟨_, rfl⟩
            have f47 : (fun v _ => v = (Value.bool false)) x47 u8 := by rw [← hx47]; exact hh.got 5 _ 47 rfl rfl (hall 5 (by decide))
            obtain ⟨x48, hx48⟩ : ∃ x, A.eval (.tmp 48) = x := ⟨_, rfl⟩
            have f48 : (fun v _ => v = (Value.bool false)) x48 u8 := by rw [← hx48]; exact hh.got 6 _ 48 rfl rfl (hall 6 (by decide))
            obtain ⟨x49, hx49⟩ : ∃ x, A.eval (.tmp 49) = x := ⟨_, rfl⟩
            have f49 : (fun v _ => v = (Value.bool false)) x49 u8 := by rw [← hx49]; exact hh.got 7 _ 49 rfl rfl (hall 7 (by decide))
            obtain ⟨x50, hx50⟩ : ∃ x, A.eval (.tmp 50) = x := ⟨_, rfl⟩
            have f50 : (fun v _ => v = (Value.bool true)) x50 u8 := by rw [← hx50]; exact hh.got 8 _ 50 rfl rfl (hall 8 (by decide))
            obtain ⟨x51, hx51⟩ : ∃ x, A.eval (.tmp 51) = x := ⟨_, rfl⟩
            have f51 : (fun v _ => v = (Value.bool true)) x51 u8 := by rw [← hx51]; exact hh.got 9 _ 51 rfl rfl (hall 9 (by decide))
            obtain ⟨x52, hx52⟩ : ∃ x, A.eval (.tmp 52) = x := ⟨_, rfl⟩
            have f52 : (fun v _ => v = (Value.agg Z.cells.toArray)) x52 u8 := by rw [← hx52]; exact hh.got 10 _ 52 rfl rfl (hall 10 (by decide))
            obtain ⟨x53, hx53⟩ : ∃ x, A.eval (.tmp 53) = x := ⟨_, rfl⟩
            have f53 : (fun v _ => v = (Value.slice (some ⟨fb, fo, none⟩) m fc)) x53 u8 := by rw [← hx53]; exact hh.got 11 _ 53 rfl rfl (hall 11 (by decide))
            obtain ⟨x54, hx54⟩ : ∃ x, A.eval (.tmp 54) = x := ⟨_, rfl⟩
            have f54 : (fun v _ => v = (Value.int .i64 (i : Nat))) x54 u8 := by rw [← hx54]; exact hh.got 12 _ 54 rfl rfl (hall 12 (by decide))
            obtain ⟨x55, hx55⟩ : ∃ x, A.eval (.tmp 55) = x := ⟨_, rfl⟩
            have f55 : (fun v _ => v = (Value.pointer (some ⟨fb, fo + i * 35, none⟩))) x55 u8 := by rw [← hx55]; exact hh.got 13 _ 55 rfl rfl (hall 13 (by decide))
            obtain ⟨x56, hx56⟩ : ∃ x, A.eval (.tmp 56) = x := ⟨_, rfl⟩
            have f56 : (fun v _ => v = (Value.pointer (some ⟨fb, fo + i * 35, none⟩))) x56 u8 := by rw [← hx56]; exact hh.got 14 _ 56 rfl rfl (hall 14 (by decide))
            obtain ⟨x57, hx57⟩ : ∃ x, A.eval (.tmp 57) = x := ⟨_, rfl⟩
            have f57 : (fun v _ => v = (Value.int .u64 (KD : Nat))) x57 u8 := by rw [← hx57]; exact hh.got 15 _ 57 rfl rfl (hall 15 (by decide))
            obtain ⟨x58, hx58⟩ : ∃ x, A.eval (.tmp 58) = x := ⟨_, rfl⟩
            have f58 : (fun v _ => v = (Value.slice (some ⟨fb, fo, none⟩) m fc)) x58 u8 := by rw [← hx58]; exact hh.got 16 _ 58 rfl rfl (hall 16 (by decide))
            obtain ⟨x59, hx59⟩ : ∃ x, A.eval (.tmp 59) = x := ⟨_, rfl⟩
            have f59 : (fun v _ => v = (Value.int .i64 (i : Nat))) x59 u8 := by rw [← hx59]; exact hh.got 17 _ 59 rfl rfl (hall 17 (by decide))
            obtain ⟨x60, hx60⟩ : ∃ x, A.eval (.tmp 60) = x := ⟨_, rfl⟩
            have f60 : (fun v _ => v = (Value.pointer (some ⟨fb, fo + i * 35, none⟩))) x60 u8 := by rw [← hx60]; exact hh.got 18 _ 60 rfl rfl (hall 18 (by decide))
            obtain ⟨x61, hx61⟩ : ∃ x, A.eval (.tmp 61) = x := ⟨_, rfl⟩
            have f61 : (fun v _ => v = (Value.pointer (some ⟨fb, fo + i * 35 + 1, none⟩))) x61 u8 := by rw [← hx61]; exact hh.got 19 _ 61 rfl rfl (hall 19 (by decide))
            obtain ⟨x62, hx62⟩ : ∃ x, A.eval (.tmp 62) = x := ⟨_, rfl⟩
            have f62 : (fun v _ => v = (Value.agg (Lib.byteCells Z.sec).toArray)) x62 u8 := by rw [← hx62]; exact hh.got 20 _ 62 rfl rfl (hall 20 (by decide))
            obtain ⟨x63, hx63⟩ : ∃ x, A.eval (.tmp 63) = x := ⟨_, rfl⟩
            have f63 : (fun v _ => v = (Value.slice (some ⟨fb, fo, none⟩) m fc)) x63 u8 := by rw [← hx63]; exact hh.got 21 _ 63 rfl rfl (hall 21 (by decide))
            obtain ⟨x64, hx64⟩ : ∃ x, A.eval (.tmp 64) = x := ⟨_, rfl⟩
            have f64 : (fun v _ => v = (Value.int .i64 (i : Nat))) x64 u8 := by rw [← hx64]; exact hh.got 22 _ 64 rfl rfl (hall 22 (by decide))
            obtain ⟨x65, hx65⟩ : ∃ x, A.eval (.tmp 65) = x := ⟨_, rfl⟩
            have f65 : (fun v _ => v = (Value.pointer (some ⟨fb, fo + i * 35, none⟩))) x65 u8 := by rw [← hx65]; exact hh.got 23 _ 65 rfl rfl (hall 23 (by decide))
            obtain ⟨x66, hx66⟩ : ∃ x, A.eval (.tmp 66) = x := ⟨_, rfl⟩
            have f66 : (fun v _ => v = (Value.pointer (some ⟨fb, fo + i * 35 + 33, none⟩))) x66 u8 := by rw [← hx66]; exact hh.got 24 _ 66 rfl rfl (hall 24 (by decide))
            obtain ⟨x67, hx67⟩ : ∃ x, A.eval (.tmp 67) = x := ⟨_, rfl⟩
            have f67 : (fun v _ => v = (Value.int .i64 Z.til)) x67 u8 := by rw [← hx67]; exact hh.got 25 _ 67 rfl rfl (hall 25 (by decide))
            obtain ⟨x68, hx68⟩ : ∃ x, A.eval (.tmp 68) = x := ⟨_, rfl⟩
            have f68 : (fun v _ => v = (Value.agg Z.cells.toArray)) x68 u8 := by rw [← hx68]; exact hh.got 26 _ 68 rfl rfl (hall 26 (by decide))
            obtain ⟨x69, hx69⟩ : ∃ x, A.eval (.tmp 69) = x := ⟨_, rfl⟩
            have f69 : (fun v _ => v = (Value.bool false)) x69 u8 := by rw [← hx69]; exact hh.got 27 _ 69 rfl rfl (hall 27 (by decide))
            obtain ⟨x70, hx70⟩ : ∃ x, A.eval (.tmp 70) = x := ⟨_, rfl⟩
            have f70 : (fun v _ => v = (Value.bool false)) x70 u8 := by rw [← hx70]; exact hh.got 28 _ 70 rfl rfl (hall 28 (by decide))
            obtain ⟨x71, hx71⟩ : ∃ x, A.eval (.tmp 71) = x := ⟨_, rfl⟩
            have f71 : (fun v _ => v = (Value.bool false)) x71 u8 := by rw [← hx71]; exact hh.got 29 _ 71 rfl rfl (hall 29 (by decide))
            dsimp only [wrote, List.foldl] at hA
            rw [hx42, hx43, hx44, hx45, hx46, hx47, hx48, hx49, hx50, hx51, hx52, hx53, hx54, hx55, hx56, hx57, hx58, hx59, hx60, hx61, hx62, hx63, hx64, hx65, hx66, hx67, hx68, hx69, hx70, hx71] at hA
            clear hh hall hx42 hx43 hx44 hx45 hx46 hx47 hx48 hx49 hx50 hx51 hx52 hx53 hx54 hx55 hx56 hx57 hx58 hx59 hx60 hx61 hx62 hx63 hx64 hx65 hx66 hx67 hx68 hx69 hx70 hx71
            replace f42 := (f42 : x42 = (.bool true))
            subst f42
            replace f43 := (f43 : x43 = (.slice (some ⟨fb, fo, none⟩) m fc))
            subst f43
            replace f44 := (f44 : x44 = (.int .i64 (i : Nat)))
            subst f44
            replace f45 := (f45 : x45 = (.pointer (some ⟨fb, fo + i * 35, none⟩)))
            subst f45
            replace f46 := (f46 : x46 = (.pointer (some ⟨fb, fo + i * 35 + 34, none⟩)))
            subst f46
            replace f47 := (f47 : x47 = (.bool false))
            subst f47
            replace f48 := (f48 : x48 = (.bool false))
            subst f48
            replace f49 := (f49 : x49 = (.bool false))
            subst f49
            replace f50 := (f50 : x50 = (.bool true))
            subst f50
            replace f51 := (f51 : x51 = (.bool true))
            subst f51
            replace f52 := (f52 : x52 = (.agg Z.cells.toArray))
            subst f52
            replace f53 := (f53 : x53 = (.slice (some ⟨fb, fo, none⟩) m fc))
            subst f53
            replace f54 := (f54 : x54 = (.int .i64 (i : Nat)))
            subst f54
            replace f55 := (f55 : x55 = (.pointer (some ⟨fb, fo + i * 35, none⟩)))
            subst f55
            replace f56 := (f56 : x56 = (.pointer (some ⟨fb, fo + i * 35, none⟩)))
            subst f56
            replace f57 := (f57 : x57 = (.int .u64 (KD : Nat)))
            subst f57
            replace f58 := (f58 : x58 = (.slice (some ⟨fb, fo, none⟩) m fc))
            subst f58
            replace f59 := (f59 : x59 = (.int .i64 (i : Nat)))
            subst f59
            replace f60 := (f60 : x60 = (.pointer (some ⟨fb, fo + i * 35, none⟩)))
            subst f60
            replace f61 := (f61 : x61 = (.pointer (some ⟨fb, fo + i * 35 + 1, none⟩)))
            subst f61
            replace f62 := (f62 : x62 = (.agg (Lib.byteCells Z.sec).toArray))
            subst f62
            replace f63 := (f63 : x63 = (.slice (some ⟨fb, fo, none⟩) m fc))
            subst f63
            replace f64 := (f64 : x64 = (.int .i64 (i : Nat)))
            subst f64
            replace f65 := (f65 : x65 = (.pointer (some ⟨fb, fo + i * 35, none⟩)))
            subst f65
            replace f66 := (f66 : x66 = (.pointer (some ⟨fb, fo + i * 35 + 33, none⟩)))
            subst f66
            replace f67 := (f67 : x67 = (.int .i64 Z.til))
            subst f67
            replace f68 := (f68 : x68 = (.agg Z.cells.toArray))
            subst f68
            replace f69 := (f69 : x69 = (.bool false))
            subst f69
            replace f70 := (f70 : x70 = (.bool false))
            subst f70
            replace f71 := (f71 : x71 = (.bool false))
            subst f71
            subst hA
            show wpList _ _ _ [] _ _
            unfold wpList
            simp only [Act.put, List.setIfInBounds_toArray, List.set_cons_succ, List.set_cons_zero]
            have HGx := hid (gtrans HG.out (gtrans HSq.out HU.out))
            go_wp2_with fail
            go_roundw
            case rel => exact ⟨i + 1, by go_num, by rw [HSn.out]; go_num, by omega, HGx⟩
            case measure => simp [intOf]; omega
        · intro A u7 listed hh hall hzz hnn
          have hA := hh.frame
          have HU := hid hh.grown
          obtain ⟨x33, hx33⟩ : ∃ x, A.eval (.tmp 33) = x := ⟨_, rfl⟩
          have f33 : (fun v _ => v = (Value.agg [Value.slice a n c, Value.int .u64 nx].toArray)) x33 u7 := by rw [← hx33]; exact hh.got 0 _ 33 rfl rfl (hall 0 (by decide) (by decide))
          obtain ⟨x34, hx34⟩ : ∃ x, A.eval (.tmp 34) = x := ⟨_, rfl⟩
          have f34 : (fun v _ => v = (Value.slice (some ⟨fb, fo, none⟩) m fc)) x34 u7 := by rw [← hx34]; exact hh.got 1 _ 34 rfl rfl (hall 1 (by decide) (by decide))
          obtain ⟨x35, hx35⟩ : ∃ x, A.eval (.tmp 35) = x := ⟨_, rfl⟩
          have f35 : (fun v _ => v = (Value.int .i64 (i : Nat))) x35 u7 := by rw [← hx35]; exact hh.got 2 _ 35 rfl rfl (hall 2 (by decide) (by decide))
          obtain ⟨x36, hx36⟩ : ∃ x, A.eval (.tmp 36) = x := ⟨_, rfl⟩
          have f36 : (fun v _ => v = (Value.pointer (some ⟨fb, fo + i * 35, none⟩))) x36 u7 := by rw [← hx36]; exact hh.got 3 _ 36 rfl rfl (hall 3 (by decide) (by decide))
          obtain ⟨x37, hx37⟩ : ∃ x, A.eval (.tmp 37) = x := ⟨_, rfl⟩
          have f37 : (fun v _ => v = (Value.pointer (some ⟨fb, fo + i * 35, none⟩))) x37 u7 := by rw [← hx37]; exact hh.got 4 _ 37 rfl rfl (hall 4 (by decide) (by decide))
          obtain ⟨x38, hx38⟩ : ∃ x, A.eval (.tmp 38) = x := ⟨_, rfl⟩
          have f38 : (fun v _ => v = (Value.int .u64 (KD : Nat))) x38 u7 := by rw [← hx38]; exact hh.got 5 _ 38 rfl rfl (hall 5 (by decide) (by decide))
          obtain ⟨x39, hx39⟩ : ∃ x, A.eval (.tmp 39) = x := ⟨_, rfl⟩
          have f39 : (fun v _ => v = (Value.tuple #[Value.agg Z.cells.toArray, Value.bool true])) x39 u7 := by rw [← hx39]; exact hh.got 6 _ 39 rfl rfl (hall 6 (by decide) (by decide))
          obtain ⟨x32, hx32⟩ : ∃ x, A.eval (.tmp 32) = x := ⟨_, rfl⟩
          have f32 : (fun v _ => v = (Value.tuple #[Value.agg Z.cells.toArray, Value.bool true])) x32 u7 := by rw [← hx32]; exact hh.got 7 _ 32 rfl rfl (hall 7 (by decide) (by decide))
          obtain ⟨x40, hx40⟩ : ∃ x, A.eval (.tmp 40) = x := ⟨_, rfl⟩
          have f40 : (fun v _ => v = (Value.agg Z.cells.toArray)) x40 u7 := by rw [← hx40]; exact hh.got 8 _ 40 rfl rfl (hall 8 (by decide) (by decide))
          obtain ⟨x41, hx41⟩ : ∃ x, A.eval (.tmp 41) = x := ⟨_, rfl⟩
          obtain ⟨x7, hx7⟩ : ∃ x, A.eval (.tmp 7) = x := ⟨_, rfl⟩
          have f7 : (fun v u => ∃ bb, v = Value.pointer (some ⟨bb, 0, none⟩) ∧ Blk u bb zky.cells 107 ∧ HH ≤ bb) x7 u7 := by rw [← hx7]; exact hh.got 10 _ 7 rfl rfl (hall 10 (by decide) (by decide))
          obtain ⟨x8, hx8⟩ : ∃ x, A.eval (.tmp 8) = x := ⟨_, rfl⟩
          dsimp only [wrote, List.foldl] at hA
          rw [hx33, hx34, hx35, hx36, hx37, hx38, hx39, hx32, hx40, hx41, hx7, hx8] at hA
          clear hzz hnn hh hall hx33 hx34 hx35 hx36 hx37 hx38 hx39 hx32 hx40 hx41 hx7 hx8
          replace f33 := (f33 : x33 = (.agg [.slice a n c, .int .u64 nx].toArray))
          subst f33
          replace f34 := (f34 : x34 = (.slice (some ⟨fb, fo, none⟩) m fc))
          subst f34
          replace f35 := (f35 : x35 = (.int .i64 (i : Nat)))
          subst f35
          replace f36 := (f36 : x36 = (.pointer (some ⟨fb, fo + i * 35, none⟩)))
          subst f36
          replace f37 := (f37 : x37 = (.pointer (some ⟨fb, fo + i * 35, none⟩)))
          subst f37
          replace f38 := (f38 : x38 = (.int .u64 (KD : Nat)))
          subst f38
          replace f39 := (f39 : x39 = (.tuple #[.agg Z.cells.toArray, .bool true]))
          subst f39
          replace f32 := (f32 : x32 = (.tuple #[.agg Z.cells.toArray, .bool true]))
          subst f32
          replace f40 := (f40 : x40 = (.agg Z.cells.toArray))
          subst f40
          obtain ⟨b7, e7, hb7b, hb7l⟩ := f7
          subst e7
          subst hA
          show wpList _ _ _ [_, _, _] _ _
          simp only [Act.put, List.setIfInBounds_toArray, List.set_cons_succ, List.set_cons_zero]
          go_wp2_with ((with_reducible refine wpList_store_all (by with_unfolding_all rfl) 107 _ _ (by with_unfolding_all rfl) _ zky.cells Z.cells 107 (by with_unfolding_all rfl) (by with_unfolding_all rfl) hb7b (by rw [HRL.out]; with_unfolding_all rfl) (by rw [HRL.out]; exact Try.size107) (Ky.one _) ?_); intro w30 B30 g30 s30; have HB30 := hid B30; have HG30 := hid g30; have HS30 := hid s30; clear B30 g30 s30)
          have HSq := hid ((HU.out).andThen HG30.out (fun j hj => .inl (by injection hj with hj; have := HHs.out; omega)))
          clear HU hb7b hb7l HG30 HS30
          refine wp_region_list (by kernel_rfl) [fun v _ => v = (Value.bool true), fun v _ => v = (Value.slice (some ⟨fb, fo, none⟩) m fc), fun v _ => v = (Value.int .i64 (i : Nat)), fun v _ => v = (Value.pointer (some ⟨fb, fo + i * 35, none⟩)), fun v _ => v = (Value.pointer (some ⟨fb, fo + i * 35 + 34, none⟩)), fun v _ => v = (Value.bool false), fun v _ => v = (Value.bool false), fun v _ => v = (Value.bool false), fun v _ => v = (Value.bool true), fun v _ => v = (Value.bool true), fun v _ => v = (Value.agg Z.cells.toArray), fun v _ => v = (Value.slice (some ⟨fb, fo, none⟩) m fc), fun v _ => v = (Value.int .i64 (i : Nat)), fun v _ => v = (Value.pointer (some ⟨fb, fo + i * 35, none⟩)), fun v _ => v = (Value.pointer (some ⟨fb, fo + i * 35, none⟩)), fun v _ => v = (Value.int .u64 (KD : Nat)), fun v _ => v = (Value.slice (some ⟨fb, fo, none⟩) m fc), fun v _ => v = (Value.int .i64 (i : Nat)), fun v _ => v = (Value.pointer (some ⟨fb, fo + i * 35, none⟩)), fun v _ => v = (Value.pointer (some ⟨fb, fo + i * 35 + 1, none⟩)), fun v _ => v = (Value.agg (Lib.byteCells Z.sec).toArray), fun v _ => v = (Value.slice (some ⟨fb, fo, none⟩) m fc), fun v _ => v = (Value.int .i64 (i : Nat)), fun v _ => v = (Value.pointer (some ⟨fb, fo + i * 35, none⟩)), fun v _ => v = (Value.pointer (some ⟨fb, fo + i * 35 + 33, none⟩)), fun v _ => v = (Value.int .i64 Z.til), fun v _ => v = (Value.agg Z.cells.toArray), fun v _ => v = (Value.bool false), fun v _ => v = (Value.bool false), fun v _ => v = (Value.bool false)] (none) (fun _ => none) 30 (by kernel_rfl) (by kernel_rfl) (by kernel_rfl) (by kernel_rfl) (by decide) noRow_one (fun _ => .inl rfl) ⟨fun i v u u' hki h hg => h, fun i v u u' hki h hg => h, fun i v u u' hki h hg => h, fun i v u u' hki h hg => h, fun i v u u' hki h hg => h, fun i v u u' hki h hg => h, fun i v u u' hki h hg => h, fun i v u u' hki h hg => h, fun i v u u' hki h hg => h, fun i v u u' hki h hg => h, fun i v u u' hki h hg => h, fun i v u u' hki h hg => h, fun i v u u' hki h hg => h, fun i v u u' hki h hg => h, fun i v u u' hki h hg => h, fun i v u u' hki h hg => h, fun i v u u' hki h hg => h, fun i v u u' hki h hg => h, fun i v u u' hki h hg => h, fun i v u u' hki h hg => h, fun i v u u' hki h hg => h, fun i v u u' hki h hg => h, fun i v u u' hki h hg => h, fun i v u u' hki h hg => h, fun i v u u' hki h hg => h, fun i v u u' hki h hg => h, fun i v u u' hki h hg => h, fun i v u u' hki h hg => h, fun i v u u' hki h hg => h, fun i v u u' hki h hg => h, trivial⟩ ⟨?_, ?_, ?_, ?_, ?_, ?_, ?_, ?_, ?_, ?_, ?_, ?_, ?_, ?_, ?_, ?_, ?_, ?_, ?_, ?_, ?_, ?_, ?_, ?_, ?_, ?_, ?_, ?_, ?_, ?_, trivial⟩ ?_
          · intro A u hu hpu hsz hout hdeps
            have e8 : A.eval (.tmp 8) = (.bool true) := (hout 8 (by kernel_rfl)).trans rfl
            refine ifw_none rfl ?_
            with_reducible refine shown_q (Value.bool true) ?qq_3Lh_0 (fun _ _ => ?qr_3Lh_0)
            case qr_3Lh_0 => exact (rfl : (Value.bool true) = (Value.bool true))
            with_reducible refine quietAt_mv (.tmp 8) (Value.bool true) ?h0_3Lh_0 ?h1_3Lh_0
            case h0_3Lh_0 => rfl
            case h1_3Lh_0 => exact e8
          · intro A u hu hpu hsz hout hdeps
            have e1 : A.eval (.tmp 1) = (.slice (some ⟨fb, fo, none⟩) m fc) := (hout 1 (by kernel_rfl)).trans rfl
            refine ifw_none rfl ?_
            with_reducible refine shown_q (Value.slice (some ⟨fb, fo, none⟩) m fc) ?qq_3Lh_1 (fun _ _ => ?qr_3Lh_1)
            case qr_3Lh_1 => exact (rfl : (Value.slice (some ⟨fb, fo, none⟩) m fc) = (Value.slice (some ⟨fb, fo, none⟩) m fc))
            with_reducible refine quietAt_mv (.tmp 1) (Value.slice (some ⟨fb, fo, none⟩) m fc) ?h0_3Lh_1 ?h1_3Lh_1
            case h0_3Lh_1 => rfl
            case h1_3Lh_1 => exact e1
          · intro A u hu hpu hsz hout hdeps
            have e6 : A.eval (.tmp 6) = (.int .i64 (i : Nat)) := (hout 6 (by kernel_rfl)).trans rfl
            refine ifw_none rfl ?_
            with_reducible refine shown_q (Value.int .i64 (i : Nat)) ?qq_3Lh_2 (fun _ _ => ?qr_3Lh_2)
            case qr_3Lh_2 => exact (rfl : (Value.int .i64 (i : Nat)) = (Value.int .i64 (i : Nat)))
            with_reducible refine quietAt_mv (.tmp 6) (Value.int .i64 (i : Nat)) ?h0_3Lh_2 ?h1_3Lh_2
            case h0_3Lh_2 => rfl
            case h1_3Lh_2 => exact e6
          · intro A u hu hpu hsz hout hdeps
            have e43 : A.eval (.tmp 43) = (.slice (some ⟨fb, fo, none⟩) m fc) := by have h := depL hdeps 1 (by kernel_rfl) 43 (by kernel_rfl); exact h
            have e44 : A.eval (.tmp 44) = (.int .i64 (i : Nat)) := by have h := depL hdeps 2 (by kernel_rfl) 44 (by kernel_rfl); exact h
            refine ifw_none rfl ?_
            with_reducible refine shown_q (Value.pointer (some ⟨fb, fo + i * 35, none⟩)) ?qq_3Lh_3 (fun _ _ => ?qr_3Lh_3)
            case qr_3Lh_3 => exact (rfl : (Value.pointer (some ⟨fb, fo + i * 35, none⟩)) = (Value.pointer (some ⟨fb, fo + i * 35, none⟩)))
            with_reducible refine quietAt_idx 97 (.tmp 43) (.tmp 44) (Value.slice (some ⟨fb, fo, none⟩) m fc) (Value.int .i64 (i : Nat)) (Value.pointer (some ⟨fb, fo + i * 35, none⟩)) ?h0_3Lh_3 ?h1_3Lh_3 ?h2_3Lh_3 ?h3_3Lh_3
            case h0_3Lh_3 => rfl
            case h1_3Lh_3 => exact e43
            case h2_3Lh_3 => exact e44
            case h3_3Lh_3 => exact idx97 fb fo m fc i him u
          · intro A u hu hpu hsz hout hdeps
            have e45 : A.eval (.tmp 45) = (.pointer (some ⟨fb, fo + i * 35, none⟩)) := by have h := depL hdeps 3 (by kernel_rfl) 45 (by kernel_rfl); exact h
            refine ifw_none rfl ?_
            with_reducible refine shown_q (Value.pointer (some ⟨fb, fo + i * 35 + 34, none⟩)) ?qq_3Lh_4 (fun _ _ => ?qr_3Lh_4)
            case qr_3Lh_4 => exact (rfl : (Value.pointer (some ⟨fb, fo + i * 35 + 34, none⟩)) = (Value.pointer (some ⟨fb, fo + i * 35 + 34, none⟩)))
            with_reducible refine quietAt_field 96 (.tmp 45) 3 ?h0_3Lh_4 ⟨fb, fo + i * 35, none⟩ ⟨fb, fo + i * 35 + 34, none⟩ ?h1_3Lh_4 ?h2_3Lh_4
            case h0_3Lh_4 => rfl
            case h1_3Lh_4 => exact e45
            case h2_3Lh_4 => kernel_rfl
          · intro A u hu hpu hsz hout hdeps
            have e46 : A.eval (.tmp 46) = (.pointer (some ⟨fb, fo + i * 35 + 34, none⟩)) := by have h := depL hdeps 4 (by kernel_rfl) 46 (by kernel_rfl); exact h
            refine ifw_none rfl ?_
            with_reducible refine shown_q (Value.bool false) ?qq_3Lh_5 (fun _ _ => ?qr_3Lh_5)
            case qr_3Lh_5 => exact (rfl : (Value.bool false) = (Value.bool false))
            with_reducible refine quietAt_ld 4 (.tmp 46) (Value.pointer (some ⟨fb, fo + i * 35 + 34, none⟩)) (Value.bool false) ?h0_3Lh_5 ?h1_3Lh_5 ?h2_3Lh_5
            case h0_3Lh_5 => rfl
            case h1_3Lh_5 => exact e46
            case h2_3Lh_5 => exact ld4 fb (fo + i * 35 + 34) false u (HF34.out u (gtrans HSq.out hu))
          · intro A u hu hpu hsz hout hdeps
            have e42 : A.eval (.tmp 42) = (.bool true) := by have h := depL hdeps 0 (by kernel_rfl) 42 (by kernel_rfl); exact h
            have e47 : A.eval (.tmp 47) = (.bool false) := by have h := depL hdeps 5 (by kernel_rfl) 47 (by kernel_rfl); exact h
            refine ifw_none rfl ?_
            with_reducible refine shown_q (Value.bool false) ?qq_3Lh_6 (fun _ _ => ?qr_3Lh_6)
            case qr_3Lh_6 => exact (rfl : (Value.bool false) = (Value.bool false))
            with_reducible refine quietAt_bin .eql 4 (.tmp 42) (.tmp 47) 4 (Value.bool true) (Value.bool false) (Value.bool false) ?h0_3Lh_6 ?h1_3Lh_6 ?h2_3Lh_6 ?h3_3Lh_6
            case h0_3Lh_6 => rfl
            case h1_3Lh_6 => exact e42
            case h2_3Lh_6 => exact e47
            case h3_3Lh_6 => exact HE4.out _ _ u
          · intro A u hu hpu hsz hout hdeps
            have e48 : A.eval (.tmp 48) = (.bool false) := by have h := depL hdeps 6 (by kernel_rfl) 48 (by kernel_rfl); exact h
            refine ifw_none rfl ?_
            with_reducible refine shown_q (Value.bool false) ?qq_3Lh_7 (fun _ _ => ?qr_3Lh_7)
            case qr_3Lh_7 => exact (rfl : (Value.bool false) = (Value.bool false))
            with_reducible refine quietAt_mv (.tmp 48) (Value.bool false) ?h0_3Lh_7 ?h1_3Lh_7
            case h0_3Lh_7 => rfl
            case h1_3Lh_7 => exact e48
          · intro A u hu hpu hsz hout hdeps
            have e49 : A.eval (.tmp 49) = (.bool false) := by have h := depL hdeps 7 (by kernel_rfl) 49 (by kernel_rfl); exact h
            have e8 : A.eval (.tmp 8) = (.bool true) := (hout 8 (by kernel_rfl)).trans rfl
            refine ifw_want 7 false 49 rfl rfl e49 ?_
            with_reducible refine shown_q (Value.bool true) ?qq_3Lh_8 (fun _ _ => ?qr_3Lh_8)
            case qr_3Lh_8 => exact (rfl : (Value.bool true) = (Value.bool true))
            with_reducible refine quietAt_mv (.tmp 8) (Value.bool true) ?h0_3Lh_8 ?h1_3Lh_8
            case h0_3Lh_8 => rfl
            case h1_3Lh_8 => exact e8
          · intro A u hu hpu hsz hout hdeps
            have e49 : A.eval (.tmp 49) = (.bool false) := by have h := depL hdeps 7 (by kernel_rfl) 49 (by kernel_rfl); exact h
            have e50 : A.eval (.tmp 50) = (.bool true) := by have h := depL hdeps 8 (by kernel_rfl) 50 (by kernel_rfl); exact h
            refine ifw_want 7 false 49 rfl rfl e49 ?_
            with_reducible refine shown_q (Value.bool true) ?qq_3Lh_9 (fun _ _ => ?qr_3Lh_9)
            case qr_3Lh_9 => exact (rfl : (Value.bool true) = (Value.bool true))
            with_reducible refine quietAt_mv (.tmp 50) (Value.bool true) ?h0_3Lh_9 ?h1_3Lh_9
            case h0_3Lh_9 => rfl
            case h1_3Lh_9 => exact e50
          · intro A u hu hpu hsz hout hdeps
            have e51 : A.eval (.tmp 51) = (.bool true) := by have h := depL hdeps 9 (by kernel_rfl) 51 (by kernel_rfl); exact h
            have e7 : A.eval (.tmp 7) = (.pointer (some ⟨b7, 0, none⟩)) := (hout 7 (by kernel_rfl)).trans rfl
            refine ifw_want 9 true 51 rfl rfl e51 ?_
            with_reducible refine shown_q (Value.agg Z.cells.toArray) ?qq_3Lh_10 (fun _ _ => ?qr_3Lh_10)
            case qr_3Lh_10 => exact (rfl : (Value.agg Z.cells.toArray) = (Value.agg Z.cells.toArray))
            with_reducible refine quietAt_load 107 (.tmp 7) ?h0_3Lh_10 b7 0 Z.cells (.struct (Try.prog.fieldsOf 107)) ?h1_3Lh_10 ?h2_3Lh_10 ?h3_3Lh_10 ?h4_3Lh_10 ?h5_3Lh_10
            case h0_3Lh_10 => rfl
            case h1_3Lh_10 => exact e7
            case h2_3Lh_10 => exact (HB30.out.keep hu).whole
            case h3_3Lh_10 => exact Try.under107
            case h4_3Lh_10 => rfl
            case h5_3Lh_10 => exact (by rw [HZL.out]; exact Try.size107)
          · intro A u hu hpu hsz hout hdeps
            have e51 : A.eval (.tmp 51) = (.bool true) := by have h := depL hdeps 9 (by kernel_rfl) 51 (by kernel_rfl); exact h
            have e1 : A.eval (.tmp 1) = (.slice (some ⟨fb, fo, none⟩) m fc) := (hout 1 (by kernel_rfl)).trans rfl
            refine ifw_want 9 true 51 rfl rfl e51 ?_
            with_reducible refine shown_q (Value.slice (some ⟨fb, fo, none⟩) m fc) ?qq_3Lh_11 (fun _ _ => ?qr_3Lh_11)
            case qr_3Lh_11 => exact (rfl : (Value.slice (some ⟨fb, fo, none⟩) m fc) = (Value.slice (some ⟨fb, fo, none⟩) m fc))
            with_reducible refine quietAt_mv (.tmp 1) (Value.slice (some ⟨fb, fo, none⟩) m fc) ?h0_3Lh_11 ?h1_3Lh_11
            case h0_3Lh_11 => rfl
            case h1_3Lh_11 => exact e1
          · intro A u hu hpu hsz hout hdeps
            have e51 : A.eval (.tmp 51) = (.bool true) := by have h := depL hdeps 9 (by kernel_rfl) 51 (by kernel_rfl); exact h
            have e6 : A.eval (.tmp 6) = (.int .i64 (i : Nat)) := (hout 6 (by kernel_rfl)).trans rfl
            refine ifw_want 9 true 51 rfl rfl e51 ?_
            with_reducible refine shown_q (Value.int .i64 (i : Nat)) ?qq_3Lh_12 (fun _ _ => ?qr_3Lh_12)
            case qr_3Lh_12 => exact (rfl : (Value.int .i64 (i : Nat)) = (Value.int .i64 (i : Nat)))
            with_reducible refine quietAt_mv (.tmp 6) (Value.int .i64 (i : Nat)) ?h0_3Lh_12 ?h1_3Lh_12
            case h0_3Lh_12 => rfl
            case h1_3Lh_12 => exact e6
          · intro A u hu hpu hsz hout hdeps
            have e51 : A.eval (.tmp 51) = (.bool true) := by have h := depL hdeps 9 (by kernel_rfl) 51 (by kernel_rfl); exact h
            have e53 : A.eval (.tmp 53) = (.slice (some ⟨fb, fo, none⟩) m fc) := by have h := depL hdeps 11 (by kernel_rfl) 53 (by kernel_rfl); exact h
            have e54 : A.eval (.tmp 54) = (.int .i64 (i : Nat)) := by have h := depL hdeps 12 (by kernel_rfl) 54 (by kernel_rfl); exact h
            refine ifw_want 9 true 51 rfl rfl e51 ?_
            with_reducible refine shown_q (Value.pointer (some ⟨fb, fo + i * 35, none⟩)) ?qq_3Lh_13 (fun _ _ => ?qr_3Lh_13)
            case qr_3Lh_13 => exact (rfl : (Value.pointer (some ⟨fb, fo + i * 35, none⟩)) = (Value.pointer (some ⟨fb, fo + i * 35, none⟩)))
            with_reducible refine quietAt_idx 97 (.tmp 53) (.tmp 54) (Value.slice (some ⟨fb, fo, none⟩) m fc) (Value.int .i64 (i : Nat)) (Value.pointer (some ⟨fb, fo + i * 35, none⟩)) ?h0_3Lh_13 ?h1_3Lh_13 ?h2_3Lh_13 ?h3_3Lh_13
            case h0_3Lh_13 => rfl
            case h1_3Lh_13 => exact e53
            case h2_3Lh_13 => exact e54
            case h3_3Lh_13 => exact idx97 fb fo m fc i him u
          · intro A u hu hpu hsz hout hdeps
            have e51 : A.eval (.tmp 51) = (.bool true) := by have h := depL hdeps 9 (by kernel_rfl) 51 (by kernel_rfl); exact h
            have e55 : A.eval (.tmp 55) = (.pointer (some ⟨fb, fo + i * 35, none⟩)) := by have h := depL hdeps 13 (by kernel_rfl) 55 (by kernel_rfl); exact h
            refine ifw_want 9 true 51 rfl rfl e51 ?_
            with_reducible refine shown_q (Value.pointer (some ⟨fb, fo + i * 35, none⟩)) ?qq_3Lh_14 (fun _ _ => ?qr_3Lh_14)
            case qr_3Lh_14 => exact (rfl : (Value.pointer (some ⟨fb, fo + i * 35, none⟩)) = (Value.pointer (some ⟨fb, fo + i * 35, none⟩)))
            with_reducible refine quietAt_field 96 (.tmp 55) 0 ?h0_3Lh_14 ⟨fb, fo + i * 35, none⟩ ⟨fb, fo + i * 35, none⟩ ?h1_3Lh_14 ?h2_3Lh_14
            case h0_3Lh_14 => rfl
            case h1_3Lh_14 => exact e55
            case h2_3Lh_14 => kernel_rfl
          · intro A u hu hpu hsz hout hdeps
            have e51 : A.eval (.tmp 51) = (.bool true) := by have h := depL hdeps 9 (by kernel_rfl) 51 (by kernel_rfl); exact h
            have e56 : A.eval (.tmp 56) = (.pointer (some ⟨fb, fo + i * 35, none⟩)) := by have h := depL hdeps 14 (by kernel_rfl) 56 (by kernel_rfl); exact h
            refine ifw_want 9 true 51 rfl rfl e51 ?_
            with_reducible refine shown_q (Value.int .u64 (KD : Nat)) ?qq_3Lh_15 (fun _ _ => ?qr_3Lh_15)
            case qr_3Lh_15 => exact (rfl : (Value.int .u64 (KD : Nat)) = (Value.int .u64 (KD : Nat)))
            with_reducible refine quietAt_ld 67 (.tmp 56) (Value.pointer (some ⟨fb, fo + i * 35, none⟩)) (Value.int .u64 (KD : Nat)) ?h0_3Lh_15 ?h1_3Lh_15 ?h2_3Lh_15
            case h0_3Lh_15 => rfl
            case h1_3Lh_15 => exact e56
            case h2_3Lh_15 => exact ld67 fb (fo + i * 35) KD u (HF0.out u (gtrans HSq.out hu))
          · intro A u hu hpu hsz hout hdeps
            have e51 : A.eval (.tmp 51) = (.bool true) := by have h := depL hdeps 9 (by kernel_rfl) 51 (by kernel_rfl); exact h
            have e1 : A.eval (.tmp 1) = (.slice (some ⟨fb, fo, none⟩) m fc) := (hout 1 (by kernel_rfl)).trans rfl
            refine ifw_want 9 true 51 rfl rfl e51 ?_
            with_reducible refine shown_q (Value.slice (some ⟨fb, fo, none⟩) m fc) ?qq_3Lh_16 (fun _ _ => ?qr_3Lh_16)
            case qr_3Lh_16 => exact (rfl : (Value.slice (some ⟨fb, fo, none⟩) m fc) = (Value.slice (some ⟨fb, fo, none⟩) m fc))
            with_reducible refine quietAt_mv (.tmp 1) (Value.slice (some ⟨fb, fo, none⟩) m fc) ?h0_3Lh_16 ?h1_3Lh_16
            case h0_3Lh_16 => rfl
            case h1_3Lh_16 => exact e1
          · intro A u hu hpu hsz hout hdeps
            have e51 : A.eval (.tmp 51) = (.bool true) := by have h := depL hdeps 9 (by kernel_rfl) 51 (by kernel_rfl); exact h
            have e6 : A.eval (.tmp 6) = (.int .i64 (i : Nat)) := (hout 6 (by kernel_rfl)).trans rfl
            refine ifw_want 9 true 51 rfl rfl e51 ?_
            with_reducible refine shown_q (Value.int .i64 (i : Nat)) ?qq_3Lh_17 (fun _ _ => ?qr_3Lh_17)
            case qr_3Lh_17 => exact (rfl : (Value.int .i64 (i : Nat)) = (Value.int .i64 (i : Nat)))
            with_reducible refine quietAt_mv (.tmp 6) (Value.int .i64 (i : Nat)) ?h0_3Lh_17 ?h1_3Lh_17
            case h0_3Lh_17 => rfl
            case h1_3Lh_17 => exact e6
          · intro A u hu hpu hsz hout hdeps
            have e51 : A.eval (.tmp 51) = (.bool true) := by have h := depL hdeps 9 (by kernel_rfl) 51 (by kernel_rfl); exact h
            have e58 : A.eval (.tmp 58) = (.slice (some ⟨fb, fo, none⟩) m fc) := by have h := depL hdeps 16 (by kernel_rfl) 58 (by kernel_rfl); exact h
            have e59 : A.eval (.tmp 59) = (.int .i64 (i : Nat)) := by have h := depL hdeps 17 (by kernel_rfl) 59 (by kernel_rfl); exact h
            refine ifw_want 9 true 51 rfl rfl e51 ?_
            with_reducible refine shown_q (Value.pointer (some ⟨fb, fo + i * 35, none⟩)) ?qq_3Lh_18 (fun _ _ => ?qr_3Lh_18)
            case qr_3Lh_18 => exact (rfl : (Value.pointer (some ⟨fb, fo + i * 35, none⟩)) = (Value.pointer (some ⟨fb, fo + i * 35, none⟩)))
            with_reducible refine quietAt_idx 97 (.tmp 58) (.tmp 59) (Value.slice (some ⟨fb, fo, none⟩) m fc) (Value.int .i64 (i : Nat)) (Value.pointer (some ⟨fb, fo + i * 35, none⟩)) ?h0_3Lh_18 ?h1_3Lh_18 ?h2_3Lh_18 ?h3_3Lh_18
            case h0_3Lh_18 => rfl
            case h1_3Lh_18 => exact e58
            case h2_3Lh_18 => exact e59
            case h3_3Lh_18 => exact idx97 fb fo m fc i him u
          · intro A u hu hpu hsz hout hdeps
            have e51 : A.eval (.tmp 51) = (.bool true) := by have h := depL hdeps 9 (by kernel_rfl) 51 (by kernel_rfl); exact h
            have e60 : A.eval (.tmp 60) = (.pointer (some ⟨fb, fo + i * 35, none⟩)) := by have h := depL hdeps 18 (by kernel_rfl) 60 (by kernel_rfl); exact h
            refine ifw_want 9 true 51 rfl rfl e51 ?_
            with_reducible refine shown_q (Value.pointer (some ⟨fb, fo + i * 35 + 1, none⟩)) ?qq_3Lh_19 (fun _ _ => ?qr_3Lh_19)
            case qr_3Lh_19 => exact (rfl : (Value.pointer (some ⟨fb, fo + i * 35 + 1, none⟩)) = (Value.pointer (some ⟨fb, fo + i * 35 + 1, none⟩)))
            with_reducible refine quietAt_field 96 (.tmp 60) 1 ?h0_3Lh_19 ⟨fb, fo + i * 35, none⟩ ⟨fb, fo + i * 35 + 1, none⟩ ?h1_3Lh_19 ?h2_3Lh_19
            case h0_3Lh_19 => rfl
            case h1_3Lh_19 => exact e60
            case h2_3Lh_19 => kernel_rfl
          · intro A u hu hpu hsz hout hdeps
            have e51 : A.eval (.tmp 51) = (.bool true) := by have h := depL hdeps 9 (by kernel_rfl) 51 (by kernel_rfl); exact h
            have e61 : A.eval (.tmp 61) = (.pointer (some ⟨fb, fo + i * 35 + 1, none⟩)) := by have h := depL hdeps 19 (by kernel_rfl) 61 (by kernel_rfl); exact h
            refine ifw_want 9 true 51 rfl rfl e51 ?_
            with_reducible refine shown_q (Value.agg (Lib.byteCells Z.sec).toArray) ?qq_3Lh_20 (fun _ _ => ?qr_3Lh_20)
            case qr_3Lh_20 => exact (rfl : (Value.agg (Lib.byteCells Z.sec).toArray) = (Value.agg (Lib.byteCells Z.sec).toArray))
            with_reducible refine quietAt_load 70 (.tmp 61) ?h0_3Lh_20 fb (fo + i * 35 + 1) (Lib.byteCells Z.sec) (.array 32 5) ?h1_3Lh_20 ?h2_3Lh_20 ?h3_3Lh_20 ?h4_3Lh_20 ?h5_3Lh_20
            case h0_3Lh_20 => rfl
            case h1_3Lh_20 => exact e61
            case h2_3Lh_20 => exact (HFs.out u (gtrans HSq.out hu))
            case h3_3Lh_20 => exact Try.underlying70
            case h4_3Lh_20 => rfl
            case h5_3Lh_20 => exact (by rw [byteCells_length, HZs.out]; exact Try.size70)
          · intro A u hu hpu hsz hout hdeps
            have e51 : A.eval (.tmp 51) = (.bool true) := by have h := depL hdeps 9 (by kernel_rfl) 51 (by kernel_rfl); exact h
            have e1 : A.eval (.tmp 1) = (.slice (some ⟨fb, fo, none⟩) m fc) := (hout 1 (by kernel_rfl)).trans rfl
            refine ifw_want 9 true 51 rfl rfl e51 ?_
            with_reducible refine shown_q (Value.slice (some ⟨fb, fo, none⟩) m fc) ?qq_3Lh_21 (fun _ _ => ?qr_3Lh_21)
            case qr_3Lh_21 => exact (rfl : (Value.slice (some ⟨fb, fo, none⟩) m fc) = (Value.slice (some ⟨fb, fo, none⟩) m fc))
            with_reducible refine quietAt_mv (.tmp 1) (Value.slice (some ⟨fb, fo, none⟩) m fc) ?h0_3Lh_21 ?h1_3Lh_21
            case h0_3Lh_21 => rfl
            case h1_3Lh_21 => exact e1
          · intro A u hu hpu hsz hout hdeps
            have e51 : A.eval (.tmp 51) = (.bool true) := by have h := depL hdeps 9 (by kernel_rfl) 51 (by kernel_rfl); exact h
            have e6 : A.eval (.tmp 6) = (.int .i64 (i : Nat)) := (hout 6 (by kernel_rfl)).trans rfl
            refine ifw_want 9 true 51 rfl rfl e51 ?_
            with_reducible refine shown_q (Value.int .i64 (i : Nat)) ?qq_3Lh_22 (fun _ _ => ?qr_3Lh_22)
            case qr_3Lh_22 => exact (rfl : (Value.int .i64 (i : Nat)) = (Value.int .i64 (i : Nat)))
            with_reducible refine quietAt_mv (.tmp 6) (Value.int .i64 (i : Nat)) ?h0_3Lh_22 ?h1_3Lh_22
            case h0_3Lh_22 => rfl
            case h1_3Lh_22 => exact e6
          · intro A u hu hpu hsz hout hdeps
            have e51 : A.eval (.tmp 51) = (.bool true) := by have h := depL hdeps 9 (by kernel_rfl) 51 (by kernel_rfl); exact h
            have e63 : A.eval (.tmp 63) = (.slice (some ⟨fb, fo, none⟩) m fc) := by have h := depL hdeps 21 (by kernel_rfl) 63 (by kernel_rfl); exact h
            have e64 : A.eval (.tmp 64) = (.int .i64 (i : Nat)) := by have h := depL hdeps 22 (by kernel_rfl) 64 (by kernel_rfl); exact h
            refine ifw_want 9 true 51 rfl rfl e51 ?_
            with_reducible refine shown_q (Value.pointer (some ⟨fb, fo + i * 35, none⟩)) ?qq_3Lh_23 (fun _ _ => ?qr_3Lh_23)
            case qr_3Lh_23 => exact (rfl : (Value.pointer (some ⟨fb, fo + i * 35, none⟩)) = (Value.pointer (some ⟨fb, fo + i * 35, none⟩)))
            with_reducible refine quietAt_idx 97 (.tmp 63) (.tmp 64) (Value.slice (some ⟨fb, fo, none⟩) m fc) (Value.int .i64 (i : Nat)) (Value.pointer (some ⟨fb, fo + i * 35, none⟩)) ?h0_3Lh_23 ?h1_3Lh_23 ?h2_3Lh_23 ?h3_3Lh_23
            case h0_3Lh_23 => rfl
            case h1_3Lh_23 => exact e63
            case h2_3Lh_23 => exact e64
            case h3_3Lh_23 => exact idx97 fb fo m fc i him u
          · intro A u hu hpu hsz hout hdeps
            have e51 : A.eval (.tmp 51) = (.bool true) := by have h := depL hdeps 9 (by kernel_rfl) 51 (by kernel_rfl); exact h
            have e65 : A.eval (.tmp 65) = (.pointer (some ⟨fb, fo + i * 35, none⟩)) := by have h := depL hdeps 23 (by kernel_rfl) 65 (by kernel_rfl); exact h
            refine ifw_want 9 true 51 rfl rfl e51 ?_
            with_reducible refine shown_q (Value.pointer (some ⟨fb, fo + i * 35 + 33, none⟩)) ?qq_3Lh_24 (fun _ _ => ?qr_3Lh_24)
            case qr_3Lh_24 => exact (rfl : (Value.pointer (some ⟨fb, fo + i * 35 + 33, none⟩)) = (Value.pointer (some ⟨fb, fo + i * 35 + 33, none⟩)))
            with_reducible refine quietAt_field 96 (.tmp 65) 2 ?h0_3Lh_24 ⟨fb, fo + i * 35, none⟩ ⟨fb, fo + i * 35 + 33, none⟩ ?h1_3Lh_24 ?h2_3Lh_24
            case h0_3Lh_24 => rfl
            case h1_3Lh_24 => exact e65
            case h2_3Lh_24 => kernel_rfl
          · intro A u hu hpu hsz hout hdeps
            have e51 : A.eval (.tmp 51) = (.bool true) := by have h := depL hdeps 9 (by kernel_rfl) 51 (by kernel_rfl); exact h
            have e66 : A.eval (.tmp 66) = (.pointer (some ⟨fb, fo + i * 35 + 33, none⟩)) := by have h := depL hdeps 24 (by kernel_rfl) 66 (by kernel_rfl); exact h
            refine ifw_want 9 true 51 rfl rfl e51 ?_
            with_reducible refine shown_q (Value.int .i64 Z.til) ?qq_3Lh_25 (fun _ _ => ?qr_3Lh_25)
            case qr_3Lh_25 => exact (rfl : (Value.int .i64 Z.til) = (Value.int .i64 Z.til))
            with_reducible refine quietAt_ld 2 (.tmp 66) (Value.pointer (some ⟨fb, fo + i * 35 + 33, none⟩)) (Value.int .i64 Z.til) ?h0_3Lh_25 ?h1_3Lh_25 ?h2_3Lh_25
            case h0_3Lh_25 => rfl
            case h1_3Lh_25 => exact e66
            case h2_3Lh_25 => exact ld2' fb (fo + i * 35 + 33) Z.til u (HF33.out u (gtrans HSq.out hu))
          · intro A u hu hpu hsz hout hdeps
            have e51 : A.eval (.tmp 51) = (.bool true) := by have h := depL hdeps 9 (by kernel_rfl) 51 (by kernel_rfl); exact h
            have e57 : A.eval (.tmp 57) = (.int .u64 (KD : Nat)) := by have h := depL hdeps 15 (by kernel_rfl) 57 (by kernel_rfl); exact h
            have e62 : A.eval (.tmp 62) = (.agg (Lib.byteCells Z.sec).toArray) := by have h := depL hdeps 20 (by kernel_rfl) 62 (by kernel_rfl); exact h
            have e67 : A.eval (.tmp 67) = (.int .i64 Z.til) := by have h := depL hdeps 25 (by kernel_rfl) 67 (by kernel_rfl); exact h
            refine ifw_want 9 true 51 rfl rfl e51 ?_
            with_reducible refine shown_q (Value.agg Z.cells.toArray) ?qq_3Lh_26 (fun _ _ => ?qr_3Lh_26)
            case qr_3Lh_26 => exact (rfl : (Value.agg Z.cells.toArray) = (Value.agg Z.cells.toArray))
            with_reducible refine quietAt_build 107 #[(0, .tmp 57), (1, .tmp 62), (2, .tmp 67)] ?h0_3Lh_26 [(0, (Value.int .u64 (KD : Nat))), (1, (Value.agg (Lib.byteCells Z.sec).toArray)), (2, (Value.int .i64 Z.til))] ?h1_3Lh_26 Z.cells ?h2_3Lh_26
            case h0_3Lh_26 => rfl
            case h1_3Lh_26 => simp only [List.map_toArray, List.map_cons, List.map_nil, e57, e62, e67]
            case h2_3Lh_26 => exact HBk.out
          · intro A u hu hpu hsz hout hdeps
            have e51 : A.eval (.tmp 51) = (.bool true) := by have h := depL hdeps 9 (by kernel_rfl) 51 (by kernel_rfl); exact h
            have e52 : A.eval (.tmp 52) = (.agg Z.cells.toArray) := by have h := depL hdeps 10 (by kernel_rfl) 52 (by kernel_rfl); exact h
            have e68 : A.eval (.tmp 68) = (.agg Z.cells.toArray) := by have h := depL hdeps 26 (by kernel_rfl) 68 (by kernel_rfl); exact h
            refine ifw_want 9 true 51 rfl rfl e51 ?_
            with_reducible refine shown_q (Value.bool false) ?qq_3Lh_27 (fun _ _ => ?qr_3Lh_27)
            case qr_3Lh_27 => exact (rfl : (Value.bool false) = (Value.bool false))
            with_reducible refine quietAt_bin .neq 107 (.tmp 52) (.tmp 68) 107 (Value.agg Z.cells.toArray) (Value.agg Z.cells.toArray) (Value.bool false) ?h0_3Lh_27 ?h1_3Lh_27 ?h2_3Lh_27 ?h3_3Lh_27
            case h0_3Lh_27 => rfl
            case h1_3Lh_27 => exact e52
            case h2_3Lh_27 => exact e68
            case h3_3Lh_27 => exact HNz.out _ _ u
          · intro A u hu hpu hsz hout hdeps
            have e49 : A.eval (.tmp 49) = (.bool false) := by have h := depL hdeps 7 (by kernel_rfl) 49 (by kernel_rfl); exact h
            have e51 : A.eval (.tmp 51) = (.bool true) := by have h := depL hdeps 9 (by kernel_rfl) 51 (by kernel_rfl); exact h
            have e69 : A.eval (.tmp 69) = (.bool false) := by have h := depL hdeps 27 (by kernel_rfl) 69 (by kernel_rfl); exact h
            refine ifw_want 7 false 49 rfl rfl e49 ?_
            with_reducible refine shown_q (Value.bool false) ?qq_3Lh_28 (fun _ _ => ?qr_3Lh_28)
            case qr_3Lh_28 => exact (rfl : (Value.bool false) = (Value.bool false))
            with_reducible refine quietAt_pick (.tmp 51) (.tmp 69) (.const (.bool false)) true (Value.bool false) ?h0_3Lh_28 ?h1_3Lh_28 ?h2_3Lh_28
            case h0_3Lh_28 => rfl
            case h1_3Lh_28 => exact e51
            case h2_3Lh_28 => rw [if_pos rfl]; exact e69
          · intro A u hu hpu hsz hout hdeps
            have e49 : A.eval (.tmp 49) = (.bool false) := by have h := depL hdeps 7 (by kernel_rfl) 49 (by kernel_rfl); exact h
            have e70 : A.eval (.tmp 70) = (.bool false) := by have h := depL hdeps 28 (by kernel_rfl) 70 (by kernel_rfl); exact h
            refine ifw_none rfl ?_
            with_reducible refine shown_q (Value.bool false) ?qq_3Lh_29 (fun _ _ => ?qr_3Lh_29)
            case qr_3Lh_29 => exact (rfl : (Value.bool false) = (Value.bool false))
            with_reducible refine quietAt_pick (.tmp 49) (.const (.bool true)) (.tmp 70) false (Value.bool false) ?h0_3Lh_29 ?h1_3Lh_29 ?h2_3Lh_29
            case h0_3Lh_29 => rfl
            case h1_3Lh_29 => exact e49
            case h2_3Lh_29 => rw [if_neg (by decide)]; exact e70
          · intro A u8 listed hh hall
            have hA := hh.frame
            have HU := hid hh.grown
            obtain ⟨x42, hx42⟩ : ∃ x, A.eval (.tmp 42) = x := ⟨_, rfl⟩
            have f42 : (fun v _ => v = (Value.bool true)) x42 u8 := by rw [← hx42]; exact hh.got 0 _ 42 rfl rfl (hall 0 (by decide))
            obtain ⟨x43, hx43⟩ : ∃ x, A.eval (.tmp 43) = x := ⟨_, rfl⟩
            have f43 : (fun v _ => v = (Value.slice (some ⟨fb, fo, none⟩) m fc)) x43 u8 := by rw [← hx43]; exact hh.got 1 _ 43 rfl rfl (hall 1 (by decide))
            obtain ⟨x44, hx44⟩ : ∃ x, A.eval (.tmp 44) = x := ⟨_, rfl⟩
            have f44 : (fun v _ => v = (Value.int .i64 (i : Nat))) x44 u8 := by rw [← hx44]; exact hh.got 2 _ 44 rfl rfl (hall 2 (by decide))
            obtain ⟨x45, hx45⟩ : ∃ x, A.eval (.tmp 45) = x := ⟨_, rfl⟩
            have f45 : (fun v _ => v = (Value.pointer (some ⟨fb, fo + i * 35, none⟩))) x45 u8 := by rw [← hx45]; exact hh.got 3 _ 45 rfl rfl (hall 3 (by decide))
            obtain ⟨x46, hx46⟩ : ∃ x, A.eval (.tmp 46) = x := ⟨_, rfl⟩
            have f46 : (fun v _ => v = (Value.pointer (some ⟨fb, fo + i * 35 + 34, none⟩))) x46 u8 := by rw [← hx46]; exact hh.got 4 _ 46 rfl rfl (hall 4 (by decide))
            obtain ⟨x47, hx47⟩ : ∃ x, A.eval (.tmp 47) = x := ⟨_, rfl⟩
            have f47 : (fun v _ => v = (Value.bool false)) x47 u8 := by rw [← hx47]; exact hh.got 5 _ 47 rfl rfl (hall 5 (by decide))
            obtain ⟨x48, hx48⟩ : ∃ x, A.eval (.tmp 48) = x := ⟨_, rfl⟩
            have f48 : (fun v _ => v = (Value.bool false)) x48 u8 := by rw [← hx48]; exact hh.got 6 _ 48 rfl rfl (hall 6 (by decide))
            obtain ⟨x49, hx49⟩ : ∃ x, A.eval (.tmp 49) = x := ⟨_, rfl⟩
            have f49 : (fun v _ => v = (Value.bool false)) x49 u8 := by rw [← hx49]; exact hh.got 7 _ 49 rfl rfl (hall 7 (by decide))
            obtain ⟨x50, hx50⟩ : ∃ x, A.eval (.tmp 50) = x := ⟨_, rfl⟩
            have f50 : (fun v _ => v = (Value.bool true)) x50 u8 := by rw [← hx50]; exact hh.got 8 _ 50 rfl rfl (hall 8 (by decide))
            obtain ⟨x51, hx51⟩ : ∃ x, A.eval (.tmp 51) = x := ⟨_, rfl⟩
            have f51 : (fun v _ => v = (Value.bool true)) x51 u8 := by rw [← hx51]; exact hh.got 9 _ 51 rfl rfl (hall 9 (by decide))
            obtain ⟨x52, hx52⟩ : ∃ x, A.eval (.tmp 52) = x := ⟨_, rfl⟩
            have f52 : (fun v _ => v = (Value.agg Z.cells.toArray)) x52 u8 := by rw [← hx52]; exact hh.got 10 _ 52 rfl rfl (hall 10 (by decide))
            obtain ⟨x53, hx53⟩ : ∃ x, A.eval (.tmp 53) = x := ⟨_, rfl⟩
            have f53 : (fun v _ => v = (Value.slice (some ⟨fb, fo, none⟩) m fc)) x53 u8 := by rw [← hx53]; exact hh.got 11 _ 53 rfl rfl (hall 11 (by decide))
            obtain ⟨x54, hx54⟩ : ∃ x, A.eval (.tmp 54) = x := ⟨_, rfl⟩
            have f54 : (fun v _ => v = (Value.int .i64 (i : Nat))) x54 u8 := by rw [← hx54]; exact hh.got 12 _ 54 rfl rfl (hall 12 (by decide))
            obtain ⟨x55, hx55⟩ : ∃ x, A.eval (.tmp 55) = x := ⟨_, rfl⟩
            have f55 : (fun v _ => v = (Value.pointer (some ⟨fb, fo + i * 35, none⟩))) x55 u8 := by rw [← hx55]; exact hh.got 13 _ 55 rfl rfl (hall 13 (by decide))
            obtain ⟨x56, hx56⟩ : ∃ x, A.eval (.tmp 56) = x := ⟨_, rfl⟩
            have f56 : (fun v _ => v = (Value.pointer (some ⟨fb, fo + i * 35, none⟩))) x56 u8 := by rw [← hx56]; exact hh.got 14 _ 56 rfl rfl (hall 14 (by decide))
            obtain ⟨x57, hx57⟩ : ∃ x, A.eval (.tmp 57) = x := ⟨_, rfl⟩
            have f57 : (fun v _ => v = (Value.int .u64 (KD : Nat))) x57 u8 := by rw [← hx57]; exact hh.got 15 _ 57 rfl rfl (hall 15 (by decide))
            obtain ⟨x58, hx58⟩ : ∃ x, A.eval (.tmp 58) = x := ⟨_, rfl⟩
            have f58 : (fun v _ => v = (Value.slice (some ⟨fb, fo, none⟩) m fc)) x58 u8 := by rw [← hx58]; exact hh.got 16 _ 58 rfl rfl (hall 16 (by decide))
            obtain ⟨x59, hx59⟩ : ∃ x, A.eval (.tmp 59) = x := ⟨_, rfl⟩
            have f59 : (fun v _ => v = (Value.int .i64 (i : Nat))) x59 u8 := by rw [← hx59]; exact hh.got 17 _ 59 rfl rfl (hall 17 (by decide))
            obtain ⟨x60, hx60⟩ : ∃ x, A.eval (.tmp 60) = x := ⟨_, rfl⟩
            have f60 : (fun v _ => v = (Value.pointer (some ⟨fb, fo + i * 35, none⟩))) x60 u8 := by rw [← hx60]; exact hh.got 18 _ 60 rfl rfl (hall 18 (by decide))
            obtain ⟨x61, hx61⟩ : ∃ x, A.eval (.tmp 61) = x := ⟨_, rfl⟩
            have f61 : (fun v _ => v = (Value.pointer (some ⟨fb, fo + i * 35 + 1, none⟩))) x61 u8 := by rw [← hx61]; exact hh.got 19 _ 61 rfl rfl (hall 19 (by decide))
            obtain ⟨x62, hx62⟩ : ∃ x, A.eval (.tmp 62) = x := ⟨_, rfl⟩
            have f62 : (fun v _ => v = (Value.agg (Lib.byteCells Z.sec).toArray)) x62 u8 := by rw [← hx62]; exact hh.got 20 _ 62 rfl rfl (hall 20 (by decide))
            obtain ⟨x63, hx63⟩ : ∃ x, A.eval (.tmp 63) = x := ⟨_, rfl⟩
            have f63 : (fun v _ => v = (Value.slice (some ⟨fb, fo, none⟩) m fc)) x63 u8 := by rw [← hx63]; exact hh.got 21 _ 63 rfl rfl (hall 21 (by decide))
            obtain ⟨x64, hx64⟩ : ∃ x, A.eval (.tmp 64) = x := ⟨_, rfl⟩
            have f64 : (fun v _ => v = (Value.int .i64 (i : Nat))) x64 u8 := by rw [← hx64]; exact hh.got 22 _ 64 rfl rfl (hall 22 (by decide))
            obtain ⟨x65, hx65⟩ : ∃ x, A.eval (.tmp 65) = x := ⟨_, rfl⟩
            have f65 : (fun v _ => v = (Value.pointer (some ⟨fb, fo + i * 35, none⟩))) x65 u8 := by rw [← hx65]; exact hh.got 23 _ 65 rfl rfl (hall 23 (by decide))
            obtain ⟨x66, hx66⟩ : ∃ x, A.eval (.tmp 66) = x := ⟨_, rfl⟩
            have f66 : (fun v _ => v = (Value.pointer (some ⟨fb, fo + i * 35 + 33, none⟩))) x66 u8 := by rw [← hx66]; exact hh.got 24 _ 66 rfl rfl (hall 24 (by decide))
            obtain ⟨x67, hx67⟩ : ∃ x, A.eval (.tmp 67) = x := ⟨_, rfl⟩
            have f67 : (fun v _ => v = (Value.int .i64 Z.til)) x67 u8 := by rw [← hx67]; exact hh.got 25 _ 67 rfl rfl (hall 25 (by decide))
            obtain ⟨x68, hx68⟩ : ∃ x, A.eval (.tmp 68) = x := ⟨_, rfl⟩
            have f68 : (fun v _ => v = (Value.agg Z.cells.toArray)) x68 u8 := by rw [← hx68]; exact hh.got 26 _ 68 rfl rfl (hall 26 (by decide))
            obtain ⟨x69, hx69⟩ : ∃ x, A.eval (.tmp 69) = x := ⟨_, rfl⟩
            have f69 : (fun v _ => v = (Value.bool false)) x69 u8 := by rw [← hx69]; exact hh.got 27 _ 69 rfl rfl (hall 27 (by decide))
            obtain ⟨x70, hx70⟩ : ∃ x, A.eval (.tmp 70) = x := ⟨_, rfl⟩
            have f70 : (fun v _ => v = (Value.bool false)) x70 u8 := by rw [← hx70]; exact hh.got 28 _ 70 rfl rfl (hall 28 (by decide))
            obtain ⟨x71, hx71⟩ : ∃ x, A.eval (.tmp 71) = x := ⟨_, rfl⟩
            have f71 : (fun v _ => v = (Value.bool false)) x71 u8 := by rw [← hx71]; exact hh.got 29 _ 71 rfl rfl (hall 29 (by decide))
            dsimp only [wrote, List.foldl] at hA
            rw [hx42, hx43, hx44, hx45, hx46, hx47, hx48, hx49, hx50, hx51, hx52, hx53, hx54, hx55, hx56, hx57, hx58, hx59, hx60, hx61, hx62, hx63, hx64, hx65, hx66, hx67, hx68, hx69, hx70, hx71] at hA
            clear hh hall hx42 hx43 hx44 hx45 hx46 hx47 hx48 hx49 hx50 hx51 hx52 hx53 hx54 hx55 hx56 hx57 hx58 hx59 hx60 hx61 hx62 hx63 hx64 hx65 hx66 hx67 hx68 hx69 hx70 hx71
            replace f42 := (f42 : x42 = (.bool true))
            subst f42
            replace f43 := (f43 : x43 = (.slice (some ⟨fb, fo, none⟩) m fc))
            subst f43
            replace f44 := (f44 : x44 = (.int .i64 (i : Nat)))
            subst f44
            replace f45 := (f45 : x45 = (.pointer (some ⟨fb, fo + i * 35, none⟩)))
            subst f45
            replace f46 := (f46 : x46 = (.pointer (some ⟨fb, fo + i * 35 + 34, none⟩)))
            subst f46
            replace f47 := (f47 : x47 = (.bool false))
            subst f47
            replace f48 := (f48 : x48 = (.bool false))
            subst f48
            replace f49 := (f49 : x49 = (.bool false))
            subst f49
            replace f50 := (f50 : x50 = (.bool true))
            subst f50
            replace f51 := (f51 : x51 = (.bool true))
            subst f51
            replace f52 := (f52 : x52 = (.agg Z.cells.toArray))
            subst f52
            replace f53 := (f53 : x53 = (.slice (some ⟨fb, fo, none⟩) m fc))
            subst f53
            replace f54 := (f54 : x54 = (.int .i64 (i : Nat)))
            subst f54
            replace f55 := (f55 : x55 = (.pointer (some ⟨fb, fo + i * 35, none⟩)))
            subst f55
            replace f56 := (f56 : x56 = (.pointer (some ⟨fb, fo + i * 35, none⟩)))
            subst f56
            replace f57 := (f57 : x57 = (.int .u64 (KD : Nat)))
            subst f57
            replace f58 := (f58 : x58 = (.slice (some ⟨fb, fo, none⟩) m fc))
            subst f58
            replace f59 := (f59 : x59 = (.int .i64 (i : Nat)))
            subst f59
            replace f60 := (f60 : x60 = (.pointer (some ⟨fb, fo + i * 35, none⟩)))
            subst f60
            replace f61 := (f61 : x61 = (.pointer (some ⟨fb, fo + i * 35 + 1, none⟩)))
            subst f61
            replace f62 := (f62 : x62 = (.agg (Lib.byteCells Z.sec).toArray))
            subst f62
            replace f63 := (f63 : x63 = (.slice (some ⟨fb, fo, none⟩) m fc))
            subst f63
            replace f64 := (f64 : x64 = (.int .i64 (i : Nat)))
            subst f64
            replace f65 := (f65 : x65 = (.pointer (some ⟨fb, fo + i * 35, none⟩)))
            subst f65
            replace f66 := (f66 : x66 = (.pointer (some ⟨fb, fo + i * 35 + 33, none⟩)))
            subst f66
            replace f67 := (f67 : x67 = (.int .i64 Z.til))
            subst f67
            replace f68 := (f68 : x68 = (.agg Z.cells.toArray))
            subst f68
            replace f69 := (f69 : x69 = (.bool false))
            subst f69
            replace f70 := (f70 : x70 = (.bool false))
            subst f70
            replace f71 := (f71 : x71 = (.bool false))
            subst f71
            subst hA
            show wpList _ _ _ [] _ _
            unfold wpList
            simp only [Act.put, List.setIfInBounds_toArray, List.set_cons_succ, List.set_cons_zero]
            have HGx := hid (gtrans HG.out (gtrans HSq.out HU.out))
            go_wp2_with fail
            go_roundw
            case rel => exact ⟨i + 1, by go_num, by rw [HSn.out]; go_num, by omega, HGx⟩
            case measure => simp [intOf]; omega
    · have hge : ¬ (i : Int) < (m : Int) := by omega
      obtain rfl : i = m := by omega
      rw [HCe.out]
      go_wp2_with (first
        | (go_at_call 29; (with_reducible refine (HCu.out _ HG4.out).mono ?_); rintro e w5 ⟨rfl, hg5⟩; have HG5 := hid (gtrans HG4.out hg5); have HB5 := hid (HB4.out.keep hg5); clear hg5)
        | (have := HB9; clear this; (with_reducible refine wpList_alloc_row (by with_unfolding_all rfl) 107 (by with_unfolding_all rfl) zky.cells Try.zero107 ?_); intro w8 B8 s8 g8; have HB8 := hid B8; have HG8 := hid g8; have HS8 := hid s8; clear B8 g8 s8)
        | ((with_reducible refine wpList_alloc_row (by with_unfolding_all rfl) 107 (by with_unfolding_all rfl) zky.cells Try.zero107 ?_); intro w6 B6 s6 g6; have HB6 := hid B6; have HG6 := hid g6; have HS6 := hid s6; clear B6 g6 s6)
        | (have := HB8; clear this; (with_reducible refine wpList_store_all (by with_unfolding_all rfl) 107 _ _ (by with_unfolding_all rfl) _ zky.cells zky.cells 107 (by with_unfolding_all rfl) (by with_unfolding_all rfl) HB8.out (by with_unfolding_all rfl) (by with_unfolding_all exact Try.size107) (Ky.one _) ?_); intro w10 B10 g10 s10; have HB10 := hid B10; have HG10 := hid g10; have HS10 := hid s10; clear B10 g10 s10; have hlx := HB9.out.lt; have hly := HBk9.out.lt; have HG10x := hid ((gtrans HG9x.out HG8.out).andThen HG10.out (fun j hj => .inl (by injection hj with hj; have := HG9x.out.size; omega))); have HB11 := hid ((HB9.out.keep HG8.out).on HG10.out (by simp; omega)); have HK11 := hid ((HBk9.out.keep HG8.out).on HG10.out (by simp; omega)); have y0 := HB11.out.cell 0; have y1 := HB11.out.cell 1; have k0 : w10.cell? ⟨w5.heap.size, 0, none⟩ = some (.int .u64 (i : Nat)) := (by rw [HK11.out.cell, ← HKm.out.2]; exact Ky.c0 _); clear hlx hly)
        | ((with_reducible refine wpList_store_all (by with_unfolding_all rfl) 107 _ _ (by with_unfolding_all rfl) _ zky.cells K.cells 107 (by with_unfolding_all rfl) (by with_unfolding_all rfl) HB6.out (by rw [HKL.out]; with_unfolding_all rfl) (by rw [HKL.out]; exact Try.size107) (Ky.one _) ?_); intro w7 B7 g7 s7; have HB7 := hid B7; have HG7 := hid g7; have HS7 := hid s7; clear B7 g7 s7; have hlx := HB5.out.lt; have HG7x := hid ((gtrans HG5.out HG6.out).andThen HG7.out (fun j hj => .inl (by injection hj with hj; have := HG5.out.size; omega))); have HB7x := hid ((HB5.out.keep HG6.out).on HG7.out (by simp; omega)); have y0 := HB7x.out.cell 0; have y1 := HB7x.out.cell 1; clear hlx)
        | (go_at_call 30; (with_reducible refine (HFn.out _ HG7x.out).mono ?_); rintro e w9 ⟨rfl, hg9⟩; have HG9x := hid (gtrans HG7x.out hg9); have HB9 := hid (HB7x.out.keep hg9); have HBk9 := hid (HB7.out.keep hg9); clear hg9))
      go_ret
      exact ⟨rfl, HG10x.out⟩
end Go.Proofs.Ytmpcpakdocaieaa
