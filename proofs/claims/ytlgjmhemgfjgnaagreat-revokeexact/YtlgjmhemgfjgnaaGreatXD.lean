/- The reference's Has. -/
import Derived.Test.YtlgjmhemgfjgnaaGreatXC
import Derived.Test.YtlgjmhemgfjgnaaGreatX04
namespace Go.Proofs.YtlgjmhemgfjgnaaGreat
open Go Go.RowKit
open Go.RowKit (wrap32 wrap64)

def hasP (g : Nat) (id : List UInt8) (r : Ky) : Bool := r.g == g && (r.wh || r.id == id)
theorem hasL_any (l : List Ky) (g : Nat) (id : List UInt8) : hasL l g id = (chk l && l.any (hasP g id)) := by
  unfold hasL own hasP
  rw [List.any_filter]
theorem ld67 (b i : Nat) (n : Int) (u : World) (h : u.cell? ⟨b, i, none⟩ = some (.int .u64 n)) : (Instr.loadAt 67 (.pointer (some ⟨b, i, none⟩))).run Tryz.prog u = .ok (.int .u64 n) u := by go_simp
theorem eqU {x y : Operand} (n : Nat) (u : World) : (do eqGuard .eql 67 x y (.int .u64 (n : Nat)) (.int .u64 (n : Nat)); binOp .eql 67 (.int .u64 (n : Nat)) (.int .u64 (n : Nat)) : Sem Value).run Tryz.prog u = .ok (.bool true) u := by go_simp
theorem size69' {D : List UInt8} (h : D.length = 16) : (Tryz.prog.info? 69).map (·.size) = some (Lib.byteCells D).length := by rw [byteCells_length, h]; exact Tryz.size69
set_option maxRecDepth 100000 in
set_option maxHeartbeats 3200000 in
theorem rhas_any (w : World) (v : Value) (F : Nat → Prop) (l : List Ky) (g : Nat) (D : List UInt8) (hD : D.length = 16) (hv : RdK w F v l) (hl : l.length ≤ 1000000) :
    Calls Tryz.prog 20 #[v, .int .u64 g, .agg (Lib.byteCells D).toArray] w fun e w' => e = .returned (.bool (hasL l g D)) ∧ w.grownBy w' none := by
  obtain ⟨ho, a, b, off, c, rfl, hc, Ha, Hc⟩ := hv.open
  have HCk : Hid (∀ u, w.grownBy u none → Calls Tryz.prog 18 #[.slice a l.length c] u fun e w' => e = .returned (.int .i64 (if chk l = true then 0 else 140)) ∧ u.grownBy w' none) := hid (fun u hu => rcheck_any u _ F l (hv.keep hu) (by omega))
  obtain ⟨n, HN⟩ : ∃ n, Hid (l.length = n) := ⟨_, hid rfl⟩
  have HO := hid ho
  have HLn : Hid (n ≤ 1000000) := hid (by rw [← HN.out]; exact hl)
  have HA : Hid (0 < n → a = some ⟨b, off, none⟩) := hid (fun h => (Ha.out (by rw [HN.out]; exact h)).1)
  rw [HN.out] at HCk hl ⊢
  obtain ⟨R, HR⟩ : ∃ R, Hid (hasL l g D = R) := ⟨_, hid rfl⟩
  have HRa : Hid (R = (chk l && (l.drop 0).any (hasP g D))) := hid (by rw [← HR.out]; exact hasL_any l g D)
  rw [HR.out]
  obtain ⟨C, HC⟩ : ∃ R, Hid (chk l = R) := ⟨_, hid rfl⟩
  rw [HC.out] at HCk HRa
  have HE0 : Hid (∀ q : Ky, q.id.length = 16 → ∀ (x y : Operand) (u : World), (do eqGuard .eql 69 x y (.agg (Lib.byteCells q.id).toArray) (.agg (Lib.byteCells D).toArray); binOp .eql 69 (.agg (Lib.byteCells q.id).toArray) (.agg (Lib.byteCells D).toArray) : Sem Value).run Tryz.prog u = .ok (.bool (q.id == D)) u) := hid (fun q hq x y u => eql_id _ _ hq hD u)
  have HDL : Hid ((Tryz.prog.info? 69).map (·.size) = some (Lib.byteCells D).length) := hid (size69' hD)
  obtain ⟨JD, HJD⟩ : ∃ x, Hid (Lib.byteCells D = x) := ⟨_, hid rfl⟩
  rw [HJD.out] at HDL HE0 ⊢
  clear hv hc ho Ha HR HC hD HJD
  cases C with
  | false =>
    have HC0 : Hid (∀ u, w.grownBy u none → Calls Tryz.prog 18 #[.slice a n c] u fun e w' => e = .returned (.int .i64 140) ∧ u.grownBy w' none) := hid (fun u hu => HCk.out u hu)
    have HRt : Hid (R = false) := hid (by rw [HRa.out]; rfl)
    clear HCk HRa
    go_enter Tryz.func20, Tryz.ntmps20
    go_wp2_with (first
      | ((with_reducible refine wpList_box_row (by with_unfolding_all rfl) 69 _ (by with_unfolding_all rfl) JD (by with_unfolding_all rfl) ?_); intro w0 B0 s0 g0; have HG0 := hid g0; clear B0 g0 s0)
      | (go_at_call 18; (with_reducible refine (HC0.out _ HG0.out).mono ?_); rintro e w1 ⟨rfl, gg⟩; have HG1 := hid (gtrans HG0.out gg); clear gg))
    go_ret
    exact ⟨by rw [HRt.out]; rfl, HG1.out⟩
  | true =>
    have HC0 : Hid (∀ u, w.grownBy u none → Calls Tryz.prog 18 #[.slice a n c] u fun e w' => e = .returned (.int .i64 0) ∧ u.grownBy w' none) := hid (fun u hu => HCk.out u hu)
    have HRb : Hid (R = (l.drop 0).any (hasP g D)) := hid (by rw [HRa.out]; rfl)
    clear HCk HRa
    go_enter Tryz.func20, Tryz.ntmps20
    go_wp2_with (first
      | ((with_reducible refine wpList_box_row (by with_unfolding_all rfl) 69 _ (by with_unfolding_all rfl) JD (by with_unfolding_all rfl) ?_); intro w0 B0 s0 g0; have HB0 := hid B0; have HG0 := hid g0; clear B0 g0 s0)
      | (go_at_call 18; (with_reducible refine (HC0.out _ HG0.out).mono ?_); rintro e w1 ⟨rfl, gg⟩; have HG1 := hid gg; clear gg))
    obtain ⟨b5, hb5⟩ : ∃ z, w.heap.size = z := ⟨_, rfl⟩
    rw [hb5] at HB0 ⊢
    clear hb5
    have HBx : Hid (∀ u, w1.grownBy u none → u.rangeAt b5 0 JD) := hid (fun u hu => ((HB0.out.keep HG1.out).keep hu).whole)
    have HG01 := hid (gtrans HG0.out HG1.out)
    clear HB0 HG0 HG1
    go_loopw [7] (fun iv wr => ∃ i : Nat, iv = .int .i64 i ∧ i ≤ n ∧ Hid (R = (l.drop i).any (hasP g D)) ∧ Hid (w1.grownBy wr none)) (fun iv _ => n - (intOf iv).toNat)
    case atStart => exact ⟨0, rfl, Nat.zero_le _, HRb, hid (grefl _ _)⟩
    case round =>
      clear HRb
      obtain ⟨i, rfl, hi, HRg, HG'⟩ := hrel
      have HG := HG'
      by_cases hlt : i < n
      · have hil : i < l.length := by rw [HN.out]; exact hlt
        have hlt' : (i : Int) < (n : Int) := by omega
        obtain rfl : a = some ⟨b, off, none⟩ := HA.out (by omega)
        have hko := HO.out _ (List.getElem_mem hil)
        have HQc : Hid (∀ u, w1.grownBy u none → u.cell? ⟨b, off + i * 19, none⟩ = some (.bool l[i].wh) ∧ u.cell? ⟨b, off + i * 19 + 1, none⟩ = some (.int .u64 l[i].g) ∧ u.rangeAt b (off + i * 19 + 2) (Lib.byteCells l[i].id)) := hid (fun u hu => by
          have h := (Hc.out u (gtrans HG01.out hu) i hil).1
          exact ⟨h 0 _ (Ky.c0 _), h 1 _ (Ky.c1 _), range_sub (A := [.bool l[i].wh, .int .u64 l[i].g]) (C := [.int .i64 l[i].ex]) h⟩)
        have HJL := hid (size69' hko.2.1)
        have HEq := hid (HE0.out l[i] hko.2.1)
        have HSt : Hid (R = (hasP g D l[i] || (l.drop (i + 1)).any (hasP g D))) := hid (by rw [HRg.out, List.drop_eq_getElem_cons hil, List.any_cons])
        have HPq : Hid (hasP g D l[i] = (l[i].g == g && (l[i].wh || l[i].id == D))) := hid rfl
        obtain ⟨q, hq⟩ : ∃ q, l[i] = q := ⟨_, rfl⟩
        rw [hq] at HQc HJL HEq HSt HPq
        rw [HPq.out] at HSt
        obtain ⟨qw, hqw⟩ : ∃ x, q.wh = x := ⟨_, rfl⟩
        obtain ⟨qg, hqg⟩ : ∃ x, q.g = x := ⟨_, rfl⟩
        obtain ⟨E, hE⟩ : ∃ x, (q.id == D) = x := ⟨_, rfl⟩
        rw [hqw, hqg] at HQc HSt
        rw [hE] at HEq HSt
        obtain ⟨J, HJ⟩ : ∃ x, Hid (Lib.byteCells q.id = x) := ⟨_, hid rfl⟩
        rw [HJ.out] at HQc HJL HEq
        have HIn := hid hlt
        obtain ⟨q0, q1, -⟩ := HQc.out wr HG.out
        clear hko hq HPq hqw hqg hE HJ HE0 HRg hi hlt hil
        by_cases hgg : qg = g
        · subst hgg
          have hgb : ((qg : Int) == (qg : Int)) = true := beq_self_eq_true _
          rw [beq_self_eq_true, Bool.true_and] at HSt
          cases qw with
          | true =>
            as_aux_lemma =>
            have HRt : Hid (R = true) := hid (by rw [HSt.out]; rfl)
            go_wp2_with fail
            go_quiet (fail)
            go_wp2_with fail
            go_ret
            exact ⟨by rw [HRt.out]; rfl, gtrans HG01.out (gtrans HG.out (gdrew _ _ _))⟩
          | false =>
            go_upto_region 6 with fail
            refine wp_region_listX (by kernel_rfl) [fun v _ => v = (Value.slice (some ⟨b, off, none⟩) n c), fun v _ => v = (Value.int .i64 (i : Nat)), fun v _ => v = (Value.pointer (some ⟨b, off + i * 19, none⟩)), fun v _ => v = (Value.pointer (some ⟨b, off + i * 19 + 1, none⟩)), fun v _ => v = (Value.int .u64 (qg : Nat)), fun v _ => v = (Value.int .u64 (qg : Nat)), fun v _ => v = (Value.bool true), fun v _ => v = (Value.bool true), fun v _ => v = (Value.slice (some ⟨b, off, none⟩) n c), fun v _ => v = (Value.int .i64 (i : Nat)), fun v _ => v = (Value.pointer (some ⟨b, off + i * 19, none⟩)), fun v _ => v = (Value.pointer (some ⟨b, off + i * 19, none⟩)), fun v _ => v = (Value.bool false), fun v _ => v = (Value.bool false), fun v _ => v = (Value.slice (some ⟨b, off, none⟩) n c), fun v _ => v = (Value.int .i64 (i : Nat)), fun v _ => v = (Value.pointer (some ⟨b, off + i * 19, none⟩)), fun v _ => v = (Value.pointer (some ⟨b, off + i * 19 + 2, none⟩)), fun v _ => v = (Value.agg J.toArray), fun v _ => v = (Value.agg JD.toArray), fun v _ => v = (Value.bool E), fun v _ => v = (Value.bool E), fun v _ => v = (Value.bool E)] (none) (fun _ => none) 23 (by kernel_rfl) (by kernel_rfl) (by kernel_rfl) (by kernel_rfl) (by decide) noRow_one (fun _ => .inl rfl) ⟨fun i v u u' hki h hg => h, fun i v u u' hki h hg => h, fun i v u u' hki h hg => h, fun i v u u' hki h hg => h, fun i v u u' hki h hg => h, fun i v u u' hki h hg => h, fun i v u u' hki h hg => h, fun i v u u' hki h hg => h, fun i v u u' hki h hg => h, fun i v u u' hki h hg => h, fun i v u u' hki h hg => h, fun i v u u' hki h hg => h, fun i v u u' hki h hg => h, fun i v u u' hki h hg => h, fun i v u u' hki h hg => h, fun i v u u' hki h hg => h, fun i v u u' hki h hg => h, fun i v u u' hki h hg => h, fun i v u u' hki h hg => h, fun i v u u' hki h hg => h, fun i v u u' hki h hg => h, fun i v u u' hki h hg => h, fun i v u u' hki h hg => h, trivial⟩ ⟨?_, ?_, ?_, ?_, ?_, ?_, ?_, ?_, ?_, ?_, ?_, ?_, ?_, ?_, ?_, ?_, ?_, ?_, ?_, ?_, ?_, ?_, ?_, trivial⟩ ?_
            · intro A u hu hpu hsz hout hdeps
              have e0 : A.eval (.tmp 0) = (.slice (some ⟨b, off, none⟩) n c) := (hout 0 (by kernel_rfl)).trans rfl
              refine ifw_none rfl ?_
              with_reducible refine shown_q (Value.slice (some ⟨b, off, none⟩) n c) ?qq_1h_0 (fun _ _ => ?qr_1h_0)
              case qr_1h_0 => exact (rfl : (Value.slice (some ⟨b, off, none⟩) n c) = (Value.slice (some ⟨b, off, none⟩) n c))
              with_reducible refine quietAt_mv (.tmp 0) (Value.slice (some ⟨b, off, none⟩) n c) ?h0_1h_0 ?h1_1h_0
              case h0_1h_0 => rfl
              case h1_1h_0 => exact e0
            · intro A u hu hpu hsz hout hdeps
              have e7 : A.eval (.tmp 7) = (.int .i64 (i : Nat)) := (hout 7 (by kernel_rfl)).trans rfl
              refine ifw_none rfl ?_
              with_reducible refine shown_q (Value.int .i64 (i : Nat)) ?qq_1h_1 (fun _ _ => ?qr_1h_1)
              case qr_1h_1 => exact (rfl : (Value.int .i64 (i : Nat)) = (Value.int .i64 (i : Nat)))
              with_reducible refine quietAt_mv (.tmp 7) (Value.int .i64 (i : Nat)) ?h0_1h_1 ?h1_1h_1
              case h0_1h_1 => rfl
              case h1_1h_1 => exact e7
            · intro A u hu hpu hsz hout hdeps
              have e17 : A.eval (.tmp 17) = (.slice (some ⟨b, off, none⟩) n c) := by have h := depL hdeps 0 (by kernel_rfl) 17 (by kernel_rfl); exact h
              have e18 : A.eval (.tmp 18) = (.int .i64 (i : Nat)) := by have h := depL hdeps 1 (by kernel_rfl) 18 (by kernel_rfl); exact h
              refine ifw_none rfl ?_
              with_reducible refine shown_q (Value.pointer (some ⟨b, off + i * 19, none⟩)) ?qq_1h_2 (fun _ _ => ?qr_1h_2)
              case qr_1h_2 => exact (rfl : (Value.pointer (some ⟨b, off + i * 19, none⟩)) = (Value.pointer (some ⟨b, off + i * 19, none⟩)))
              with_reducible refine quietAt_idx 57 (.tmp 17) (.tmp 18) (Value.slice (some ⟨b, off, none⟩) n c) (Value.int .i64 (i : Nat)) (Value.pointer (some ⟨b, off + i * 19, none⟩)) ?h0_1h_2 ?h1_1h_2 ?h2_1h_2 ?h3_1h_2
              case h0_1h_2 => rfl
              case h1_1h_2 => exact e17
              case h2_1h_2 => exact e18
              case h3_1h_2 => exact (idx23 b off n c i HIn.out u)
            · intro A u hu hpu hsz hout hdeps
              have e19 : A.eval (.tmp 19) = (.pointer (some ⟨b, off + i * 19, none⟩)) := by have h := depL hdeps 2 (by kernel_rfl) 19 (by kernel_rfl); exact h
              refine ifw_none rfl ?_
              with_reducible refine shown_q (Value.pointer (some ⟨b, off + i * 19 + 1, none⟩)) ?qq_1h_3 (fun _ _ => ?qr_1h_3)
              case qr_1h_3 => exact (rfl : (Value.pointer (some ⟨b, off + i * 19 + 1, none⟩)) = (Value.pointer (some ⟨b, off + i * 19 + 1, none⟩)))
              with_reducible refine quietAt_field 85 (.tmp 19) 1 ?h0_1h_3 ⟨b, off + i * 19, none⟩ ⟨b, off + i * 19 + 1, none⟩ ?h1_1h_3 ?h2_1h_3
              case h0_1h_3 => rfl
              case h1_1h_3 => exact e19
              case h2_1h_3 => kernel_rfl
            · intro A u hu hpu hsz hout hdeps
              have e20 : A.eval (.tmp 20) = (.pointer (some ⟨b, off + i * 19 + 1, none⟩)) := by have h := depL hdeps 3 (by kernel_rfl) 20 (by kernel_rfl); exact h
              refine ifw_none rfl ?_
              with_reducible refine shown_q (Value.int .u64 (qg : Nat)) ?qq_1h_4 (fun _ _ => ?qr_1h_4)
              case qr_1h_4 => exact (rfl : (Value.int .u64 (qg : Nat)) = (Value.int .u64 (qg : Nat)))
              with_reducible refine quietAt_ld 67 (.tmp 20) (Value.pointer (some ⟨b, off + i * 19 + 1, none⟩)) (Value.int .u64 (qg : Nat)) ?h0_1h_4 ?h1_1h_4 ?h2_1h_4
              case h0_1h_4 => rfl
              case h1_1h_4 => exact e20
              case h2_1h_4 => exact ld67 b (off + i * 19 + 1) qg u (HQc.out u (gtrans HG.out hu)).2.1
            · intro A u hu hpu hsz hout hdeps
              have e1 : A.eval (.tmp 1) = (.int .u64 (qg : Nat)) := (hout 1 (by kernel_rfl)).trans rfl
              refine ifw_none rfl ?_
              with_reducible refine shown_q (Value.int .u64 (qg : Nat)) ?qq_1h_5 (fun _ _ => ?qr_1h_5)
              case qr_1h_5 => exact (rfl : (Value.int .u64 (qg : Nat)) = (Value.int .u64 (qg : Nat)))
              with_reducible refine quietAt_mv (.tmp 1) (Value.int .u64 (qg : Nat)) ?h0_1h_5 ?h1_1h_5
              case h0_1h_5 => rfl
              case h1_1h_5 => exact e1
            · intro A u hu hpu hsz hout hdeps
              have e21 : A.eval (.tmp 21) = (.int .u64 (qg : Nat)) := by have h := depL hdeps 4 (by kernel_rfl) 21 (by kernel_rfl); exact h
              have e22 : A.eval (.tmp 22) = (.int .u64 (qg : Nat)) := by have h := depL hdeps 5 (by kernel_rfl) 22 (by kernel_rfl); exact h
              refine ifw_none rfl ?_
              with_reducible refine shown_q (Value.bool true) ?qq_1h_6 (fun _ _ => ?qr_1h_6)
              case qr_1h_6 => exact (rfl : (Value.bool true) = (Value.bool true))
              with_reducible refine quietAt_bin .eql 67 (.tmp 21) (.tmp 22) 67 (Value.int .u64 (qg : Nat)) (Value.int .u64 (qg : Nat)) (Value.bool true) ?h0_1h_6 ?h1_1h_6 ?h2_1h_6 ?h3_1h_6
              case h0_1h_6 => rfl
              case h1_1h_6 => exact e21
              case h2_1h_6 => exact e22
              case h3_1h_6 => exact (eqU qg u)
            · intro A u hu hpu hsz hout hdeps
              have e23 : A.eval (.tmp 23) = (.bool true) := by have h := depL hdeps 6 (by kernel_rfl) 23 (by kernel_rfl); exact h
              refine ifw_none rfl ?_
              with_reducible refine shown_q (Value.bool true) ?qq_1h_7 (fun _ _ => ?qr_1h_7)
              case qr_1h_7 => exact (rfl : (Value.bool true) = (Value.bool true))
              with_reducible refine quietAt_mv (.tmp 23) (Value.bool true) ?h0_1h_7 ?h1_1h_7
              case h0_1h_7 => rfl
              case h1_1h_7 => exact e23
            · intro A u hu hpu hsz hout hdeps
              have e24 : A.eval (.tmp 24) = (.bool true) := by have h := depL hdeps 7 (by kernel_rfl) 24 (by kernel_rfl); exact h
              have e0 : A.eval (.tmp 0) = (.slice (some ⟨b, off, none⟩) n c) := (hout 0 (by kernel_rfl)).trans rfl
              refine ifw_want 7 true 24 rfl rfl e24 ?_
              with_reducible refine shown_q (Value.slice (some ⟨b, off, none⟩) n c) ?qq_1h_8 (fun _ _ => ?qr_1h_8)
              case qr_1h_8 => exact (rfl : (Value.slice (some ⟨b, off, none⟩) n c) = (Value.slice (some ⟨b, off, none⟩) n c))
              with_reducible refine quietAt_mv (.tmp 0) (Value.slice (some ⟨b, off, none⟩) n c) ?h0_1h_8 ?h1_1h_8
              case h0_1h_8 => rfl
              case h1_1h_8 => exact e0
            · intro A u hu hpu hsz hout hdeps
              have e24 : A.eval (.tmp 24) = (.bool true) := by have h := depL hdeps 7 (by kernel_rfl) 24 (by kernel_rfl); exact h
              have e7 : A.eval (.tmp 7) = (.int .i64 (i : Nat)) := (hout 7 (by kernel_rfl)).trans rfl
              refine ifw_want 7 true 24 rfl rfl e24 ?_
              with_reducible refine shown_q (Value.int .i64 (i : Nat)) ?qq_1h_9 (fun _ _ => ?qr_1h_9)
              case qr_1h_9 => exact (rfl : (Value.int .i64 (i : Nat)) = (Value.int .i64 (i : Nat)))
              with_reducible refine quietAt_mv (.tmp 7) (Value.int .i64 (i : Nat)) ?h0_1h_9 ?h1_1h_9
              case h0_1h_9 => rfl
              case h1_1h_9 => exact e7
            · intro A u hu hpu hsz hout hdeps
              have e24 : A.eval (.tmp 24) = (.bool true) := by have h := depL hdeps 7 (by kernel_rfl) 24 (by kernel_rfl); exact h
              have e25 : A.eval (.tmp 25) = (.slice (some ⟨b, off, none⟩) n c) := by have h := depL hdeps 8 (by kernel_rfl) 25 (by kernel_rfl); exact h
              have e26 : A.eval (.tmp 26) = (.int .i64 (i : Nat)) := by have h := depL hdeps 9 (by kernel_rfl) 26 (by kernel_rfl); exact h
              refine ifw_want 7 true 24 rfl rfl e24 ?_
              with_reducible refine shown_q (Value.pointer (some ⟨b, off + i * 19, none⟩)) ?qq_1h_10 (fun _ _ => ?qr_1h_10)
              case qr_1h_10 => exact (rfl : (Value.pointer (some ⟨b, off + i * 19, none⟩)) = (Value.pointer (some ⟨b, off + i * 19, none⟩)))
              with_reducible refine quietAt_idx 57 (.tmp 25) (.tmp 26) (Value.slice (some ⟨b, off, none⟩) n c) (Value.int .i64 (i : Nat)) (Value.pointer (some ⟨b, off + i * 19, none⟩)) ?h0_1h_10 ?h1_1h_10 ?h2_1h_10 ?h3_1h_10
              case h0_1h_10 => rfl
              case h1_1h_10 => exact e25
              case h2_1h_10 => exact e26
              case h3_1h_10 => exact (idx23 b off n c i HIn.out u)
            · intro A u hu hpu hsz hout hdeps
              have e24 : A.eval (.tmp 24) = (.bool true) := by have h := depL hdeps 7 (by kernel_rfl) 24 (by kernel_rfl); exact h
              have e27 : A.eval (.tmp 27) = (.pointer (some ⟨b, off + i * 19, none⟩)) := by have h := depL hdeps 10 (by kernel_rfl) 27 (by kernel_rfl); exact h
              refine ifw_want 7 true 24 rfl rfl e24 ?_
              with_reducible refine shown_q (Value.pointer (some ⟨b, off + i * 19, none⟩)) ?qq_1h_11 (fun _ _ => ?qr_1h_11)
              case qr_1h_11 => exact (rfl : (Value.pointer (some ⟨b, off + i * 19, none⟩)) = (Value.pointer (some ⟨b, off + i * 19, none⟩)))
              with_reducible refine quietAt_field 85 (.tmp 27) 0 ?h0_1h_11 ⟨b, off + i * 19, none⟩ ⟨b, off + i * 19, none⟩ ?h1_1h_11 ?h2_1h_11
              case h0_1h_11 => rfl
              case h1_1h_11 => exact e27
              case h2_1h_11 => kernel_rfl
            · intro A u hu hpu hsz hout hdeps
              have e24 : A.eval (.tmp 24) = (.bool true) := by have h := depL hdeps 7 (by kernel_rfl) 24 (by kernel_rfl); exact h
              have e28 : A.eval (.tmp 28) = (.pointer (some ⟨b, off + i * 19, none⟩)) := by have h := depL hdeps 11 (by kernel_rfl) 28 (by kernel_rfl); exact h
              refine ifw_want 7 true 24 rfl rfl e24 ?_
              with_reducible refine shown_q (Value.bool false) ?qq_1h_12 (fun _ _ => ?qr_1h_12)
              case qr_1h_12 => exact (rfl : (Value.bool false) = (Value.bool false))
              with_reducible refine quietAt_ld 4 (.tmp 28) (Value.pointer (some ⟨b, off + i * 19, none⟩)) (Value.bool false) ?h0_1h_12 ?h1_1h_12 ?h2_1h_12
              case h0_1h_12 => rfl
              case h1_1h_12 => exact e28
              case h2_1h_12 => exact ld4 b (off + i * 19) false u (HQc.out u (gtrans HG.out hu)).1
            · intro A u hu hpu hsz hout hdeps
              have e24 : A.eval (.tmp 24) = (.bool true) := by have h := depL hdeps 7 (by kernel_rfl) 24 (by kernel_rfl); exact h
              have e29 : A.eval (.tmp 29) = (.bool false) := by have h := depL hdeps 12 (by kernel_rfl) 29 (by kernel_rfl); exact h
              refine ifw_want 7 true 24 rfl rfl e24 ?_
              with_reducible refine shown_q (Value.bool false) ?qq_1h_13 (fun _ _ => ?qr_1h_13)
              case qr_1h_13 => exact (rfl : (Value.bool false) = (Value.bool false))
              with_reducible refine quietAt_mv (.tmp 29) (Value.bool false) ?h0_1h_13 ?h1_1h_13
              case h0_1h_13 => rfl
              case h1_1h_13 => exact e29
            · intro A u hu hpu hsz hout hdeps
              have e30 : A.eval (.tmp 30) = (.bool false) := by have h := depL hdeps 13 (by kernel_rfl) 30 (by kernel_rfl); exact h
              have e0 : A.eval (.tmp 0) = (.slice (some ⟨b, off, none⟩) n c) := (hout 0 (by kernel_rfl)).trans rfl
              refine ifw_want 13 false 30 rfl rfl e30 ?_
              with_reducible refine shown_q (Value.slice (some ⟨b, off, none⟩) n c) ?qq_1h_14 (fun _ _ => ?qr_1h_14)
              case qr_1h_14 => exact (rfl : (Value.slice (some ⟨b, off, none⟩) n c) = (Value.slice (some ⟨b, off, none⟩) n c))
              with_reducible refine quietAt_mv (.tmp 0) (Value.slice (some ⟨b, off, none⟩) n c) ?h0_1h_14 ?h1_1h_14
              case h0_1h_14 => rfl
              case h1_1h_14 => exact e0
            · intro A u hu hpu hsz hout hdeps
              have e30 : A.eval (.tmp 30) = (.bool false) := by have h := depL hdeps 13 (by kernel_rfl) 30 (by kernel_rfl); exact h
              have e7 : A.eval (.tmp 7) = (.int .i64 (i : Nat)) := (hout 7 (by kernel_rfl)).trans rfl
              refine ifw_want 13 false 30 rfl rfl e30 ?_
              with_reducible refine shown_q (Value.int .i64 (i : Nat)) ?qq_1h_15 (fun _ _ => ?qr_1h_15)
              case qr_1h_15 => exact (rfl : (Value.int .i64 (i : Nat)) = (Value.int .i64 (i : Nat)))
              with_reducible refine quietAt_mv (.tmp 7) (Value.int .i64 (i : Nat)) ?h0_1h_15 ?h1_1h_15
              case h0_1h_15 => rfl
              case h1_1h_15 => exact e7
            · intro A u hu hpu hsz hout hdeps
              have e30 : A.eval (.tmp 30) = (.bool false) := by have h := depL hdeps 13 (by kernel_rfl) 30 (by kernel_rfl); exact h
              have e31 : A.eval (.tmp 31) = (.slice (some ⟨b, off, none⟩) n c) := by have h := depL hdeps 14 (by kernel_rfl) 31 (by kernel_rfl); exact h
              have e32 : A.eval (.tmp 32) = (.int .i64 (i : Nat)) := by have h := depL hdeps 15 (by kernel_rfl) 32 (by kernel_rfl); exact h
              refine ifw_want 13 false 30 rfl rfl e30 ?_
              with_reducible refine shown_q (Value.pointer (some ⟨b, off + i * 19, none⟩)) ?qq_1h_16 (fun _ _ => ?qr_1h_16)
              case qr_1h_16 => exact (rfl : (Value.pointer (some ⟨b, off + i * 19, none⟩)) = (Value.pointer (some ⟨b, off + i * 19, none⟩)))
              with_reducible refine quietAt_idx 57 (.tmp 31) (.tmp 32) (Value.slice (some ⟨b, off, none⟩) n c) (Value.int .i64 (i : Nat)) (Value.pointer (some ⟨b, off + i * 19, none⟩)) ?h0_1h_16 ?h1_1h_16 ?h2_1h_16 ?h3_1h_16
              case h0_1h_16 => rfl
              case h1_1h_16 => exact e31
              case h2_1h_16 => exact e32
              case h3_1h_16 => exact (idx23 b off n c i HIn.out u)
            · intro A u hu hpu hsz hout hdeps
              have e30 : A.eval (.tmp 30) = (.bool false) := by have h := depL hdeps 13 (by kernel_rfl) 30 (by kernel_rfl); exact h
              have e33 : A.eval (.tmp 33) = (.pointer (some ⟨b, off + i * 19, none⟩)) := by have h := depL hdeps 16 (by kernel_rfl) 33 (by kernel_rfl); exact h
              refine ifw_want 13 false 30 rfl rfl e30 ?_
              with_reducible refine shown_q (Value.pointer (some ⟨b, off + i * 19 + 2, none⟩)) ?qq_1h_17 (fun _ _ => ?qr_1h_17)
              case qr_1h_17 => exact (rfl : (Value.pointer (some ⟨b, off + i * 19 + 2, none⟩)) = (Value.pointer (some ⟨b, off + i * 19 + 2, none⟩)))
              with_reducible refine quietAt_field 85 (.tmp 33) 2 ?h0_1h_17 ⟨b, off + i * 19, none⟩ ⟨b, off + i * 19 + 2, none⟩ ?h1_1h_17 ?h2_1h_17
              case h0_1h_17 => rfl
              case h1_1h_17 => exact e33
              case h2_1h_17 => kernel_rfl
            · intro A u hu hpu hsz hout hdeps
              have e30 : A.eval (.tmp 30) = (.bool false) := by have h := depL hdeps 13 (by kernel_rfl) 30 (by kernel_rfl); exact h
              have e34 : A.eval (.tmp 34) = (.pointer (some ⟨b, off + i * 19 + 2, none⟩)) := by have h := depL hdeps 17 (by kernel_rfl) 34 (by kernel_rfl); exact h
              refine ifw_want 13 false 30 rfl rfl e30 ?_
              with_reducible refine shown_q (Value.agg J.toArray) ?qq_1h_18 (fun _ _ => ?qr_1h_18)
              case qr_1h_18 => exact (rfl : (Value.agg J.toArray) = (Value.agg J.toArray))
              with_reducible refine quietAt_load 69 (.tmp 34) ?h0_1h_18 b (off + i * 19 + 2) J (.array 16 5) ?h1_1h_18 ?h2_1h_18 ?h3_1h_18 ?h4_1h_18 ?h5_1h_18
              case h0_1h_18 => rfl
              case h1_1h_18 => exact e34
              case h2_1h_18 => exact (HQc.out u (gtrans HG.out hu)).2.2
              case h3_1h_18 => exact Tryz.underlying69
              case h4_1h_18 => rfl
              case h5_1h_18 => exact HJL.out
            · intro A u hu hpu hsz hout hdeps
              have e30 : A.eval (.tmp 30) = (.bool false) := by have h := depL hdeps 13 (by kernel_rfl) 30 (by kernel_rfl); exact h
              have e5 : A.eval (.tmp 5) = (.pointer (some ⟨b5, 0, none⟩)) := (hout 5 (by kernel_rfl)).trans rfl
              refine ifw_want 13 false 30 rfl rfl e30 ?_
              with_reducible refine shown_q (Value.agg JD.toArray) ?qq_1h_19 (fun _ _ => ?qr_1h_19)
              case qr_1h_19 => exact (rfl : (Value.agg JD.toArray) = (Value.agg JD.toArray))
              with_reducible refine quietAt_load 69 (.tmp 5) ?h0_1h_19 b5 0 JD (.array 16 5) ?h1_1h_19 ?h2_1h_19 ?h3_1h_19 ?h4_1h_19 ?h5_1h_19
              case h0_1h_19 => rfl
              case h1_1h_19 => exact e5
              case h2_1h_19 => exact (HBx.out u (gtrans HG.out hu))
              case h3_1h_19 => exact Tryz.underlying69
              case h4_1h_19 => rfl
              case h5_1h_19 => exact HDL.out
            · intro A u hu hpu hsz hout hdeps
              have e30 : A.eval (.tmp 30) = (.bool false) := by have h := depL hdeps 13 (by kernel_rfl) 30 (by kernel_rfl); exact h
              have e35 : A.eval (.tmp 35) = (.agg J.toArray) := by have h := depL hdeps 18 (by kernel_rfl) 35 (by kernel_rfl); exact h
              have e36 : A.eval (.tmp 36) = (.agg JD.toArray) := by have h := depL hdeps 19 (by kernel_rfl) 36 (by kernel_rfl); exact h
              refine ifw_want 13 false 30 rfl rfl e30 ?_
              with_reducible refine shown_q (Value.bool E) ?qq_1h_20 (fun _ _ => ?qr_1h_20)
              case qr_1h_20 => exact (rfl : (Value.bool E) = (Value.bool E))
              with_reducible refine quietAt_bin .eql 69 (.tmp 35) (.tmp 36) 69 (Value.agg J.toArray) (Value.agg JD.toArray) (Value.bool E) ?h0_1h_20 ?h1_1h_20 ?h2_1h_20 ?h3_1h_20
              case h0_1h_20 => rfl
              case h1_1h_20 => exact e35
              case h2_1h_20 => exact e36
              case h3_1h_20 => exact HEq.out _ _ u
            · intro A u hu hpu hsz hout hdeps
              have e24 : A.eval (.tmp 24) = (.bool true) := by have h := depL hdeps 7 (by kernel_rfl) 24 (by kernel_rfl); exact h
              have e30 : A.eval (.tmp 30) = (.bool false) := by have h := depL hdeps 13 (by kernel_rfl) 30 (by kernel_rfl); exact h
              have e37 : A.eval (.tmp 37) = (.bool E) := by have h := depL hdeps 20 (by kernel_rfl) 37 (by kernel_rfl); exact h
              refine ifw_want 7 true 24 rfl rfl e24 ?_
              with_reducible refine shown_q (Value.bool E) ?qq_1h_21 (fun _ _ => ?qr_1h_21)
              case qr_1h_21 => exact (rfl : (Value.bool E) = (Value.bool E))
              with_reducible refine quietAt_pick (.tmp 30) (.const (.bool true)) (.tmp 37) false (Value.bool E) ?h0_1h_21 ?h1_1h_21 ?h2_1h_21
              case h0_1h_21 => rfl
              case h1_1h_21 => exact e30
              case h2_1h_21 => rw [if_neg (by decide)]; exact e37
            · intro A u hu hpu hsz hout hdeps
              have e24 : A.eval (.tmp 24) = (.bool true) := by have h := depL hdeps 7 (by kernel_rfl) 24 (by kernel_rfl); exact h
              have e38 : A.eval (.tmp 38) = (.bool E) := by have h := depL hdeps 21 (by kernel_rfl) 38 (by kernel_rfl); exact h
              refine ifw_none rfl ?_
              with_reducible refine shown_q (Value.bool E) ?qq_1h_22 (fun _ _ => ?qr_1h_22)
              case qr_1h_22 => exact (rfl : (Value.bool E) = (Value.bool E))
              with_reducible refine quietAt_pick (.tmp 24) (.tmp 38) (.const (.bool false)) true (Value.bool E) ?h0_1h_22 ?h1_1h_22 ?h2_1h_22
              case h0_1h_22 => rfl
              case h1_1h_22 => exact e24
              case h2_1h_22 => rw [if_pos rfl]; exact e38
            · intro A u8 listed hh hall
              have hA := hh.frame
              have HU := hid hh.grown
              obtain ⟨x17, hx17⟩ : ∃ x, A.eval (.tmp 17) = x := ⟨_, rfl⟩
              have f17 : (fun v _ => v = (Value.slice (some ⟨b, off, none⟩) n c)) x17 u8 := by rw [← hx17]; exact hh.got 0 _ 17 rfl rfl (hall 0 (by decide))
              obtain ⟨x18, hx18⟩ : ∃ x, A.eval (.tmp 18) = x := ⟨_, rfl⟩
              have f18 : (fun v _ => v = (Value.int .i64 (i : Nat))) x18 u8 := by rw [← hx18]; exact hh.got 1 _ 18 rfl rfl (hall 1 (by decide))
              obtain ⟨x19, hx19⟩ : ∃ x, A.eval (.tmp 19) = x := ⟨_, rfl⟩
              have f19 : (fun v _ => v = (Value.pointer (some ⟨b, off + i * 19, none⟩))) x19 u8 := by rw [← hx19]; exact hh.got 2 _ 19 rfl rfl (hall 2 (by decide))
              obtain ⟨x20, hx20⟩ : ∃ x, A.eval (.tmp 20) = x := ⟨_, rfl⟩
              have f20 : (fun v _ => v = (Value.pointer (some ⟨b, off + i * 19 + 1, none⟩))) x20 u8 := by rw [← hx20]; exact hh.got 3 _ 20 rfl rfl (hall 3 (by decide))
              obtain ⟨x21, hx21⟩ : ∃ x, A.eval (.tmp 21) = x := ⟨_, rfl⟩
              have f21 : (fun v _ => v = (Value.int .u64 (qg : Nat))) x21 u8 := by rw [← hx21]; exact hh.got 4 _ 21 rfl rfl (hall 4 (by decide))
              obtain ⟨x22, hx22⟩ : ∃ x, A.eval (.tmp 22) = x := ⟨_, rfl⟩
              have f22 : (fun v _ => v = (Value.int .u64 (qg : Nat))) x22 u8 := by rw [← hx22]; exact hh.got 5 _ 22 rfl rfl (hall 5 (by decide))
              obtain ⟨x23, hx23⟩ : ∃ x, A.eval (.tmp 23) = x := ⟨_, rfl⟩
              have f23 : (fun v _ => v = (Value.bool true)) x23 u8 := by rw [← hx23]; exact hh.got 6 _ 23 rfl rfl (hall 6 (by decide))
              obtain ⟨x24, hx24⟩ : ∃ x, A.eval (.tmp 24) = x := ⟨_, rfl⟩
              have f24 : (fun v _ => v = (Value.bool true)) x24 u8 := by rw [← hx24]; exact hh.got 7 _ 24 rfl rfl (hall 7 (by decide))
              obtain ⟨x25, hx25⟩ : ∃ x, A.eval (.tmp 25) = x := ⟨_, rfl⟩
              have f25 : (fun v _ => v = (Value.slice (some ⟨b, off, none⟩) n c)) x25 u8 := by rw [← hx25]; exact hh.got 8 _ 25 rfl rfl (hall 8 (by decide))
              obtain ⟨x26, hx26⟩ : ∃ x, A.eval (.tmp 26) = x := ⟨_, rfl⟩
              have f26 : (fun v _ => v = (Value.int .i64 (i : Nat))) x26 u8 := by rw [← hx26]; exact hh.got 9 _ 26 rfl rfl (hall 9 (by decide))
              obtain ⟨x27, hx27⟩ : ∃ x, A.eval (.tmp 27) = x := ⟨_, rfl⟩
              have f27 : (fun v _ => v = (Value.pointer (some ⟨b, off + i * 19, none⟩))) x27 u8 := by rw [← hx27]; exact hh.got 10 _ 27 rfl rfl (hall 10 (by decide))
              obtain ⟨x28, hx28⟩ : ∃ x, A.eval (.tmp 28) = x := ⟨_, rfl⟩
              have f28 : (fun v _ => v = (Value.pointer (some ⟨b, off + i * 19, none⟩))) x28 u8 := by rw [← hx28]; exact hh.got 11 _ 28 rfl rfl (hall 11 (by decide))
              obtain ⟨x29, hx29⟩ : ∃ x, A.eval (.tmp 29) = x := ⟨_, rfl⟩
              have f29 : (fun v _ => v = (Value.bool false)) x29 u8 := by rw [← hx29]; exact hh.got 12 _ 29 rfl rfl (hall 12 (by decide))
              obtain ⟨x30, hx30⟩ : ∃ x, A.eval (.tmp 30) = x := ⟨_, rfl⟩
              have f30 : (fun v _ => v = (Value.bool false)) x30 u8 := by rw [← hx30]; exact hh.got 13 _ 30 rfl rfl (hall 13 (by decide))
              obtain ⟨x31, hx31⟩ : ∃ x, A.eval (.tmp 31) = x := ⟨_, rfl⟩
              have f31 : (fun v _ => v = (Value.slice (some ⟨b, off, none⟩) n c)) x31 u8 := by rw [← hx31]; exact hh.got 14 _ 31 rfl rfl (hall 14 (by decide))
              obtain ⟨x32, hx32⟩ : ∃ x, A.eval (.tmp 32) = x := ⟨_, rfl⟩
              have f32 : (fun v _ => v = (Value.int .i64 (i : Nat))) x32 u8 := by rw [← hx32]; exact hh.got 15 _ 32 rfl rfl (hall 15 (by decide))
              obtain ⟨x33, hx33⟩ : ∃ x, A.eval (.tmp 33) = x := ⟨_, rfl⟩
              have f33 : (fun v _ => v = (Value.pointer (some ⟨b, off + i * 19, none⟩))) x33 u8 := by rw [← hx33]; exact hh.got 16 _ 33 rfl rfl (hall 16 (by decide))
              obtain ⟨x34, hx34⟩ : ∃ x, A.eval (.tmp 34) = x := ⟨_, rfl⟩
              have f34 : (fun v _ => v = (Value.pointer (some ⟨b, off + i * 19 + 2, none⟩))) x34 u8 := by rw [← hx34]; exact hh.got 17 _ 34 rfl rfl (hall 17 (by decide))
              obtain ⟨x35, hx35⟩ : ∃ x, A.eval (.tmp 35) = x := ⟨_, rfl⟩
              have f35 : (fun v _ => v = (Value.agg J.toArray)) x35 u8 := by rw [← hx35]; exact hh.got 18 _ 35 rfl rfl (hall 18 (by decide))
              obtain ⟨x36, hx36⟩ : ∃ x, A.eval (.tmp 36) = x := ⟨_, rfl⟩
              have f36 : (fun v _ => v = (Value.agg JD.toArray)) x36 u8 := by rw [← hx36]; exact hh.got 19 _ 36 rfl rfl (hall 19 (by decide))
              obtain ⟨x37, hx37⟩ : ∃ x, A.eval (.tmp 37) = x := ⟨_, rfl⟩
              have f37 : (fun v _ => v = (Value.bool E)) x37 u8 := by rw [← hx37]; exact hh.got 20 _ 37 rfl rfl (hall 20 (by decide))
              obtain ⟨x38, hx38⟩ : ∃ x, A.eval (.tmp 38) = x := ⟨_, rfl⟩
              have f38 : (fun v _ => v = (Value.bool E)) x38 u8 := by rw [← hx38]; exact hh.got 21 _ 38 rfl rfl (hall 21 (by decide))
              obtain ⟨x39, hx39⟩ : ∃ x, A.eval (.tmp 39) = x := ⟨_, rfl⟩
              have f39 : (fun v _ => v = (Value.bool E)) x39 u8 := by rw [← hx39]; exact hh.got 22 _ 39 rfl rfl (hall 22 (by decide))
              dsimp only [wrote, List.foldl] at hA
              rw [hx17, hx18, hx19, hx20, hx21, hx22, hx23, hx24, hx25, hx26, hx27, hx28, hx29, hx30, hx31, hx32, hx33, hx34, hx35, hx36, hx37, hx38, hx39] at hA
              clear hh hall hx17 hx18 hx19 hx20 hx21 hx22 hx23 hx24 hx25 hx26 hx27 hx28 hx29 hx30 hx31 hx32 hx33 hx34 hx35 hx36 hx37 hx38 hx39
              replace f17 := (f17 : x17 = (.slice (some ⟨b, off, none⟩) n c))
              subst f17
              replace f18 := (f18 : x18 = (.int .i64 (i : Nat)))
              subst f18
              replace f19 := (f19 : x19 = (.pointer (some ⟨b, off + i * 19, none⟩)))
              subst f19
              replace f20 := (f20 : x20 = (.pointer (some ⟨b, off + i * 19 + 1, none⟩)))
              subst f20
              replace f21 := (f21 : x21 = (.int .u64 (qg : Nat)))
              subst f21
              replace f22 := (f22 : x22 = (.int .u64 (qg : Nat)))
              subst f22
              replace f23 := (f23 : x23 = (.bool true))
              subst f23
              replace f24 := (f24 : x24 = (.bool true))
              subst f24
              replace f25 := (f25 : x25 = (.slice (some ⟨b, off, none⟩) n c))
              subst f25
              replace f26 := (f26 : x26 = (.int .i64 (i : Nat)))
              subst f26
              replace f27 := (f27 : x27 = (.pointer (some ⟨b, off + i * 19, none⟩)))
              subst f27
              replace f28 := (f28 : x28 = (.pointer (some ⟨b, off + i * 19, none⟩)))
              subst f28
              replace f29 := (f29 : x29 = (.bool false))
              subst f29
              replace f30 := (f30 : x30 = (.bool false))
              subst f30
              replace f31 := (f31 : x31 = (.slice (some ⟨b, off, none⟩) n c))
              subst f31
              replace f32 := (f32 : x32 = (.int .i64 (i : Nat)))
              subst f32
              replace f33 := (f33 : x33 = (.pointer (some ⟨b, off + i * 19, none⟩)))
              subst f33
              replace f34 := (f34 : x34 = (.pointer (some ⟨b, off + i * 19 + 2, none⟩)))
              subst f34
              replace f35 := (f35 : x35 = (.agg J.toArray))
              subst f35
              replace f36 := (f36 : x36 = (.agg JD.toArray))
              subst f36
              replace f37 := (f37 : x37 = (.bool E))
              subst f37
              replace f38 := (f38 : x38 = (.bool E))
              subst f38
              replace f39 := (f39 : x39 = (.bool E))
              subst f39
              subst hA
              show wpList _ _ _ [] _ _
              unfold wpList
              simp only [Act.put, List.setIfInBounds_toArray, List.set_cons_succ, List.set_cons_zero]
              have HUz := hid (gtrans HG.out HU.out)
              clear HU
              cases E with
              | true =>
                as_aux_lemma =>
                have HRt : Hid (R = true) := hid (by rw [HSt.out]; rfl)
                go_wp2_with fail
                go_ret
                exact ⟨by rw [HRt.out]; rfl, (gtrans HG01.out HUz.out)⟩
              | false =>
                as_aux_lemma =>
                have HRt : Hid (R = (l.drop (i + 1)).any (hasP qg D)) := hid (by rw [HSt.out]; rfl)
                go_wp2_with fail
                go_roundw
                case rel => exact ⟨i + 1, by go_num, by have := HIn.out; omega, HRt, HUz⟩
                case measure => have := HIn.out; simp [intOf]; omega
        · as_aux_lemma =>
          have hgb : ((qg : Int) == (g : Int)) = false := beq_eq_false_iff_ne.2 (by omega)
          have hgb2 : ¬ (qg : Int) = (g : Int) := by omega
          have HRt : Hid (R = (l.drop (i + 1)).any (hasP g D)) := hid (by rw [HSt.out, beq_eq_false_iff_ne.2 hgg]; rfl)
          go_wp2_with fail
          go_quiet (fail)
          go_wp2_with fail
          go_roundw
          case rel => exact ⟨i + 1, by go_num, by have := HIn.out; omega, HRt, hid (gtrans HG.out (gdrew _ _ _))⟩
          case measure => have := HIn.out; simp [intOf]; omega
      · have hlt' : ¬ (i : Int) < (n : Int) := by omega
        have HRf : Hid (R = false) := hid (by rw [HRg.out, List.drop_of_length_le (by rw [HN.out]; omega)]; rfl)
        go_wp2_with fail
        go_ret
        exact ⟨by rw [HRf.out]; rfl, gtrans HG01.out HG.out⟩
end Go.Proofs.YtlgjmhemgfjgnaaGreat
