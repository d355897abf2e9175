/- The reference's Add. -/
import Derived.Test.YtlgjmhemgfjgnaaGreatXGp
import Derived.Test.YtlgjmhemgfjgnaaGreatVQ
import Derived.Test.YtlgjmhemgfjgnaaGreatX04
namespace Go.Proofs.YtlgjmhemgfjgnaaGreat
open Go Go.RowKit
open Go.RowKit (wrap32 wrap64)

theorem idx57z (b n c i : Nat) (h : i < n) (u : World) : (Instr.indexAt 57 (.slice (some ⟨b, 0, none⟩) n c) (.int .i64 (i : Nat))).run Tryz.prog u = .ok (.pointer (some ⟨b, i * 19, none⟩)) u := by
  have := idx23 b 0 n c i h u
  rw [Nat.zero_add] at this
  exact this
set_option maxRecDepth 100000 in
set_option maxHeartbeats 6400000 in
theorem radd_any (w : World) (v : Value) (F : Nat → Prop) (l : List Ky) (g : Nat) (D : List UInt8) (ex : Int) (hD : D.length = 16) (hv : RdK w F v l) (hl : l.length ≤ 1000000) (hg : g < 18446744073709551616) (hex : -9223372036854775808 ≤ ex ∧ ex ≤ 9223372036854775807) :
    Calls Tryz.prog 21 #[v, .int .u64 g, .agg (Lib.byteCells D).toArray, .int .i64 ex] w fun e w' => ∃ v', e = .returned v' ∧ OutK w.heap.size w' v' (addL l g D ex) ∧ w.grownBy w' none := by
  obtain ⟨ho, a, b, off, c, rfl, hc, Ha, Hc⟩ := hv.open
  have HCk : Hid (∀ u, w.grownBy u none → Calls Tryz.prog 18 #[.slice a l.length c] u fun e w' => e = .returned (.int .i64 (if chk l = true then 0 else 140)) ∧ u.grownBy w' none) := hid (fun u hu => rcheck_any u _ F l (hv.keep hu) (by omega))
  obtain ⟨n, HN⟩ : ∃ n, Hid (l.length = n) := ⟨_, hid rfl⟩
  have HO := hid ho
  have HLn : Hid (n ≤ 1000000) := hid (by rw [← HN.out]; exact hl)
  have HA : Hid (0 < n → a = some ⟨b, off, none⟩) := hid (fun h => (Ha.out (by rw [HN.out]; exact h)).1)
  rw [HN.out] at HCk hl ⊢
  have HPa : Hid (chk l = true → l.any (hasP g D) = false → layL ⟨false, g, D, ex⟩ false l = addL l g D ex) := hid (fun h q => add_a HO.out h g hD ex q)
  have HPb : Hid (chk l = true → ∀ i (h : i < l.length), l[i].g = g → l[i].wh = true → addL l g D ex = l) := hid (fun h i hi q1 q2 => add_b h g D ex i hi q1 q2)
  have HPc : Hid (chk l = true → ∀ i (h : i < l.length), (l.take i).any (hasP g D) = false → l[i].g = g → l[i].wh = false → l[i].id = D → l.set i ⟨l[i].wh, l[i].g, l[i].id, mx ex l[i].ex⟩ = addL l g D ex) := hid (fun h i hi q1 q2 q3 q4 => add_c HO.out h g hD ex i hi q1 q2 q3 q4)
  have HPf : Hid (chk l = false → addL l g D ex = []) := hid (fun h => by unfold addL; rw [h, if_neg (by decide)])
  have HB1 : Hid (Tryz.prog.built 85 [(1, .int .u64 (g : Int)), (2, .agg (Lib.byteCells D).toArray), (3, .int .i64 ex)] = some (Ky.mk false g D ex).cells.toArray) := hid (built_add g D ex hD)
  have HLa : Hid (∀ (u : World) (y : Value), OutK w.heap.size u y l → Calls Tryz.prog 37 #[y, .agg (Ky.mk false g D ex).cells.toArray] u fun e w' => ∃ v', e = .returned v' ∧ OutK u.heap.size w' v' (layL (Ky.mk false g D ex) false l) ∧ u.grownBy w' none) := hid (fun u y h => rlaid_any u y _ l _ h.rd ⟨hg, hD, hex⟩ (by rw [HN.out]; exact HLn.out))
  have HCp : Hid (∀ u, w.grownBy u none → Calls Tryz.prog 4 #[.slice a n c] u fun e w' => ∃ v', e = .returned v' ∧ OutK u.heap.size w' v' l ∧ u.grownBy w' none) := hid (fun u hu => by
    have := copyKeys_any u _ F l (hv.keep hu) (by rw [HN.out]; have := HLn.out; omega)
    rw [HN.out] at this
    exact this)
  obtain ⟨T, HT⟩ : ∃ T, Hid (addL l g D ex = T) := ⟨_, hid rfl⟩
  rw [HT.out] at HPa HPb HPc HPf ⊢
  obtain ⟨R, HR⟩ : ∃ R, Hid (chk l = R) := ⟨_, hid rfl⟩
  rw [HR.out] at HPa HPb HPc HPf HCk
  have HE0 : Hid (∀ q : Ky, q.id.length = 16 → ∀ (x y : Operand) (u : World), (do eqGuard .eql 69 x y (.agg (Lib.byteCells q.id).toArray) (.agg (Lib.byteCells D).toArray); binOp .eql 69 (.agg (Lib.byteCells q.id).toArray) (.agg (Lib.byteCells D).toArray) : Sem Value).run Tryz.prog u = .ok (.bool (q.id == D)) u) := hid (fun q hq x y u => eql_id _ _ hq hD u)
  have HDL : Hid ((Tryz.prog.info? 69).map (·.size) = some (Lib.byteCells D).length) := hid (size69' hD)
  have HEx := hid hex
  obtain ⟨JD, HJD⟩ : ∃ x, Hid (Lib.byteCells D = x) := ⟨_, hid rfl⟩
  rw [HJD.out] at HDL HE0 HB1 ⊢
  obtain ⟨KM, HKM⟩ : ∃ x, Hid ((Ky.mk false g D ex).cells = x) := ⟨_, hid rfl⟩
  rw [HKM.out] at HB1 HLa
  clear hv hc ho Ha HT HR hg hex hD HA HKM Hc
  cases R with
  | false =>
    have HC0 : Hid (∀ u, w.grownBy u none → Calls Tryz.prog 18 #[.slice a n c] u fun e w' => e = .returned (.int .i64 140) ∧ u.grownBy w' none) := hid (fun u hu => HCk.out u hu)
    have hT := HPf.out rfl
    subst hT
    clear HPa HPb HPc HPf HCk
    go_enter Tryz.func21, Tryz.ntmps21
    go_wp2_with (first
      | ((with_reducible refine wpList_box_row (by with_unfolding_all rfl) 69 _ (by with_unfolding_all rfl) JD (by with_unfolding_all rfl) ?_); intro w0 B0 s0 g0; have HG0 := hid g0; clear B0 g0 s0)
      | (go_at_call 18; (with_reducible refine (HC0.out _ HG0.out).mono ?_); rintro e w1 ⟨rfl, gg⟩; have HG1 := hid (gtrans HG0.out gg); clear gg))
    go_ret
    exact ⟨_, rfl, OutK.nil _ _, HG1.out⟩
  | true =>
    have HC0 : Hid (∀ u, w.grownBy u none → Calls Tryz.prog 18 #[.slice a n c] u fun e w' => e = .returned (.int .i64 0) ∧ u.grownBy w' none) := hid (fun u hu => HCk.out u hu)
    have HQa := hid (HPa.out rfl)
    have HQb := hid (HPb.out rfl)
    have HQd := hid (HPc.out rfl)
    clear HPa HPb HPc HPf HCk
    go_enter Tryz.func21, Tryz.ntmps21
    go_wp2_with (first
      | ((with_reducible refine wpList_box_row (by with_unfolding_all rfl) 69 _ (by with_unfolding_all rfl) JD (by with_unfolding_all rfl) ?_); intro w0 B0 s0 g0; have HB0 := hid B0; have HG0 := hid g0; clear B0 g0 s0)
      | (go_at_call 18; (with_reducible refine (HC0.out _ HG0.out).mono ?_); rintro e w1 ⟨rfl, gg⟩; have HG1 := hid gg; clear gg)
      | (go_at_call 4; (with_reducible refine (HCp.out _ (gtrans HG0.out HG1.out)).mono ?_); rintro e w2 ⟨v2, rfl, ho2, hg2⟩; have HO2 := hid (ho2.below (gtrans HG0.out HG1.out).size); have HG2 := hid hg2; obtain ⟨a9, c9, e9⟩ := ho2.form HN.out; subst e9; clear ho2 hg2))
    obtain ⟨b6, hb6⟩ : ∃ z, w.heap.size = z := ⟨_, rfl⟩
    have HS6 := hid hb6
    rw [hb6] at HB0 HO2 HLa ⊢
    clear hb6
    have HBx : Hid (∀ u, w2.grownBy u none → u.rangeAt b6 0 JD) := hid (fun u hu => ((HB0.out.keep (gtrans HG1.out HG2.out)).keep hu).whole)
    have HG02 := hid (gtrans (gtrans HG0.out HG1.out) HG2.out)
    have HOp : Hid (0 < n → ∃ gb rest, a9 = some ⟨gb, 0, none⟩ ∧ b6 ≤ gb ∧ n ≤ c9 ∧ c9 ≤ maxLen ∧ Blk w2 gb (kcs l ++ rest) 85 ∧ (kcs l ++ rest).length = c9 * 19) := hid (fun h => by
      rcases HO2.out.open with ⟨-, q⟩ | ⟨gb, cap, rest, e, q1, q2, q3, q4, q5⟩
      · rw [q] at HN; have := HN.out; simp at this; omega
      · injection e with e1 e2 e3
        subst e3
        exact ⟨gb, rest, e1, q1, by rw [← HN.out]; exact q2, q3, q4, q5⟩)
    clear HB0 HG0 HG1 HG2 HC0 HCp
    go_loopw [10] (fun iv wr => ∃ i : Nat, iv = .int .i64 i ∧ i ≤ n ∧ Hid ((l.take i).any (hasP g D) = false) ∧ Hid (w2.grownBy wr none)) (fun iv _ => n - (intOf iv).toNat)
    case atStart => exact ⟨0, rfl, Nat.zero_le _, hid rfl, hid (grefl _ _)⟩
    case round =>
      obtain ⟨i, rfl, hi, HNo, HG'⟩ := hrel
      have HG := HG'
      by_cases hlt : i < n
      · have hil : i < l.length := by rw [HN.out]; exact hlt
        have hlt' : (i : Int) < (n : Int) := by omega
        obtain ⟨gb, rest, rfl, hbb, hnc, hcm, hBk, hBl⟩ := HOp.out (by omega)
        have HBg := hid hBk
        have hko := HO.out _ (List.getElem_mem hil)
        have HQc : Hid (∀ u, w2.grownBy u none → u.cell? ⟨gb, i * 19, none⟩ = some (.bool l[i].wh) ∧ u.cell? ⟨gb, i * 19 + 1, none⟩ = some (.int .u64 l[i].g) ∧ u.rangeAt gb (i * 19 + 2) (Lib.byteCells l[i].id) ∧ u.cell? ⟨gb, i * 19 + 18, none⟩ = some (.int .i64 l[i].ex)) := hid (fun u hu => by
          have h := (hBk.keep hu).elem HO.out i hil
          exact ⟨h 0 _ (Ky.c0 _), h 1 _ (Ky.c1 _), range_sub (A := [.bool l[i].wh, .int .u64 l[i].g]) (C := [.int .i64 l[i].ex]) h, h 18 _ (Ky.c18 hko.2.1)⟩)
        have HJL := hid (size69' hko.2.1)
        have HEq := hid (HE0.out l[i] hko.2.1)
        have HNx : Hid ((l.take (i + 1)).any (hasP g D) = hasP g D l[i]) := hid (by rw [List.take_succ_eq_append_getElem hil, List.any_append, HNo.out]; simp)
        have HPq : Hid (hasP g D l[i] = (l[i].g == g && (l[i].wh || l[i].id == D))) := hid rfl
        have HTb : Hid (l[i].g = g → l[i].wh = true → T = l) := hid (fun q1 q2 => HQb.out i hil q1 q2)
        have HTc : Hid (l[i].g = g → l[i].wh = false → (l[i].id == D) = true → ∀ u, w2.grownBy u none → OutK b6 (u.setCell ⟨gb, i * 19 + 18, none⟩ (.int .i64 (mx ex l[i].ex))) (.slice (some ⟨gb, 0, none⟩) n c9) T) := hid (fun q1 q2 q3 u hu => by
          have e := HQd.out i hil HNo.out q1 q2 (by simpa using q3)
          rw [← e]
          have hset := (hBk.keep hu).set (i * 19 + 18) (.int .i64 (mx ex l[i].ex))
          have hin : i * 19 + 18 < (kcs l).length := by rw [kcs_length l HO.out.len]; omega
          rw [List.set_append_left _ _ hin, kcs_set18 l HO.out.len i hil] at hset
          refine OutK.of (rest := rest) (fun k hk => ?_) hbb (by rw [List.length_set]; exact HN.out) hnc hcm hset ?_
          · rcases List.mem_or_eq_of_mem_set hk with p | p
            · exact HO.out k p
            · rw [p]; exact ⟨hko.1, hko.2.1, mx_le HEx.out hko.2.2⟩
          · rw [List.length_append, kcs_length _ (fun k hk => by
              rcases List.mem_or_eq_of_mem_set hk with p | p
              · exact HO.out.len k p
              · rw [p]; exact hko.2.1), List.length_set, ← kcs_length l HO.out.len, ← List.length_append]
            exact hBl)
        have HFig : Hid (∀ u, w2.grownBy u none → w.grownBy (u.setCell ⟨gb, i * 19 + 18, none⟩ (.int .i64 (mx ex l[i].ex))) none) := hid (fun u hu => (gtrans HG02.out hu).andThen (gset u _ _) (fun j hj => .inl (by injection hj with hj; have := HS6.out; simp at hj; omega)))
        obtain ⟨q, hq⟩ : ∃ q, l[i] = q := ⟨_, rfl⟩
        rw [hq] at HQc HJL HEq HNx HPq HTb HTc HFig
        rw [HPq.out] at HNx
        obtain ⟨qw, hqw⟩ : ∃ x, q.wh = x := ⟨_, rfl⟩
        obtain ⟨qg, hqg⟩ : ∃ x, q.g = x := ⟨_, rfl⟩
        obtain ⟨qx, hqx⟩ : ∃ x, q.ex = x := ⟨_, rfl⟩
        obtain ⟨E, hE⟩ : ∃ x, (q.id == D) = x := ⟨_, rfl⟩
        rw [hqw, hqg, hqx] at HQc
        rw [hqw, hqg, hE] at HNx
        rw [hqw, hqg] at HTb
        rw [hqw, hqg, hqx, hE] at HTc
        rw [hqx] at HFig
        rw [hE] at HEq
        obtain ⟨J, HJ⟩ : ∃ x, Hid (Lib.byteCells q.id = x) := ⟨_, hid rfl⟩
        rw [HJ.out] at HQc HJL HEq
        have HIn := hid hlt
        obtain ⟨q0, q1, -, -⟩ := HQc.out wr HG.out
        clear hko hq HPq hqw hqg hqx hE HJ HE0 HNo hi hlt hil hBk hBl hbb hnc hcm HQa HQb HQd HB1 HLa HOp
        by_cases hgg : qg = g
        · subst hgg
          have hgb : ((qg : Int) == (qg : Int)) = true := beq_self_eq_true _
          rw [beq_self_eq_true, Bool.true_and] at HNx
          cases qw with
          | true =>
            as_aux_lemma =>
            have HTt : Hid (T = l) := hid (HTb.out rfl rfl)
            go_wp2_with fail
            go_ret
            exact ⟨_, rfl, by rw [HTt.out, HS6.out]; exact HO2.out.keep HG.out, gtrans HG02.out HG.out⟩
          | false =>
            have HFin := hid (fun (u : World) (hu : w2.grownBy u none) (h : E = true) => HTc.out rfl rfl h u hu)
            go_upto_region 9 with fail
            refine wp_region_listX (by kernel_rfl) [fun v _ => v = (Value.slice (some ⟨gb, 0, none⟩) n c9), fun v _ => v = (Value.int .i64 (i : Nat)), fun v _ => v = (Value.pointer (some ⟨gb, i * 19, none⟩)), fun v _ => v = (Value.pointer (some ⟨gb, i * 19 + 1, none⟩)), fun v _ => v = (Value.int .u64 (qg : Nat)), fun v _ => v = (Value.int .u64 (qg : Nat)), fun v _ => v = (Value.bool true), fun v _ => v = (Value.bool true), fun v _ => v = (Value.slice (some ⟨gb, 0, none⟩) n c9), fun v _ => v = (Value.int .i64 (i : Nat)), fun v _ => v = (Value.pointer (some ⟨gb, i * 19, none⟩)), fun v _ => v = (Value.pointer (some ⟨gb, i * 19 + 2, none⟩)), fun v _ => v = (Value.agg J.toArray), fun v _ => v = (Value.agg JD.toArray), fun v _ => v = (Value.bool E), fun v _ => v = (Value.bool E)] (none) (fun _ => none) 16 (by kernel_rfl) (by kernel_rfl) (by kernel_rfl) (by kernel_rfl) (by decide) noRow_one (fun _ => .inl rfl) ⟨fun i v u u' hki h hg => h, fun i v u u' hki h hg => h, fun i v u u' hki h hg => h, fun i v u u' hki h hg => h, fun i v u u' hki h hg => h, fun i v u u' hki h hg => h, fun i v u u' hki h hg => h, fun i v u u' hki h hg => h, fun i v u u' hki h hg => h, fun i v u u' hki h hg => h, fun i v u u' hki h hg => h, fun i v u u' hki h hg => h, fun i v u u' hki h hg => h, fun i v u u' hki h hg => h, fun i v u u' hki h hg => h, fun i v u u' hki h hg => h, trivial⟩ ⟨?_, ?_, ?_, ?_, ?_, ?_, ?_, ?_, ?_, ?_, ?_, ?_, ?_, ?_, ?_, ?_, trivial⟩ ?_
            · intro A u hu hpu hsz hout hdeps
              have e9 : A.eval (.tmp 9) = (.slice (some ⟨gb, 0, none⟩) n c9) := (hout 9 (by kernel_rfl)).trans rfl
              refine ifw_none rfl ?_
              with_reducible refine shown_q (Value.slice (some ⟨gb, 0, none⟩) n c9) ?qq_1a_0 (fun _ _ => ?qr_1a_0)
              case qr_1a_0 => exact (rfl : (Value.slice (some ⟨gb, 0, none⟩) n c9) = (Value.slice (some ⟨gb, 0, none⟩) n c9))
              with_reducible refine quietAt_mv (.tmp 9) (Value.slice (some ⟨gb, 0, none⟩) n c9) ?h0_1a_0 ?h1_1a_0
              case h0_1a_0 => rfl
              case h1_1a_0 => exact e9
            · intro A u hu hpu hsz hout hdeps
              have e10 : A.eval (.tmp 10) = (.int .i64 (i : Nat)) := (hout 10 (by kernel_rfl)).trans rfl
              refine ifw_none rfl ?_
              with_reducible refine shown_q (Value.int .i64 (i : Nat)) ?qq_1a_1 (fun _ _ => ?qr_1a_1)
              case qr_1a_1 => exact (rfl : (Value.int .i64 (i : Nat)) = (Value.int .i64 (i : Nat)))
              with_reducible refine quietAt_mv (.tmp 10) (Value.int .i64 (i : Nat)) ?h0_1a_1 ?h1_1a_1
              case h0_1a_1 => rfl
              case h1_1a_1 => exact e10
            · intro A u hu hpu hsz hout hdeps
              have e37 : A.eval (.tmp 37) = (.slice (some ⟨gb, 0, none⟩) n c9) := by have h := depL hdeps 0 (by kernel_rfl) 37 (by kernel_rfl); exact h
              have e38 : A.eval (.tmp 38) = (.int .i64 (i : Nat)) := by have h := depL hdeps 1 (by kernel_rfl) 38 (by kernel_rfl); exact h
              refine ifw_none rfl ?_
              with_reducible refine shown_q (Value.pointer (some ⟨gb, i * 19, none⟩)) ?qq_1a_2 (fun _ _ => ?qr_1a_2)
              case qr_1a_2 => exact (rfl : (Value.pointer (some ⟨gb, i * 19, none⟩)) = (Value.pointer (some ⟨gb, i * 19, none⟩)))
              with_reducible refine quietAt_idx 57 (.tmp 37) (.tmp 38) (Value.slice (some ⟨gb, 0, none⟩) n c9) (Value.int .i64 (i : Nat)) (Value.pointer (some ⟨gb, i * 19, none⟩)) ?h0_1a_2 ?h1_1a_2 ?h2_1a_2 ?h3_1a_2
              case h0_1a_2 => rfl
              case h1_1a_2 => exact e37
              case h2_1a_2 => exact e38
              case h3_1a_2 => exact (idx57z gb n c9 i HIn.out u)
            · intro A u hu hpu hsz hout hdeps
              have e39 : A.eval (.tmp 39) = (.pointer (some ⟨gb, i * 19, none⟩)) := by have h := depL hdeps 2 (by kernel_rfl) 39 (by kernel_rfl); exact h
              refine ifw_none rfl ?_
              with_reducible refine shown_q (Value.pointer (some ⟨gb, i * 19 + 1, none⟩)) ?qq_1a_3 (fun _ _ => ?qr_1a_3)
              case qr_1a_3 => exact (rfl : (Value.pointer (some ⟨gb, i * 19 + 1, none⟩)) = (Value.pointer (some ⟨gb, i * 19 + 1, none⟩)))
              with_reducible refine quietAt_field 85 (.tmp 39) 1 ?h0_1a_3 ⟨gb, i * 19, none⟩ ⟨gb, i * 19 + 1, none⟩ ?h1_1a_3 ?h2_1a_3
              case h0_1a_3 => rfl
              case h1_1a_3 => exact e39
              case h2_1a_3 => kernel_rfl
            · intro A u hu hpu hsz hout hdeps
              have e40 : A.eval (.tmp 40) = (.pointer (some ⟨gb, i * 19 + 1, none⟩)) := by have h := depL hdeps 3 (by kernel_rfl) 40 (by kernel_rfl); exact h
              refine ifw_none rfl ?_
              with_reducible refine shown_q (Value.int .u64 (qg : Nat)) ?qq_1a_4 (fun _ _ => ?qr_1a_4)
              case qr_1a_4 => exact (rfl : (Value.int .u64 (qg : Nat)) = (Value.int .u64 (qg : Nat)))
              with_reducible refine quietAt_ld 67 (.tmp 40) (Value.pointer (some ⟨gb, i * 19 + 1, none⟩)) (Value.int .u64 (qg : Nat)) ?h0_1a_4 ?h1_1a_4 ?h2_1a_4
              case h0_1a_4 => rfl
              case h1_1a_4 => exact e40
              case h2_1a_4 => exact ld67 gb (i * 19 + 1) qg u (HQc.out u (gtrans HG.out hu)).2.1
            · intro A u hu hpu hsz hout hdeps
              have e1 : A.eval (.tmp 1) = (.int .u64 (qg : Nat)) := (hout 1 (by kernel_rfl)).trans rfl
              refine ifw_none rfl ?_
              with_reducible refine shown_q (Value.int .u64 (qg : Nat)) ?qq_1a_5 (fun _ _ => ?qr_1a_5)
              case qr_1a_5 => exact (rfl : (Value.int .u64 (qg : Nat)) = (Value.int .u64 (qg : Nat)))
              with_reducible refine quietAt_mv (.tmp 1) (Value.int .u64 (qg : Nat)) ?h0_1a_5 ?h1_1a_5
              case h0_1a_5 => rfl
              case h1_1a_5 => exact e1
            · intro A u hu hpu hsz hout hdeps
              have e41 : A.eval (.tmp 41) = (.int .u64 (qg : Nat)) := by have h := depL hdeps 4 (by kernel_rfl) 41 (by kernel_rfl); exact h
              have e42 : A.eval (.tmp 42) = (.int .u64 (qg : Nat)) := by have h := depL hdeps 5 (by kernel_rfl) 42 (by kernel_rfl); exact h
              refine ifw_none rfl ?_
              with_reducible refine shown_q (Value.bool true) ?qq_1a_6 (fun _ _ => ?qr_1a_6)
              case qr_1a_6 => exact (rfl : (Value.bool true) = (Value.bool true))
              with_reducible refine quietAt_bin .eql 67 (.tmp 41) (.tmp 42) 67 (Value.int .u64 (qg : Nat)) (Value.int .u64 (qg : Nat)) (Value.bool true) ?h0_1a_6 ?h1_1a_6 ?h2_1a_6 ?h3_1a_6
              case h0_1a_6 => rfl
              case h1_1a_6 => exact e41
              case h2_1a_6 => exact e42
              case h3_1a_6 => exact (eqU qg u)
            · intro A u hu hpu hsz hout hdeps
              have e43 : A.eval (.tmp 43) = (.bool true) := by have h := depL hdeps 6 (by kernel_rfl) 43 (by kernel_rfl); exact h
              refine ifw_none rfl ?_
              with_reducible refine shown_q (Value.bool true) ?qq_1a_7 (fun _ _ => ?qr_1a_7)
              case qr_1a_7 => exact (rfl : (Value.bool true) = (Value.bool true))
              with_reducible refine quietAt_mv (.tmp 43) (Value.bool true) ?h0_1a_7 ?h1_1a_7
              case h0_1a_7 => rfl
              case h1_1a_7 => exact e43
            · intro A u hu hpu hsz hout hdeps
              have e44 : A.eval (.tmp 44) = (.bool true) := by have h := depL hdeps 7 (by kernel_rfl) 44 (by kernel_rfl); exact h
              have e9 : A.eval (.tmp 9) = (.slice (some ⟨gb, 0, none⟩) n c9) := (hout 9 (by kernel_rfl)).trans rfl
              refine ifw_want 7 true 44 rfl rfl e44 ?_
              with_reducible refine shown_q (Value.slice (some ⟨gb, 0, none⟩) n c9) ?qq_1a_8 (fun _ _ => ?qr_1a_8)
              case qr_1a_8 => exact (rfl : (Value.slice (some ⟨gb, 0, none⟩) n c9) = (Value.slice (some ⟨gb, 0, none⟩) n c9))
              with_reducible refine quietAt_mv (.tmp 9) (Value.slice (some ⟨gb, 0, none⟩) n c9) ?h0_1a_8 ?h1_1a_8
              case h0_1a_8 => rfl
              case h1_1a_8 => exact e9
            · intro A u hu hpu hsz hout hdeps
              have e44 : A.eval (.tmp 44) = (.bool true) := by have h := depL hdeps 7 (by kernel_rfl) 44 (by kernel_rfl); exact h
              have e10 : A.eval (.tmp 10) = (.int .i64 (i : Nat)) := (hout 10 (by kernel_rfl)).trans rfl
              refine ifw_want 7 true 44 rfl rfl e44 ?_
              with_reducible refine shown_q (Value.int .i64 (i : Nat)) ?qq_1a_9 (fun _ _ => ?qr_1a_9)
              case qr_1a_9 => exact (rfl : (Value.int .i64 (i : Nat)) = (Value.int .i64 (i : Nat)))
              with_reducible refine quietAt_mv (.tmp 10) (Value.int .i64 (i : Nat)) ?h0_1a_9 ?h1_1a_9
              case h0_1a_9 => rfl
              case h1_1a_9 => exact e10
            · intro A u hu hpu hsz hout hdeps
              have e44 : A.eval (.tmp 44) = (.bool true) := by have h := depL hdeps 7 (by kernel_rfl) 44 (by kernel_rfl); exact h
              have e45 : A.eval (.tmp 45) = (.slice (some ⟨gb, 0, none⟩) n c9) := by have h := depL hdeps 8 (by kernel_rfl) 45 (by kernel_rfl); exact h
              have e46 : A.eval (.tmp 46) = (.int .i64 (i : Nat)) := by have h := depL hdeps 9 (by kernel_rfl) 46 (by kernel_rfl); exact h
              refine ifw_want 7 true 44 rfl rfl e44 ?_
              with_reducible refine shown_q (Value.pointer (some ⟨gb, i * 19, none⟩)) ?qq_1a_10 (fun _ _ => ?qr_1a_10)
              case qr_1a_10 => exact (rfl : (Value.pointer (some ⟨gb, i * 19, none⟩)) = (Value.pointer (some ⟨gb, i * 19, none⟩)))
              with_reducible refine quietAt_idx 57 (.tmp 45) (.tmp 46) (Value.slice (some ⟨gb, 0, none⟩) n c9) (Value.int .i64 (i : Nat)) (Value.pointer (some ⟨gb, i * 19, none⟩)) ?h0_1a_10 ?h1_1a_10 ?h2_1a_10 ?h3_1a_10
              case h0_1a_10 => rfl
              case h1_1a_10 => exact e45
              case h2_1a_10 => exact e46
              case h3_1a_10 => exact (idx57z gb n c9 i HIn.out u)
            · intro A u hu hpu hsz hout hdeps
              have e44 : A.eval (.tmp 44) = (.bool true) := by have h := depL hdeps 7 (by kernel_rfl) 44 (by kernel_rfl); exact h
              have e47 : A.eval (.tmp 47) = (.pointer (some ⟨gb, i * 19, none⟩)) := by have h := depL hdeps 10 (by kernel_rfl) 47 (by kernel_rfl); exact h
              refine ifw_want 7 true 44 rfl rfl e44 ?_
              with_reducible refine shown_q (Value.pointer (some ⟨gb, i * 19 + 2, none⟩)) ?qq_1a_11 (fun _ _ => ?qr_1a_11)
              case qr_1a_11 => exact (rfl : (Value.pointer (some ⟨gb, i * 19 + 2, none⟩)) = (Value.pointer (some ⟨gb, i * 19 + 2, none⟩)))
              with_reducible refine quietAt_field 85 (.tmp 47) 2 ?h0_1a_11 ⟨gb, i * 19, none⟩ ⟨gb, i * 19 + 2, none⟩ ?h1_1a_11 ?h2_1a_11
              case h0_1a_11 => rfl
              case h1_1a_11 => exact e47
              case h2_1a_11 => kernel_rfl
            · intro A u hu hpu hsz hout hdeps
              have e44 : A.eval (.tmp 44) = (.bool true) := by have h := depL hdeps 7 (by kernel_rfl) 44 (by kernel_rfl); exact h
              have e48 : A.eval (.tmp 48) = (.pointer (some ⟨gb, i * 19 + 2, none⟩)) := by have h := depL hdeps 11 (by kernel_rfl) 48 (by kernel_rfl); exact h
              refine ifw_want 7 true 44 rfl rfl e44 ?_
              with_reducible refine shown_q (Value.agg J.toArray) ?qq_1a_12 (fun _ _ => ?qr_1a_12)
              case qr_1a_12 => exact (rfl : (Value.agg J.toArray) = (Value.agg J.toArray))
              with_reducible refine quietAt_load 69 (.tmp 48) ?h0_1a_12 gb (i * 19 + 2) J (.array 16 5) ?h1_1a_12 ?h2_1a_12 ?h3_1a_12 ?h4_1a_12 ?h5_1a_12
              case h0_1a_12 => rfl
              case h1_1a_12 => exact e48
              case h2_1a_12 => exact (HQc.out u (gtrans HG.out hu)).2.2.1
              case h3_1a_12 => exact Tryz.underlying69
              case h4_1a_12 => rfl
              case h5_1a_12 => exact HJL.out
            · intro A u hu hpu hsz hout hdeps
              have e44 : A.eval (.tmp 44) = (.bool true) := by have h := depL hdeps 7 (by kernel_rfl) 44 (by kernel_rfl); exact h
              have e6 : A.eval (.tmp 6) = (.pointer (some ⟨b6, 0, none⟩)) := (hout 6 (by kernel_rfl)).trans rfl
              refine ifw_want 7 true 44 rfl rfl e44 ?_
              with_reducible refine shown_q (Value.agg JD.toArray) ?qq_1a_13 (fun _ _ => ?qr_1a_13)
              case qr_1a_13 => exact (rfl : (Value.agg JD.toArray) = (Value.agg JD.toArray))
              with_reducible refine quietAt_load 69 (.tmp 6) ?h0_1a_13 b6 0 JD (.array 16 5) ?h1_1a_13 ?h2_1a_13 ?h3_1a_13 ?h4_1a_13 ?h5_1a_13
              case h0_1a_13 => rfl
              case h1_1a_13 => exact e6
              case h2_1a_13 => exact (HBx.out u (gtrans HG.out hu))
              case h3_1a_13 => exact Tryz.underlying69
              case h4_1a_13 => rfl
              case h5_1a_13 => exact HDL.out
            · intro A u hu hpu hsz hout hdeps
              have e44 : A.eval (.tmp 44) = (.bool true) := by have h := depL hdeps 7 (by kernel_rfl) 44 (by kernel_rfl); exact h
              have e49 : A.eval (.tmp 49) = (.agg J.toArray) := by have h := depL hdeps 12 (by kernel_rfl) 49 (by kernel_rfl); exact h
              have e50 : A.eval (.tmp 50) = (.agg JD.toArray) := by have h := depL hdeps 13 (by kernel_rfl) 50 (by kernel_rfl); exact h
              refine ifw_want 7 true 44 rfl rfl e44 ?_
              with_reducible refine shown_q (Value.bool E) ?qq_1a_14 (fun _ _ => ?qr_1a_14)
              case qr_1a_14 => exact (rfl : (Value.bool E) = (Value.bool E))
              with_reducible refine quietAt_bin .eql 69 (.tmp 49) (.tmp 50) 69 (Value.agg J.toArray) (Value.agg JD.toArray) (Value.bool E) ?h0_1a_14 ?h1_1a_14 ?h2_1a_14 ?h3_1a_14
              case h0_1a_14 => rfl
              case h1_1a_14 => exact e49
              case h2_1a_14 => exact e50
              case h3_1a_14 => exact HEq.out _ _ u
            · intro A u hu hpu hsz hout hdeps
              have e44 : A.eval (.tmp 44) = (.bool true) := by have h := depL hdeps 7 (by kernel_rfl) 44 (by kernel_rfl); exact h
              have e51 : A.eval (.tmp 51) = (.bool E) := by have h := depL hdeps 14 (by kernel_rfl) 51 (by kernel_rfl); exact h
              refine ifw_none rfl ?_
              with_reducible refine shown_q (Value.bool E) ?qq_1a_15 (fun _ _ => ?qr_1a_15)
              case qr_1a_15 => exact (rfl : (Value.bool E) = (Value.bool E))
              with_reducible refine quietAt_pick (.tmp 44) (.tmp 51) (.const (.bool false)) true (Value.bool E) ?h0_1a_15 ?h1_1a_15 ?h2_1a_15
              case h0_1a_15 => rfl
              case h1_1a_15 => exact e44
              case h2_1a_15 => rw [if_pos rfl]; exact e51
            · intro A u8 listed hh hall
              have hA := hh.frame
              have HU := hid hh.grown
              obtain ⟨x37, hx37⟩ : ∃ x, A.eval (.tmp 37) = x := ⟨_, rfl⟩
              have f37 : (fun v _ => v = (Value.slice (some ⟨gb, 0, none⟩) n c9)) x37 u8 := by rw [← hx37]; exact hh.got 0 _ 37 rfl rfl (hall 0 (by decide))
              obtain ⟨x38, hx38⟩ : ∃ x, A.eval (.tmp 38) = x := ⟨_, rfl⟩
              have f38 : (fun v _ => v = (Value.int .i64 (i : Nat))) x38 u8 := by rw [← hx38]; exact hh.got 1 _ 38 rfl rfl (hall 1 (by decide))
              obtain ⟨x39, hx39⟩ : ∃ x, A.eval (.tmp 39) = x := ⟨_, rfl⟩
              have f39 : (fun v _ => v = (Value.pointer (some ⟨gb, i * 19, none⟩))) x39 u8 := by rw [← hx39]; exact hh.got 2 _ 39 rfl rfl (hall 2 (by decide))
              obtain ⟨x40, hx40⟩ : ∃ x, A.eval (.tmp 40) = x := ⟨_, rfl⟩
              have f40 : (fun v _ => v = (Value.pointer (some ⟨gb, i * 19 + 1, none⟩))) x40 u8 := by rw [← hx40]; exact hh.got 3 _ 40 rfl rfl (hall 3 (by decide))
              obtain ⟨x41, hx41⟩ : ∃ x, A.eval (.tmp 41) = x := ⟨_, rfl⟩
              have f41 : (fun v _ => v = (Value.int .u64 (qg : Nat))) x41 u8 := by rw [← hx41]; exact hh.got 4 _ 41 rfl rfl (hall 4 (by decide))
              obtain ⟨x42, hx42⟩ : ∃ x, A.eval (.tmp 42) = x := ⟨_, rfl⟩
              have f42 : (fun v _ => v = (Value.int .u64 (qg : Nat))) x42 u8 := by rw [← hx42]; exact hh.got 5 _ 42 rfl rfl (hall 5 (by decide))
              obtain ⟨x43, hx43⟩ : ∃ x, A.eval (.tmp 43) = x := ⟨_, rfl⟩
              have f43 : (fun v _ => v = (Value.bool true)) x43 u8 := by rw [← hx43]; exact hh.got 6 _ 43 rfl rfl (hall 6 (by decide))
              obtain ⟨x44, hx44⟩ : ∃ x, A.eval (.tmp 44) = x := ⟨_, rfl⟩
              have f44 : (fun v _ => v = (Value.bool true)) x44 u8 := by rw [← hx44]; exact hh.got 7 _ 44 rfl rfl (hall 7 (by decide))
              obtain ⟨x45, hx45⟩ : ∃ x, A.eval (.tmp 45) = x := ⟨_, rfl⟩
              have f45 : (fun v _ => v = (Value.slice (some ⟨gb, 0, none⟩) n c9)) x45 u8 := by rw [← hx45]; exact hh.got 8 _ 45 rfl rfl (hall 8 (by decide))
              obtain ⟨x46, hx46⟩ : ∃ x, A.eval (.tmp 46) = x := ⟨_, rfl⟩
              have f46 : (fun v _ => v = (Value.int .i64 (i : Nat))) x46 u8 := by rw [← hx46]; exact hh.got 9 _ 46 rfl rfl (hall 9 (by decide))
              obtain ⟨x47, hx47⟩ : ∃ x, A.eval (.tmp 47) = x := ⟨_, rfl⟩
              have f47 : (fun v _ => v = (Value.pointer (some ⟨gb, i * 19, none⟩))) x47 u8 := by rw [← hx47]; exact hh.got 10 _ 47 rfl rfl (hall 10 (by decide))
              obtain ⟨x48, hx48⟩ : ∃ x, A.eval (.tmp 48) = x := ⟨_, rfl⟩
              have f48 : (fun v _ => v = (Value.pointer (some ⟨gb, i * 19 + 2, none⟩))) x48 u8 := by rw [← hx48]; exact hh.got 11 _ 48 rfl rfl (hall 11 (by decide))
              obtain ⟨x49, hx49⟩ : ∃ x, A.eval (.tmp 49) = x := ⟨_, rfl⟩
              have f49 : (fun v _ => v = (Value.agg J.toArray)) x49 u8 := by rw [← hx49]; exact hh.got 12 _ 49 rfl rfl (hall 12 (by decide))
              obtain ⟨x50, hx50⟩ : ∃ x, A.eval (.tmp 50) = x := ⟨_, rfl⟩
              have f50 : (fun v _ => v = (Value.agg JD.toArray)) x50 u8 := by rw [← hx50]; exact hh.got 13 _ 50 rfl rfl (hall 13 (by decide))
              obtain ⟨x51, hx51⟩ : ∃ x, A.eval (.tmp 51) = x := ⟨_, rfl⟩
              have f51 : (fun v _ => v = (Value.bool E)) x51 u8 := by rw [← hx51]; exact hh.got 14 _ 51 rfl rfl (hall 14 (by decide))
              obtain ⟨x52, hx52⟩ : ∃ x, A.eval (.tmp 52) = x := ⟨_, rfl⟩
              have f52 : (fun v _ => v = (Value.bool E)) x52 u8 := by rw [← hx52]; exact hh.got 15 _ 52 rfl rfl (hall 15 (by decide))
              dsimp only [wrote, List.foldl] at hA
              rw [hx37, hx38, hx39, hx40, hx41, hx42, hx43, hx44, hx45, hx46, hx47, hx48, hx49, hx50, hx51, hx52] at hA
              clear hh hall hx37 hx38 hx39 hx40 hx41 hx42 hx43 hx44 hx45 hx46 hx47 hx48 hx49 hx50 hx51 hx52
              replace f37 := (f37 : x37 = (.slice (some ⟨gb, 0, none⟩) n c9))
              subst f37
              replace f38 := (f38 : x38 = (.int .i64 (i : Nat)))
              subst f38
              replace f39 := (f39 : x39 = (.pointer (some ⟨gb, i * 19, none⟩)))
              subst f39
              replace f40 := (f40 : x40 = (.pointer (some ⟨gb, i * 19 + 1, none⟩)))
              subst f40
              replace f41 := (f41 : x41 = (.int .u64 (qg : Nat)))
              subst f41
              replace f42 := (f42 : x42 = (.int .u64 (qg : Nat)))
              subst f42
              replace f43 := (f43 : x43 = (.bool true))
              subst f43
              replace f44 := (f44 : x44 = (.bool true))
              subst f44
              replace f45 := (f45 : x45 = (.slice (some ⟨gb, 0, none⟩) n c9))
              subst f45
              replace f46 := (f46 : x46 = (.int .i64 (i : Nat)))
              subst f46
              replace f47 := (f47 : x47 = (.pointer (some ⟨gb, i * 19, none⟩)))
              subst f47
              replace f48 := (f48 : x48 = (.pointer (some ⟨gb, i * 19 + 2, none⟩)))
              subst f48
              replace f49 := (f49 : x49 = (.agg J.toArray))
              subst f49
              replace f50 := (f50 : x50 = (.agg JD.toArray))
              subst f50
              replace f51 := (f51 : x51 = (.bool E))
              subst f51
              replace f52 := (f52 : x52 = (.bool E))
              subst f52
              subst hA
              show wpList _ _ _ [] _ _
              unfold wpList
              simp only [Act.put, List.setIfInBounds_toArray, List.set_cons_succ, List.set_cons_zero]
              have HUz := hid (gtrans HG.out HU.out)
              clear HU
              cases E with
              | true =>
                as_aux_lemma =>
                obtain ⟨z0, z1, -, z18⟩ := HQc.out u8 HUz.out
                have zf : u8.frozen? ⟨gb, i * 19 + 18, none⟩ = false := (HBg.out.keep HUz.out).frozen _
                go_wp2_with (go_at_call 36; (with_reducible refine (greater_any _ _ _).mono ?_); rintro e2 w3 ⟨rfl, hw3⟩; have hw3' := hw3.symm; clear hw3; subst hw3')
                go_ret
                exact ⟨_, rfl, by rw [HS6.out]; exact HFin.out u8 HUz.out trivial, HFig.out u8 HUz.out⟩
              | false =>
                as_aux_lemma =>
                have HNn : Hid ((l.take (i + 1)).any (hasP qg D) = false) := hid (by rw [HNx.out]; rfl)
                go_wp2_with fail
                go_roundw
                case rel => exact ⟨i + 1, by go_num, by have := HIn.out; omega, HNn, HUz⟩
                case measure => have := HIn.out; simp [intOf]; omega
        · as_aux_lemma =>
          have hgb : ((qg : Int) == (g : Int)) = false := beq_eq_false_iff_ne.2 (by omega)
          have hgb2 : ¬ (qg : Int) = (g : Int) := by omega
          have HNn : Hid ((l.take (i + 1)).any (hasP g D) = false) := hid (by rw [HNx.out, beq_eq_false_iff_ne.2 hgg]; rfl)
          go_wp2_with fail
          go_quiet (fail)
          go_wp2_with fail
          go_roundw
          case rel => exact ⟨i + 1, by go_num, by have := HIn.out; omega, HNn, hid (gtrans HG.out (gdrew _ _ _))⟩
          case measure => have := HIn.out; simp [intOf]; omega
      · have hlt' : ¬ (i : Int) < (n : Int) := by omega
        have HTa := hid (HQa.out (by have := HNo.out; rw [List.take_of_length_le (by rw [HN.out]; omega)] at this; exact this))
        have HLb := hid (HLa.out wr _ (HO2.out.keep HG.out))
        have HBw := hid (HBx.out wr HG.out)
        go_wp2_with (first
          | (go_at_call 37; (with_reducible refine HLb.out.mono ?_); rintro e2 w3 ⟨v3, rfl, ho3, hg3⟩; have HO3 := hid ho3; have HG3 := hid (gtrans HG.out hg3); clear ho3 hg3)
          | (with_reducible refine wpList_build_of (by with_unfolding_all rfl) 85 _ (by with_unfolding_all rfl) [(1, .int .u64 g), (2, .agg JD.toArray), (3, .int .i64 ex)] (by with_unfolding_all rfl) KM HB1.out ?_)
          | (with_reducible refine wpList_load_part (by with_unfolding_all rfl) 69 _ (by with_unfolding_all rfl) b6 0 JD _ (by with_unfolding_all rfl) HBw.out Tryz.underlying69 (by with_unfolding_all rfl) HDL.out ?_))
        go_ret
        exact ⟨_, rfl, by have := HO3.out.below (show b6 ≤ _ by rw [← HS6.out]; exact (gtrans HG02.out HG.out).size); rw [HTa.out] at this; rw [HS6.out]; exact this, gtrans HG02.out HG3.out⟩
end Go.Proofs.YtlgjmhemgfjgnaaGreat
