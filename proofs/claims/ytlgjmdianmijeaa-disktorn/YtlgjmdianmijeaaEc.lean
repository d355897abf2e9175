/- kept: what a torn write may leave. -/
import Derived.Test.YtlgjmdianmijeaaEb
namespace Go.Proofs.Ytlgjmdianmijeaa
open Go Go.RowKit Go.MapKept Go.MuLone
open Go.RowKit (wrap32 wrap64)

variable {P0 P1 P2 : Nat → Prop} {a0 a1 a2 : Option Addr} {L M D : Cn}
set_option maxRecDepth 100000 in
set_option maxHeartbeats 4000000 in
theorem kept_else (u : World) (o : Opv) (kp : Int) (c0 c1 c2 : Nat) (h0 : Fw u a0 L P0) (h1 : Fw u a1 M P1) (h2 : Fw u a2 D P2) (hdv : o.dv ≠ 1) (hd : D = if 0 < kp then M else L) (hl : D.length ≤ 1000000) (hb : ∀ p ∈ D, p.2.length ≤ 140737488355328) :
    Calls Try.prog 18 #[.slice a0 L.length c0, .slice a1 M.length c1, .slice a2 D.length c2, .agg o.cells.toArray, .int .i64 kp] u fun e w' => e = .returned (.bool true) ∧ u.grownBy w' none := by
  obtain ⟨dv, on, nm, to, ba, bn, bc, bs, nv, kv, fa, fn, fc, L9⟩ := o
  replace hdv : dv ≠ 1 := hdv
  show Calls Try.prog 18 #[.slice a0 L.length c0, .slice a1 M.length c1, .slice a2 D.length c2, .agg [Value.int .i64 dv, .int .i64 on, .string nm, .string to, .slice ba bn bc, .int .i64 nv, .int .i64 kv, .slice fa fn fc].toArray, .int .i64 kp] u fun e w' => e = .returned (.bool true) ∧ u.grownBy w' none
  by_cases hk : 0 < kp
  · as_aux_lemma =>
    rw [if_pos hk] at hd
    subst hd
    have HQ : Hid (∀ v, u.grownBy v none → Calls Try.prog 17 #[.slice a2 D.length c2, .slice a1 D.length c1] v fun e w' => e = .returned (.bool true) ∧ v.grownBy w' none) := hid (fun v hv => fw_eq (h2.keep hv) (h1.keep hv) c2 c1 hl hb)
    obtain ⟨n, hn⟩ : ∃ x, D.length = x := ⟨_, rfl⟩
    obtain ⟨m, hm⟩ : ∃ x, L.length = x := ⟨_, rfl⟩
    rw [hn] at HQ
    rw [hn, hm]
    clear hn hm h0 h1 h2 hl hb
    go_enter Try.func18, Try.ntmps18
    go_wp2_with (first
      | ((with_reducible refine wpList_box_row (by with_unfolding_all rfl) 36 _ (by with_unfolding_all rfl) [Value.int .i64 dv, .int .i64 on, .string nm, .string to, .slice ba bn bc, .int .i64 nv, .int .i64 kv, .slice fa fn fc] (by with_unfolding_all rfl) ?_); intro w1 B1 s1 g1; have HG1 := hid g1; have k0 := B1.cell 0; clear B1 s1 g1)
      | (go_at_call 17; (with_reducible refine (HQ.out _ HG1.out).mono ?_); rintro e w2 ⟨rfl, hg⟩; have HG2 := hid hg; clear hg))
    go_ret
    exact ⟨rfl, gtrans HG1.out HG2.out⟩
  · as_aux_lemma =>
    rw [if_neg hk] at hd
    subst hd
    have HQ : Hid (∀ v, u.grownBy v none → Calls Try.prog 17 #[.slice a2 D.length c2, .slice a0 D.length c0] v fun e w' => e = .returned (.bool true) ∧ v.grownBy w' none) := hid (fun v hv => fw_eq (h2.keep hv) (h0.keep hv) c2 c0 hl hb)
    obtain ⟨n, hn⟩ : ∃ x, D.length = x := ⟨_, rfl⟩
    obtain ⟨m, hm⟩ : ∃ x, M.length = x := ⟨_, rfl⟩
    rw [hn] at HQ
    rw [hn, hm]
    clear hn hm h0 h1 h2 hl hb
    go_enter Try.func18, Try.ntmps18
    go_wp2_with (first
      | ((with_reducible refine wpList_box_row (by with_unfolding_all rfl) 36 _ (by with_unfolding_all rfl) [Value.int .i64 dv, .int .i64 on, .string nm, .string to, .slice ba bn bc, .int .i64 nv, .int .i64 kv, .slice fa fn fc] (by with_unfolding_all rfl) ?_); intro w1 B1 s1 g1; have HG1 := hid g1; have k0 := B1.cell 0; clear B1 s1 g1)
      | (go_at_call 17; (with_reducible refine (HQ.out _ HG1.out).mono ?_); rintro e w2 ⟨rfl, hg⟩; have HG2 := hid hg; clear hg))
    go_ret
    exact ⟨rfl, gtrans HG1.out HG2.out⟩
set_option maxRecDepth 100000 in
set_option maxHeartbeats 16000000 in
theorem kept_app (u : World) (o : Opv) (kp : Int) (c0 c1 c2 n1 : Nat) (F : Nat → Prop) (hI : o.In u F) (h0 : Fw u a0 L P0) (h2 : Fw u a2 D P2) (hdv : o.dv = 1) (hl0 : L.length ≤ 1000000) (hl : D.length ≤ 1000000) (hbl : o.bs.length ≤ 17592186044416) (hol : ((getC L o.nm).getD []).length ≤ 17592186044416)
    (q1 : ∀ p ∈ L, p.1 ≠ o.nm → getC D p.1 = some p.2) (q2 : ∀ p ∈ D, p.1 ≠ o.nm → (getC L p.1).isSome = true) (q3 : (getC D o.nm).isSome = ((getC L o.nm).isSome || decide (0 < kp))) (q4 : (getC D o.nm).getD [] = (getC L o.nm).getD [] ++ o.bs.take (min (max kp 0) o.bs.length).toNat) :
    Calls Try.prog 18 #[.slice a0 L.length c0, .slice a1 n1 c1, .slice a2 D.length c2, .agg o.cells.toArray, .int .i64 kp] u fun e w' => e = .returned (.bool true) ∧ u.grownBy w' none := by
  obtain ⟨F0, g0, r0, _⟩ := h0
  obtain ⟨F2, g2, r2, _⟩ := h2
  have HOt0 : Hid (∀ v, u.grownBy v none → Calls Try.prog 21 #[.slice a0 L.length c0, .slice a2 D.length c2, .string o.nm] v fun e w' => ∃ x, e = .returned x ∧ v.grownBy w' none ∧ x = Value.bool true) := hid (fun v hv => (others_true v F0 F2 a0 a2 g0 0 c0 g2 0 c2 L D o.nm (r0.keep hv) (r2.keep hv) hl0 hl q1 q2).mono fun e w' ⟨x1, x2⟩ => ⟨_, x1, x2, rfl⟩)
  have HFo : Hid (∀ v, u.grownBy v none → Calls Try.prog 20 #[.slice a0 L.length c0, .string o.nm] v fun e w' => w' = v ∧ ∃ x, e = .returned (.tuple #[x, .bool (getC L o.nm).isSome]) ∧ Rd v F0 x ((getC L o.nm).getD [])) := hid (fun v hv => file_any v F0 a0 g0 0 c0 L o.nm (r0.keep hv) hl0)
  have HFn : Hid (∀ v, u.grownBy v none → Calls Try.prog 20 #[.slice a2 D.length c2, .string o.nm] v fun e w' => w' = v ∧ ∃ x, e = .returned (.tuple #[x, .bool (getC D o.nm).isSome]) ∧ Rd v F2 x ((getC D o.nm).getD [])) := hid (fun v hv => file_any v F2 a2 g2 0 c2 D o.nm (r2.keep hv) hl)
  have HRb : Hid (∀ v, u.grownBy v none → Rd v F (.slice o.ba o.bn o.bc) o.bs) := hid (fun v hv => (hI.keep hv).b)
  have hbn : o.bs.length = o.bn := by obtain ⟨_, _, _, _, e, _⟩ := hI.b; injection e with _ e _; exact e.symm
  have hbc : o.bn ≤ o.bc := by obtain ⟨_, _, _, _, e, ec, _⟩ := hI.b; injection e with _ e1 e2; omega
  rw [q3, q4] at HFn
  obtain ⟨H, hH⟩ : ∃ x, (getC L o.nm).isSome = x := ⟨_, rfl⟩
  obtain ⟨ol, hOl⟩ : ∃ x, (getC L o.nm).getD [] = x := ⟨_, rfl⟩
  rw [hOl] at HFn HFo hol
  rw [hH] at HFn HFo
  obtain ⟨n0, hn0⟩ : ∃ x, L.length = x := ⟨_, rfl⟩
  obtain ⟨n2, hn2⟩ : ∃ x, D.length = x := ⟨_, rfl⟩
  rw [hn0, hn2] at HOt0
  rw [hn0] at HFo
  rw [hn2] at HFn
  rw [hn0, hn2]
  clear q1 q2 q3 q4 hH hOl hn0 hn2 r0 r2 hl0 hl
  obtain ⟨dv, on, nm, to, ba, bn, bc, bs, nv, kv, fa, fn, fc, L9⟩ := o
  replace hdv : dv = 1 := hdv
  subst hdv
  replace hbn : bs.length = bn := hbn
  replace hbc : bn ≤ bc := hbc
  replace hbl : bs.length ≤ 17592186044416 := hbl
  have hbl' : bn ≤ 17592186044416 := by rw [← hbn]; exact hbl
  show Calls Try.prog 18 #[.slice a0 n0 c0, .slice a1 n1 c1, .slice a2 n2 c2, .agg [Value.int .i64 1, .int .i64 on, .string nm, .string to, .slice ba bn bc, .int .i64 nv, .int .i64 kv, .slice fa fn fc].toArray, .int .i64 kp] u fun e w' => e = .returned (.bool true) ∧ u.grownBy w' none
  obtain ⟨zz, hzz⟩ : ∃ x, (min (max kp 0) (bs.length : Int)).toNat = x := ⟨_, rfl⟩
  have HFn' : Hid (∀ v, u.grownBy v none → Calls Try.prog 20 #[.slice a2 n2 c2, .string nm] v fun e w' => w' = v ∧ ∃ x, e = .returned (.tuple #[x, .bool (H || decide (0 < kp))]) ∧ Rd v F2 x (ol ++ bs.take zz)) := hid (by rw [← hzz]; exact HFn.out)
  have HFo' : Hid (∀ v, u.grownBy v none → Calls Try.prog 20 #[.slice a0 n0 c0, .string nm] v fun e w' => w' = v ∧ ∃ x, e = .returned (.tuple #[x, .bool H]) ∧ Rd v F0 x ol) := hid HFo.out
  rw [hbn] at hzz
  obtain ⟨nl, HNl⟩ : ∃ x, Hid (ol ++ bs.take zz = x) := ⟨_, hid rfl⟩
  rw [HNl.out] at HFn'
  have hzb : zz ≤ bn := by omega
  have HRt : Hid (∀ v, u.grownBy v none → Rd v F (.slice ba zz bc) (bs.take zz)) := hid (fun v hv => Rd.take (HRb.out v hv) hzb)
  have HSl : Hid (∀ v : World, (Instr.sliceAt 33 (.slice ba bn bc) none (some (.int .i64 (zz : Nat))) none).run Try.prog v = .ok (.slice ba zz bc) v) := hid (fun v => sliceh_run ba bn bc zz (by omega) v)
  obtain ⟨So, HSo⟩ : ∃ x : ByteArray, Hid ((⟨ol.toArray⟩ : ByteArray) = x) := ⟨_, hid rfl⟩
  obtain ⟨Sb, HSb⟩ : ∃ x : ByteArray, Hid ((⟨(bs.take zz).toArray⟩ : ByteArray) = x) := ⟨_, hid rfl⟩
  have HSn : Hid ((⟨nl.toArray⟩ : ByteArray) = So ++ Sb) := hid (by
    rw [← HNl.out, ← HSo.out, ← HSb.out]
    apply ByteArray.ext
    simp [ByteArray.data_append])
  have HAd : Hid (∀ (x y : Operand) (v : World), (do eqGuard .add 9 x y (.string So) (.string Sb); binOp .add 9 (.string So) (.string Sb) : Sem Value).run Try.prog v = .ok (.string (So ++ Sb)) v) := hid (fun x y v => by
    have hsz : ¬ (9223372036854775807 < So.size + Sb.size) := by
      have h1 : So.size = ol.length := by rw [← HSo.out]; show ol.toArray.size = _; simp
      have h2 : Sb.size = (bs.take zz).length := by rw [← HSb.out]; show (bs.take zz).toArray.size = _; simp
      have h3 : (bs.take zz).length ≤ bs.length := by rw [List.length_take]; omega
      omega
    go_simp)
  have HEq : Hid (∀ (x y : Operand) (v : World), (do eqGuard .eql 9 x y (.string (So ++ Sb)) (.string (So ++ Sb)); binOp .eql 9 (.string (So ++ Sb)) (.string (So ++ Sb)) : Sem Value).run Try.prog v = .ok (.bool true) v) := hid (fun x y v => by
    have hsq : ((So ++ Sb).toList == (So ++ Sb).toList) = true := by simp
    go_simp)
  have HL1 : Hid (ol.length ≤ 17592186044416) := hid hol
  have HL2 : Hid (bs.length ≤ 17592186044416) := hid hbl
  clear HFn HFo hol hbl hI hbn
  go_enter Try.func18, Try.ntmps18
  go_upto_region 1 with ((with_reducible refine wpList_box_row (by with_unfolding_all rfl) 36 _ (by with_unfolding_all rfl) [Value.int .i64 1, .int .i64 on, .string nm, .string to, .slice ba bn bc, .int .i64 nv, .int .i64 kv, .slice fa fn fc] (by with_unfolding_all rfl) ?_); intro w1 B1 s1 g1; have HB1' := hid B1; have HG1 := hid g1; clear B1 s1 g1)
  obtain ⟨p8, hp8⟩ : ∃ x, u.heap.size = x := ⟨_, rfl⟩
  rw [hp8] at HB1' ⊢
  have HB1 : Hid (Blk w1 p8 [Value.int .i64 1, .int .i64 on, .string nm, .string to, .slice ba bn bc, .int .i64 nv, .int .i64 kv, .slice fa fn fc] 36) := hid HB1'.out
  clear hp8 HB1'
  have k0 := HB1.out.cell 0
  have k2 := HB1.out.cell 2
  have k4 := HB1.out.cell 4
  have HFo1 := hid (HFo'.out w1 HG1.out)
  have HFn1 := hid (HFn'.out w1 HG1.out)
  have HMk : Hid True := hid trivial
  go_upto_region 6 with (go_at_call 20; (with_reducible refine HFo1.out.mono ?_); rintro e w9 ⟨hw9, v9, rfl, hv9⟩; have hw9' := hw9.symm; clear hw9; subst hw9'; have HV9 := hid hv9; obtain ⟨oa, -, -, oc, rfl, -⟩ := hv9)
  go_upto_region 8 with (go_at_call 20; (with_reducible refine HFn1.out.mono ?_); rintro e w9' ⟨hw9, v8, rfl, hv8⟩; have hw9' := hw9.symm; clear hw9; subst hw9'; have HV8 := hid hv8; obtain ⟨na, -, -, nc, rfl, -⟩ := hv8)
  obtain ⟨on', hon⟩ : ∃ x, ol.length = x := ⟨_, rfl⟩
  obtain ⟨nn, hnn⟩ : ∃ x, nl.length = x := ⟨_, rfl⟩
  rw [hon] at HV9 ⊢
  rw [hnn] at HV8 ⊢
  have HCo : Hid (∀ v, w1.grownBy v none → (convert 33 9 (.slice oa on' oc)).run Try.prog v = .ok (.string So) v) := hid (fun v hv => by rw [← HSo.out]; exact (HV9.out.keep hv).convert)
  have HCn : Hid (∀ v, w1.grownBy v none → (convert 33 9 (.slice na nn nc)).run Try.prog v = .ok (.string (So ++ Sb)) v) := hid (fun v hv => by rw [← HSn.out]; exact (HV8.out.keep hv).convert)
  have HCb : Hid (∀ v, w1.grownBy v none → (convert 33 9 (.slice ba zz bc)).run Try.prog v = .ok (.string Sb) v) := hid (fun v hv => by rw [← HSb.out]; exact (HRt.out v (gtrans HG1.out hv)).convert)
  have HOt : Hid (∀ v, w1.grownBy v none → Calls Try.prog 21 #[.slice a0 n0 c0, .slice a2 n2 c2, .string nm] v fun e w' => ∃ x, e = .returned x ∧ v.grownBy w' none ∧ x = Value.bool true) := hid (fun v hv => HOt0.out v (gtrans HG1.out hv))
  clear hon hnn HV9 HV8 HFo1 HFn1 HFo' HFn' HOt0 HRb HRt HNl HSn HSo HSb
  by_cases hk : kp < 0
  · have hz0 : zz = 0 := by omega
    subst hz0
    cases H with
    | true =>
      rw [show (true || decide (0 < kp)) = true from by simp]
      as_aux_lemma =>
      have HKp : Hid (∀ (x y : Operand) (u : World), (do eqGuard .gtr 3 x y (.int .i64 kp) (.int .i64 0); binOp .gtr 3 (.int .i64 kp) (.int .i64 0) : Sem Value).run Try.prog u = .ok (.bool false) u) := hid (fun x y u => by have e : ¬ (0 : Int) < kp := (by omega); go_simp)
      go_upto_region 12 with fail
      refine wp_region_listX (by kernel_rfl) [fun v _ => v = (Value.slice a0 n0 c0), fun v _ => v = (Value.slice a2 n2 c2), fun v _ => v = (Value.pointer (some ⟨p8, 2, none⟩)), fun v _ => v = (Value.string nm), fun v _ => v = Value.bool true, fun v _ => v = Value.bool true, fun v _ => v = (Value.bool true), fun v _ => v = (Value.bool true), fun v _ => v = (Value.bool true), fun v _ => v = undef, fun v _ => v = undef, fun v _ => v = (Value.bool true), fun v _ => v = (Value.bool true), fun v _ => v = (Value.bool true), fun v _ => v = (Value.bool true), fun v _ => v = (Value.slice na nn nc), fun v _ => v = (Value.string (So ++ Sb)), fun v _ => v = (Value.slice oa on' oc), fun v _ => v = (Value.string So), fun v _ => v = (Value.pointer (some ⟨p8, 4, none⟩)), fun v _ => v = (Value.slice ba bn bc), fun v _ => v = (Value.int .i64 0), fun v _ => v = (Value.slice ba 0 bc), fun v _ => v = (Value.string Sb), fun v _ => v = (Value.string (So ++ Sb)), fun v _ => v = (Value.bool true), fun v _ => v = (Value.bool true), fun v _ => v = (Value.bool true)] (none) (fun _ => none) 28 (by kernel_rfl) (by kernel_rfl) (by kernel_rfl) (by kernel_rfl) (by decide) noRow_one (fun _ => .inl rfl) ⟨fun i v u u' hki h hg => h, fun i v u u' hki h hg => h, fun i v u u' hki h hg => h, fun i v u u' hki h hg => h, fun i v u u' hki h hg => h, fun i v u u' hki h hg => h, fun i v u u' hki h hg => h, fun i v u u' hki h hg => h, fun i v u u' hki h hg => h, fun i v u u' hki h hg => h, fun i v u u' hki h hg => h, fun i v u u' hki h hg => h, fun i v u u' hki h hg => h, fun i v u u' hki h hg => h, fun i v u u' hki h hg => h, fun i v u u' hki h hg => h, fun i v u u' hki h hg => h, fun i v u u' hki h hg => h, fun i v u u' hki h hg => h, fun i v u u' hki h hg => h, fun i v u u' hki h hg => h, fun i v u u' hki h hg => h, fun i v u u' hki h hg => h, fun i v u u' hki h hg => h, fun i v u u' hki h hg => h, fun i v u u' hki h hg => h, fun i v u u' hki h hg => h, fun i v u u' hki h hg => h, trivial⟩ ⟨?_, ?_, ?_, ?_, ?_, ?_, ?_, ?_, ?_, ?_, ?_, ?_, ?_, ?_, ?_, ?_, ?_, ?_, ?_, ?_, ?_, ?_, ?_, ?_, ?_, ?_, ?_, ?_, trivial⟩ ?_
      · intro A u hu hpu hsz hout hdeps
        have e0 : A.eval (.tmp 0) = (.slice a0 n0 c0) := (hout 0 (by kernel_rfl)).trans rfl
        refine ifw_none rfl ?_
        with_reducible refine shown_q (Value.slice a0 n0 c0) ?qq_1_0 (fun _ _ => ?qr_1_0)
        case qr_1_0 => exact (rfl : (Value.slice a0 n0 c0) = (Value.slice a0 n0 c0))
        with_reducible refine quietAt_mv (.tmp 0) (Value.slice a0 n0 c0) ?h0_1_0 ?h1_1_0
        case h0_1_0 => rfl
        case h1_1_0 => exact e0
      · intro A u hu hpu hsz hout hdeps
        have e2 : A.eval (.tmp 2) = (.slice a2 n2 c2) := (hout 2 (by kernel_rfl)).trans rfl
        refine ifw_none rfl ?_
        with_reducible refine shown_q (Value.slice a2 n2 c2) ?qq_1_1 (fun _ _ => ?qr_1_1)
        case qr_1_1 => exact (rfl : (Value.slice a2 n2 c2) = (Value.slice a2 n2 c2))
        with_reducible refine quietAt_mv (.tmp 2) (Value.slice a2 n2 c2) ?h0_1_1 ?h1_1_1
        case h0_1_1 => rfl
        case h1_1_1 => exact e2
      · intro A u hu hpu hsz hout hdeps
        have e8 : A.eval (.tmp 8) = (.pointer (some ⟨p8, 0, none⟩)) := (hout 8 (by kernel_rfl)).trans rfl
        refine ifw_none rfl ?_
        with_reducible refine shown_q (Value.pointer (some ⟨p8, 2, none⟩)) ?qq_1_2 (fun _ _ => ?qr_1_2)
        case qr_1_2 => exact (rfl : (Value.pointer (some ⟨p8, 2, none⟩)) = (Value.pointer (some ⟨p8, 2, none⟩)))
        with_reducible refine quietAt_field 36 (.tmp 8) 2 ?h0_1_2 ⟨p8, 0, none⟩ ⟨p8, 2, none⟩ ?h1_1_2 ?h2_1_2
        case h0_1_2 => rfl
        case h1_1_2 => exact e8
        case h2_1_2 => kernel_rfl
      · intro A u hu hpu hsz hout hdeps
        have e54 : A.eval (.tmp 54) = (.pointer (some ⟨p8, 2, none⟩)) := by have h := depL hdeps 2 (by kernel_rfl) 54 (by kernel_rfl); exact h
        refine ifw_none rfl ?_
        with_reducible refine shown_q (Value.string nm) ?qq_1_3 (fun _ _ => ?qr_1_3)
        case qr_1_3 => exact (rfl : (Value.string nm) = (Value.string nm))
        with_reducible refine quietAt_ld 9 (.tmp 54) (Value.pointer (some ⟨p8, 2, none⟩)) (Value.string nm) ?h0_1_3 ?h1_1_3 ?h2_1_3
        case h0_1_3 => rfl
        case h1_1_3 => exact e54
        case h2_1_3 => exact ld9 p8 2 nm u ((HB1.out.keep hu).cell 2)
      · intro A u hu hpu hsz hout hdeps
        have e52 : A.eval (.tmp 52) = (.slice a0 n0 c0) := by have h := depL hdeps 0 (by kernel_rfl) 52 (by kernel_rfl); exact h
        have e53 : A.eval (.tmp 53) = (.slice a2 n2 c2) := by have h := depL hdeps 1 (by kernel_rfl) 53 (by kernel_rfl); exact h
        have e55 : A.eval (.tmp 55) = (.string nm) := by have h := depL hdeps 3 (by kernel_rfl) 55 (by kernel_rfl); exact h
        refine ifw_none rfl ?_
        with_reducible refine shown_call 21 Try.f21 ?h0_1_4 ?h1_1_4 ?h2_1_4 #[.tmp 52, .tmp 53, .tmp 55] #[34, 34, 9] ?h3_1_4 #[(Value.slice a0 n0 c0), (Value.slice a2 n2 c2), (Value.string nm)] ?h4_1_4 ?h5_1_4
        case h0_1_4 => exact Try.func21
        case h1_1_4 => kernel_rfl
        case h2_1_4 => kernel_rfl
        case h3_1_4 => rfl
        case h4_1_4 => exact map3 _ _ _ _ _ _ _ e52 e53 e55
        case h5_1_4 => exact HOt.out u hu
      · intro A u hu hpu hsz hout hdeps
        have f56 : (fun v _ => v = Value.bool true) (A.eval (.tmp 56)) u := by have h := depL hdeps 4 (by kernel_rfl) 56 (by kernel_rfl); exact h
        have e56 := (f56 : _ = Value.bool true)
        refine ifw_none rfl ?_
        exact shown_q _ (quietAt_mv (.tmp 56) _ rfl e56) (fun u' hg => rfl)
      · intro A u hu hpu hsz hout hdeps
        have f57 : (fun v _ => v = Value.bool true) (A.eval (.tmp 57)) u := by have h := depL hdeps 5 (by kernel_rfl) 57 (by kernel_rfl); exact h
        have e57 := (f57 : _ = Value.bool true)
        have e14 : A.eval (.tmp 14) = (.bool true) := (hout 14 (by kernel_rfl)).trans rfl
        refine ifw_want 5 true 57 rfl rfl e57 ?_
        with_reducible refine shown_q (Value.bool true) ?qq_1_6 (fun _ _ => ?qr_1_6)
        case qr_1_6 => exact (rfl : (Value.bool true) = (Value.bool true))
        with_reducible refine quietAt_mv (.tmp 14) (Value.bool true) ?h0_1_6 ?h1_1_6
        case h0_1_6 => rfl
        case h1_1_6 => exact e14
      · intro A u hu hpu hsz hout hdeps
        have f57 : (fun v _ => v = Value.bool true) (A.eval (.tmp 57)) u := by have h := depL hdeps 5 (by kernel_rfl) 57 (by kernel_rfl); exact h
        have e57 := (f57 : _ = Value.bool true)
        have e12 : A.eval (.tmp 12) = (.bool true) := (hout 12 (by kernel_rfl)).trans rfl
        refine ifw_want 5 true 57 rfl rfl e57 ?_
        with_reducible refine shown_q (Value.bool true) ?qq_1_7 (fun _ _ => ?qr_1_7)
        case qr_1_7 => exact (rfl : (Value.bool true) = (Value.bool true))
        with_reducible refine quietAt_mv (.tmp 12) (Value.bool true) ?h0_1_7 ?h1_1_7
        case h0_1_7 => rfl
        case h1_1_7 => exact e12
      · intro A u hu hpu hsz hout hdeps
        have f57 : (fun v _ => v = Value.bool true) (A.eval (.tmp 57)) u := by have h := depL hdeps 5 (by kernel_rfl) 57 (by kernel_rfl); exact h
        have e57 := (f57 : _ = Value.bool true)
        have e59 : A.eval (.tmp 59) = (.bool true) := by have h := depL hdeps 7 (by kernel_rfl) 59 (by kernel_rfl); exact h
        refine ifw_want 5 true 57 rfl rfl e57 ?_
        with_reducible refine shown_q (Value.bool true) ?qq_1_8 (fun _ _ => ?qr_1_8)
        case qr_1_8 => exact (rfl : (Value.bool true) = (Value.bool true))
        with_reducible refine quietAt_mv (.tmp 59) (Value.bool true) ?h0_1_8 ?h1_1_8
        case h0_1_8 => rfl
        case h1_1_8 => exact e59
      · intro A u hu hpu hsz hout hdeps
        have e60 : A.eval (.tmp 60) = (.bool true) := by have h := depL hdeps 8 (by kernel_rfl) 60 (by kernel_rfl); exact h
        refine ifw_pass 8 false true 60 rfl rfl e60 (by decide) ?_
        exact rfl
      · intro A u hu hpu hsz hout hdeps
        have e60 : A.eval (.tmp 60) = (.bool true) := by have h := depL hdeps 8 (by kernel_rfl) 60 (by kernel_rfl); exact h
        refine ifw_pass 8 false true 60 rfl rfl e60 (by decide) ?_
        exact rfl
      · intro A u hu hpu hsz hout hdeps
        have f57 : (fun v _ => v = Value.bool true) (A.eval (.tmp 57)) u := by have h := depL hdeps 5 (by kernel_rfl) 57 (by kernel_rfl); exact h
        have e57 := (f57 : _ = Value.bool true)
        have e60 : A.eval (.tmp 60) = (.bool true) := by have h := depL hdeps 8 (by kernel_rfl) 60 (by kernel_rfl); exact h
        refine ifw_want 5 true 57 rfl rfl e57 ?_
        with_reducible refine shown_q (Value.bool true) ?qq_1_11 (fun _ _ => ?qr_1_11)
        case qr_1_11 => exact (rfl : (Value.bool true) = (Value.bool true))
        with_reducible refine quietAt_pick (.tmp 60) (.const (.bool true)) (.tmp 62) true (Value.bool true) ?h0_1_11 ?h1_1_11 ?h2_1_11
        case h0_1_11 => rfl
        case h1_1_11 => exact e60
        case h2_1_11 => rw [if_pos rfl]; exact rfl
      · intro A u hu hpu hsz hout hdeps
        have f57 : (fun v _ => v = Value.bool true) (A.eval (.tmp 57)) u := by have h := depL hdeps 5 (by kernel_rfl) 57 (by kernel_rfl); exact h
        have e57 := (f57 : _ = Value.bool true)
        have e58 : A.eval (.tmp 58) = (.bool true) := by have h := depL hdeps 6 (by kernel_rfl) 58 (by kernel_rfl); exact h
        have e63 : A.eval (.tmp 63) = (.bool true) := by have h := depL hdeps 11 (by kernel_rfl) 63 (by kernel_rfl); exact h
        refine ifw_want 5 true 57 rfl rfl e57 ?_
        with_reducible refine shown_q (Value.bool true) ?qq_1_12 (fun _ _ => ?qr_1_12)
        case qr_1_12 => exact (rfl : (Value.bool true) = (Value.bool true))
        with_reducible refine quietAt_bin .eql 4 (.tmp 58) (.tmp 63) 4 (Value.bool true) (Value.bool true) (Value.bool true) ?h0_1_12 ?h1_1_12 ?h2_1_12 ?h3_1_12
        case h0_1_12 => rfl
        case h1_1_12 => exact e58
        case h2_1_12 => exact e63
        case h3_1_12 => exact rfl
      · intro A u hu hpu hsz hout hdeps
        have f57 : (fun v _ => v = Value.bool true) (A.eval (.tmp 57)) u := by have h := depL hdeps 5 (by kernel_rfl) 57 (by kernel_rfl); exact h
        have e57 := (f57 : _ = Value.bool true)
        have e64 : A.eval (.tmp 64) = (.bool true) := by have h := depL hdeps 12 (by kernel_rfl) 64 (by kernel_rfl); exact h
        refine ifw_none rfl ?_
        with_reducible refine shown_q (Value.bool true) ?qq_1_13 (fun _ _ => ?qr_1_13)
        case qr_1_13 => exact (rfl : (Value.bool true) = (Value.bool true))
        with_reducible refine quietAt_pick (.tmp 57) (.tmp 64) (.const (.bool false)) true (Value.bool true) ?h0_1_13 ?h1_1_13 ?h2_1_13
        case h0_1_13 => rfl
        case h1_1_13 => exact e57
        case h2_1_13 => rw [if_pos rfl]; exact e64
      · intro A u hu hpu hsz hout hdeps
        have e65 : A.eval (.tmp 65) = (.bool true) := by have h := depL hdeps 13 (by kernel_rfl) 65 (by kernel_rfl); exact h
        refine ifw_none rfl ?_
        with_reducible refine shown_q (Value.bool true) ?qq_1_14 (fun _ _ => ?qr_1_14)
        case qr_1_14 => exact (rfl : (Value.bool true) = (Value.bool true))
        with_reducible refine quietAt_mv (.tmp 65) (Value.bool true) ?h0_1_14 ?h1_1_14
        case h0_1_14 => rfl
        case h1_1_14 => exact e65
      · intro A u hu hpu hsz hout hdeps
        have e66 : A.eval (.tmp 66) = (.bool true) := by have h := depL hdeps 14 (by kernel_rfl) 66 (by kernel_rfl); exact h
        have e13 : A.eval (.tmp 13) = (.slice na nn nc) := (hout 13 (by kernel_rfl)).trans rfl
        refine ifw_want 14 true 66 rfl rfl e66 ?_
        with_reducible refine shown_q (Value.slice na nn nc) ?qq_1_15 (fun _ _ => ?qr_1_15)
        case qr_1_15 => exact (rfl : (Value.slice na nn nc) = (Value.slice na nn nc))
        with_reducible refine quietAt_mv (.tmp 13) (Value.slice na nn nc) ?h0_1_15 ?h1_1_15
        case h0_1_15 => rfl
        case h1_1_15 => exact e13
      · intro A u hu hpu hsz hout hdeps
        have e66 : A.eval (.tmp 66) = (.bool true) := by have h := depL hdeps 14 (by kernel_rfl) 66 (by kernel_rfl); exact h
        have e67 : A.eval (.tmp 67) = (.slice na nn nc) := by have h := depL hdeps 15 (by kernel_rfl) 67 (by kernel_rfl); exact h
        refine ifw_want 14 true 66 rfl rfl e66 ?_
        with_reducible refine shown_q (Value.string (So ++ Sb)) ?qq_1_16 (fun _ _ => ?qr_1_16)
        case qr_1_16 => exact (rfl : (Value.string (So ++ Sb)) = (Value.string (So ++ Sb)))
        with_reducible refine quietAt_cv 33 9 (.tmp 67) (Value.slice na nn nc) (Value.string (So ++ Sb)) ?h0_1_16 ?h1_1_16 ?h2_1_16
        case h0_1_16 => rfl
        case h1_1_16 => exact e67
        case h2_1_16 => exact (HCn.out u hu)
      · intro A u hu hpu hsz hout hdeps
        have e66 : A.eval (.tmp 66) = (.bool true) := by have h := depL hdeps 14 (by kernel_rfl) 66 (by kernel_rfl); exact h
        have e11 : A.eval (.tmp 11) = (.slice oa on' oc) := (hout 11 (by kernel_rfl)).trans rfl
        refine ifw_want 14 true 66 rfl rfl e66 ?_
        with_reducible refine shown_q (Value.slice oa on' oc) ?qq_1_17 (fun _ _ => ?qr_1_17)
        case qr_1_17 => exact (rfl : (Value.slice oa on' oc) = (Value.slice oa on' oc))
        with_reducible refine quietAt_mv (.tmp 11) (Value.slice oa on' oc) ?h0_1_17 ?h1_1_17
        case h0_1_17 => rfl
        case h1_1_17 => exact e11
      · intro A u hu hpu hsz hout hdeps
        have e66 : A.eval (.tmp 66) = (.bool true) := by have h := depL hdeps 14 (by kernel_rfl) 66 (by kernel_rfl); exact h
        have e69 : A.eval (.tmp 69) = (.slice oa on' oc) := by have h := depL hdeps 17 (by kernel_rfl) 69 (by kernel_rfl); exact h
        refine ifw_want 14 true 66 rfl rfl e66 ?_
        with_reducible refine shown_q (Value.string So) ?qq_1_18 (fun _ _ => ?qr_1_18)
        case qr_1_18 => exact (rfl : (Value.string So) = (Value.string So))
        with_reducible refine quietAt_cv 33 9 (.tmp 69) (Value.slice oa on' oc) (Value.string So) ?h0_1_18 ?h1_1_18 ?h2_1_18
        case h0_1_18 => rfl
        case h1_1_18 => exact e69
        case h2_1_18 => exact (HCo.out u hu)
      · intro A u hu hpu hsz hout hdeps
        have e66 : A.eval (.tmp 66) = (.bool true) := by have h := depL hdeps 14 (by kernel_rfl) 66 (by kernel_rfl); exact h
        have e8 : A.eval (.tmp 8) = (.pointer (some ⟨p8, 0, none⟩)) := (hout 8 (by kernel_rfl)).trans rfl
        refine ifw_want 14 true 66 rfl rfl e66 ?_
        with_reducible refine shown_q (Value.pointer (some ⟨p8, 4, none⟩)) ?qq_1_19 (fun _ _ => ?qr_1_19)
        case qr_1_19 => exact (rfl : (Value.pointer (some ⟨p8, 4, none⟩)) = (Value.pointer (some ⟨p8, 4, none⟩)))
        with_reducible refine quietAt_field 36 (.tmp 8) 4 ?h0_1_19 ⟨p8, 0, none⟩ ⟨p8, 4, none⟩ ?h1_1_19 ?h2_1_19
        case h0_1_19 => rfl
        case h1_1_19 => exact e8
        case h2_1_19 => kernel_rfl
      · intro A u hu hpu hsz hout hdeps
        have e66 : A.eval (.tmp 66) = (.bool true) := by have h := depL hdeps 14 (by kernel_rfl) 66 (by kernel_rfl); exact h
        have e71 : A.eval (.tmp 71) = (.pointer (some ⟨p8, 4, none⟩)) := by have h := depL hdeps 19 (by kernel_rfl) 71 (by kernel_rfl); exact h
        refine ifw_want 14 true 66 rfl rfl e66 ?_
        with_reducible refine shown_q (Value.slice ba bn bc) ?qq_1_20 (fun _ _ => ?qr_1_20)
        case qr_1_20 => exact (rfl : (Value.slice ba bn bc) = (Value.slice ba bn bc))
        with_reducible refine quietAt_ld 33 (.tmp 71) (Value.pointer (some ⟨p8, 4, none⟩)) (Value.slice ba bn bc) ?h0_1_20 ?h1_1_20 ?h2_1_20
        case h0_1_20 => rfl
        case h1_1_20 => exact e71
        case h2_1_20 => exact ld33 p8 4 bn bc ba u ((HB1.out.keep hu).cell 4)
      · intro A u hu hpu hsz hout hdeps
        have e66 : A.eval (.tmp 66) = (.bool true) := by have h := depL hdeps 14 (by kernel_rfl) 66 (by kernel_rfl); exact h
        have e15 : A.eval (.tmp 15) = (.int .i64 0) := (hout 15 (by kernel_rfl)).trans rfl
        refine ifw_want 14 true 66 rfl rfl e66 ?_
        with_reducible refine shown_q (Value.int .i64 0) ?qq_1_21 (fun _ _ => ?qr_1_21)
        case qr_1_21 => exact (rfl : (Value.int .i64 0) = (Value.int .i64 0))
        with_reducible refine quietAt_mv (.tmp 15) (Value.int .i64 0) ?h0_1_21 ?h1_1_21
        case h0_1_21 => rfl
        case h1_1_21 => exact e15
      · intro A u hu hpu hsz hout hdeps
        have e66 : A.eval (.tmp 66) = (.bool true) := by have h := depL hdeps 14 (by kernel_rfl) 66 (by kernel_rfl); exact h
        have e72 : A.eval (.tmp 72) = (.slice ba bn bc) := by have h := depL hdeps 20 (by kernel_rfl) 72 (by kernel_rfl); exact h
        have e73 : A.eval (.tmp 73) = (.int .i64 0) := by have h := depL hdeps 21 (by kernel_rfl) 73 (by kernel_rfl); exact h
        refine ifw_want 14 true 66 rfl rfl e66 ?_
        with_reducible refine shown_q (Value.slice ba 0 bc) ?qq_1_22 (fun _ _ => ?qr_1_22)
        case qr_1_22 => exact (rfl : (Value.slice ba 0 bc) = (Value.slice ba 0 bc))
        with_reducible refine quietAt_sliceh 33 (.tmp 72) (.tmp 73) (Value.slice ba bn bc) (Value.int .i64 0) (Value.slice ba 0 bc) ?h0_1_22 ?h1_1_22 ?h2_1_22 ?h3_1_22
        case h0_1_22 => rfl
        case h1_1_22 => exact e72
        case h2_1_22 => exact e73
        case h3_1_22 => exact HSl.out u
      · intro A u hu hpu hsz hout hdeps
        have e66 : A.eval (.tmp 66) = (.bool true) := by have h := depL hdeps 14 (by kernel_rfl) 66 (by kernel_rfl); exact h
        have e74 : A.eval (.tmp 74) = (.slice ba 0 bc) := by have h := depL hdeps 22 (by kernel_rfl) 74 (by kernel_rfl); exact h
        refine ifw_want 14 true 66 rfl rfl e66 ?_
        with_reducible refine shown_q (Value.string Sb) ?qq_1_23 (fun _ _ => ?qr_1_23)
        case qr_1_23 => exact (rfl : (Value.string Sb) = (Value.string Sb))
        with_reducible refine quietAt_cv 33 9 (.tmp 74) (Value.slice ba 0 bc) (Value.string Sb) ?h0_1_23 ?h1_1_23 ?h2_1_23
        case h0_1_23 => rfl
        case h1_1_23 => exact e74
        case h2_1_23 => exact (HCb.out u hu)
      · intro A u hu hpu hsz hout hdeps
        have e66 : A.eval (.tmp 66) = (.bool true) := by have h := depL hdeps 14 (by kernel_rfl) 66 (by kernel_rfl); exact h
        have e70 : A.eval (.tmp 70) = (.string So) := by have h := depL hdeps 18 (by kernel_rfl) 70 (by kernel_rfl); exact h
        have e75 : A.eval (.tmp 75) = (.string Sb) := by have h := depL hdeps 23 (by kernel_rfl) 75 (by kernel_rfl); exact h
        refine ifw_want 14 true 66 rfl rfl e66 ?_
        with_reducible refine shown_q (Value.string (So ++ Sb)) ?qq_1_24 (fun _ _ => ?qr_1_24)
        case qr_1_24 => exact (rfl : (Value.string (So ++ Sb)) = (Value.string (So ++ Sb)))
        with_reducible refine quietAt_bin .add 9 (.tmp 70) (.tmp 75) 9 (Value.string So) (Value.string Sb) (Value.string (So ++ Sb)) ?h0_1_24 ?h1_1_24 ?h2_1_24 ?h3_1_24
        case h0_1_24 => rfl
        case h1_1_24 => exact e70
        case h2_1_24 => exact e75
        case h3_1_24 => exact HAd.out _ _ u
      · intro A u hu hpu hsz hout hdeps
        have e66 : A.eval (.tmp 66) = (.bool true) := by have h := depL hdeps 14 (by kernel_rfl) 66 (by kernel_rfl); exact h
        have e68 : A.eval (.tmp 68) = (.string (So ++ Sb)) := by have h := depL hdeps 16 (by kernel_rfl) 68 (by kernel_rfl); exact h
        have e76 : A.eval (.tmp 76) = (.string (So ++ Sb)) := by have h := depL hdeps 24 (by kernel_rfl) 76 (by kernel_rfl); exact h
        refine ifw_want 14 true 66 rfl rfl e66 ?_
        with_reducible refine shown_q (Value.bool true) ?qq_1_25 (fun _ _ => ?qr_1_25)
        case qr_1_25 => exact (rfl : (Value.bool true) = (Value.bool true))
        with_reducible refine quietAt_bin .eql 9 (.tmp 68) (.tmp 76) 9 (Value.string (So ++ Sb)) (Value.string (So ++ Sb)) (Value.bool true) ?h0_1_25 ?h1_1_25 ?h2_1_25 ?h3_1_25
        case h0_1_25 => rfl
        case h1_1_25 => exact e68
        case h2_1_25 => exact e76
        case h3_1_25 => exact HEq.out _ _ u
      · intro A u hu hpu hsz hout hdeps
        have e66 : A.eval (.tmp 66) = (.bool true) := by have h := depL hdeps 14 (by kernel_rfl) 66 (by kernel_rfl); exact h
        have e77 : A.eval (.tmp 77) = (.bool true) := by have h := depL hdeps 25 (by kernel_rfl) 77 (by kernel_rfl); exact h
        refine ifw_none rfl ?_
        with_reducible refine shown_q (Value.bool true) ?qq_1_26 (fun _ _ => ?qr_1_26)
        case qr_1_26 => exact (rfl : (Value.bool true) = (Value.bool true))
        with_reducible refine quietAt_pick (.tmp 66) (.tmp 77) (.const (.bool false)) true (Value.bool true) ?h0_1_26 ?h1_1_26 ?h2_1_26
        case h0_1_26 => rfl
        case h1_1_26 => exact e66
        case h2_1_26 => rw [if_pos rfl]; exact e77
      · intro A u hu hpu hsz hout hdeps
        have e78 : A.eval (.tmp 78) = (.bool true) := by have h := depL hdeps 26 (by kernel_rfl) 78 (by kernel_rfl); exact h
        refine ifw_none rfl ?_
        with_reducible refine shown_q (Value.bool true) ?qq_1_27 (fun _ _ => ?qr_1_27)
        case qr_1_27 => exact (rfl : (Value.bool true) = (Value.bool true))
        with_reducible refine quietAt_as (.tmp 78) (Value.bool true) ?h0_1_27 ?h1_1_27
        case h0_1_27 => rfl
        case h1_1_27 => exact e78
      · intro A u8 listed hh hall
        have hA := hh.frame
        have HU := hid hh.grown
        obtain ⟨x52, hx52⟩ : ∃ x, A.eval (.tmp 52) = x := ⟨_, rfl⟩
        have f52 : (fun v _ => v = (Value.slice a0 n0 c0)) x52 u8 := by rw [← hx52]; exact hh.got 0 _ 52 rfl rfl (hall 0 (by decide))
        obtain ⟨x53, hx53⟩ : ∃ x, A.eval (.tmp 53) = x := ⟨_, rfl⟩
        have f53 : (fun v _ => v = (Value.slice a2 n2 c2)) x53 u8 := by rw [← hx53]; exact hh.got 1 _ 53 rfl rfl (hall 1 (by decide))
        obtain ⟨x54, hx54⟩ : ∃ x, A.eval (.tmp 54) = x := ⟨_, rfl⟩
        have f54 : (fun v _ => v = (Value.pointer (some ⟨p8, 2, none⟩))) x54 u8 := by rw [← hx54]; exact hh.got 2 _ 54 rfl rfl (hall 2 (by decide))
        obtain ⟨x55, hx55⟩ : ∃ x, A.eval (.tmp 55) = x := ⟨_, rfl⟩
        have f55 : (fun v _ => v = (Value.string nm)) x55 u8 := by rw [← hx55]; exact hh.got 3 _ 55 rfl rfl (hall 3 (by decide))
        obtain ⟨x56, hx56⟩ : ∃ x, A.eval (.tmp 56) = x := ⟨_, rfl⟩
        have f56 : (fun v _ => v = Value.bool true) x56 u8 := by rw [← hx56]; exact hh.got 4 _ 56 rfl rfl (hall 4 (by decide))
        obtain ⟨x57, hx57⟩ : ∃ x, A.eval (.tmp 57) = x := ⟨_, rfl⟩
        have f57 : (fun v _ => v = Value.bool true) x57 u8 := by rw [← hx57]; exact hh.got 5 _ 57 rfl rfl (hall 5 (by decide))
        obtain ⟨x58, hx58⟩ : ∃ x, A.eval (.tmp 58) = x := ⟨_, rfl⟩
        have f58 : (fun v _ => v = (Value.bool true)) x58 u8 := by rw [← hx58]; exact hh.got 6 _ 58 rfl rfl (hall 6 (by decide))
        obtain ⟨x59, hx59⟩ : ∃ x, A.eval (.tmp 59) = x := ⟨_, rfl⟩
        have f59 : (fun v _ => v = (Value.bool true)) x59 u8 := by rw [← hx59]; exact hh.got 7 _ 59 rfl rfl (hall 7 (by decide))
        obtain ⟨x60, hx60⟩ : ∃ x, A.eval (.tmp 60) = x := ⟨_, rfl⟩
        have f60 : (fun v _ => v = (Value.bool true)) x60 u8 := by rw [← hx60]; exact hh.got 8 _ 60 rfl rfl (hall 8 (by decide))
        obtain ⟨x61, hx61⟩ : ∃ x, A.eval (.tmp 61) = x := ⟨_, rfl⟩
        have f61 : (fun v _ => v = undef) x61 u8 := by rw [← hx61]; exact hh.got 9 _ 61 rfl rfl (hall 9 (by decide))
        obtain ⟨x62, hx62⟩ : ∃ x, A.eval (.tmp 62) = x := ⟨_, rfl⟩
        have f62 : (fun v _ => v = undef) x62 u8 := by rw [← hx62]; exact hh.got 10 _ 62 rfl rfl (hall 10 (by decide))
        obtain ⟨x63, hx63⟩ : ∃ x, A.eval (.tmp 63) = x := ⟨_, rfl⟩
        have f63 : (fun v _ => v = (Value.bool true)) x63 u8 := by rw [← hx63]; exact hh.got 11 _ 63 rfl rfl (hall 11 (by decide))
        obtain ⟨x64, hx64⟩ : ∃ x, A.eval (.tmp 64) = x := ⟨_, rfl⟩
        have f64 : (fun v _ => v = (Value.bool true)) x64 u8 := by rw [← hx64]; exact hh.got 12 _ 64 rfl rfl (hall 12 (by decide))
        obtain ⟨x65, hx65⟩ : ∃ x, A.eval (.tmp 65) = x := ⟨_, rfl⟩
        have f65 : (fun v _ => v = (Value.bool true)) x65 u8 := by rw [← hx65]; exact hh.got 13 _ 65 rfl rfl (hall 13 (by decide))
        obtain ⟨x66, hx66⟩ : ∃ x, A.eval (.tmp 66) = x := ⟨_, rfl⟩
        have f66 : (fun v _ => v = (Value.bool true)) x66 u8 := by rw [← hx66]; exact hh.got 14 _ 66 rfl rfl (hall 14 (by decide))
        obtain ⟨x67, hx67⟩ : ∃ x, A.eval (.tmp 67) = x := ⟨_, rfl⟩
        have f67 : (fun v _ => v = (Value.slice na nn nc)) x67 u8 := by rw [← hx67]; exact hh.got 15 _ 67 rfl rfl (hall 15 (by decide))
        obtain ⟨x68, hx68⟩ : ∃ x, A.eval (.tmp 68) = x := ⟨_, rfl⟩
        have f68 : (fun v _ => v = (Value.string (So ++ Sb))) x68 u8 := by rw [← hx68]; exact hh.got 16 _ 68 rfl rfl (hall 16 (by decide))
        obtain ⟨x69, hx69⟩ : ∃ x, A.eval (.tmp 69) = x := ⟨_, rfl⟩
        have f69 : (fun v _ => v = (Value.slice oa on' oc)) x69 u8 := by rw [← hx69]; exact hh.got 17 _ 69 rfl rfl (hall 17 (by decide))
        obtain ⟨x70, hx70⟩ : ∃ x, A.eval (.tmp 70) = x := ⟨_, rfl⟩
        have f70 : (fun v _ => v = (Value.string So)) x70 u8 := by rw [← hx70]; exact hh.got 18 _ 70 rfl rfl (hall 18 (by decide))
        obtain ⟨x71, hx71⟩ : ∃ x, A.eval (.tmp 71) = x := ⟨_, rfl⟩
        have f71 : (fun v _ => v = (Value.pointer (some ⟨p8, 4, none⟩))) x71 u8 := by rw [← hx71]; exact hh.got 19 _ 71 rfl rfl (hall 19 (by decide))
        obtain ⟨x72, hx72⟩ : ∃ x, A.eval (.tmp 72) = x := ⟨_, rfl⟩
        have f72 : (fun v _ => v = (Value.slice ba bn bc)) x72 u8 := by rw [← hx72]; exact hh.got 20 _ 72 rfl rfl (hall 20 (by decide))
        obtain ⟨x73, hx73⟩ : ∃ x, A.eval (.tmp 73) = x := ⟨_, rfl⟩
        have f73 : (fun v _ => v = (Value.int .i64 0)) x73 u8 := by rw [← hx73]; exact hh.got 21 _ 73 rfl rfl (hall 21 (by decide))
        obtain ⟨x74, hx74⟩ : ∃ x, A.eval (.tmp 74) = x := ⟨_, rfl⟩
        have f74 : (fun v _ => v = (Value.slice ba 0 bc)) x74 u8 := by rw [← hx74]; exact hh.got 22 _ 74 rfl rfl (hall 22 (by decide))
        obtain ⟨x75, hx75⟩ : ∃ x, A.eval (.tmp 75) = x := ⟨_, rfl⟩
        have f75 : (fun v _ => v = (Value.string Sb)) x75 u8 := by rw [← hx75]; exact hh.got 23 _ 75 rfl rfl (hall 23 (by decide))
        obtain ⟨x76, hx76⟩ : ∃ x, A.eval (.tmp 76) = x := ⟨_, rfl⟩
        have f76 : (fun v _ => v = (Value.string (So ++ Sb))) x76 u8 := by rw [← hx76]; exact hh.got 24 _ 76 rfl rfl (hall 24 (by decide))
        obtain ⟨x77, hx77⟩ : ∃ x, A.eval (.tmp 77) = x := ⟨_, rfl⟩
        have f77 : (fun v _ => v = (Value.bool true)) x77 u8 := by rw [← hx77]; exact hh.got 25 _ 77 rfl rfl (hall 25 (by decide))
        obtain ⟨x78, hx78⟩ : ∃ x, A.eval (.tmp 78) = x := ⟨_, rfl⟩
        have f78 : (fun v _ => v = (Value.bool true)) x78 u8 := by rw [← hx78]; exact hh.got 26 _ 78 rfl rfl (hall 26 (by decide))
        obtain ⟨x10, hx10⟩ : ∃ x, A.eval (.tmp 10) = x := ⟨_, rfl⟩
        have f10 : (fun v _ => v = (Value.bool true)) x10 u8 := by rw [← hx10]; exact hh.got 27 _ 10 rfl rfl (hall 27 (by decide))
        dsimp only [wrote, List.foldl] at hA
        rw [hx52, hx53, hx54, hx55, hx56, hx57, hx58, hx59, hx60, hx61, hx62, hx63, hx64, hx65, hx66, hx67, hx68, hx69, hx70, hx71, hx72, hx73, hx74, hx75, hx76, hx77, hx78, hx10] at hA
        clear hh hall hx52 hx53 hx54 hx55 hx56 hx57 hx58 hx59 hx60 hx61 hx62 hx63 hx64 hx65 hx66 hx67 hx68 hx69 hx70 hx71 hx72 hx73 hx74 hx75 hx76 hx77 hx78 hx10
        replace f52 := (f52 : x52 = (.slice a0 n0 c0))
        subst f52
        replace f53 := (f53 : x53 = (.slice a2 n2 c2))
        subst f53
        replace f54 := (f54 : x54 = (.pointer (some ⟨p8, 2, none⟩)))
        subst f54
        replace f55 := (f55 : x55 = (.string nm))
        subst f55
        have e56 := (f56 : _ = Value.bool true)
        subst e56
        have e57 := (f57 : _ = Value.bool true)
        subst e57
        replace f58 := (f58 : x58 = (.bool true))
        subst f58
        replace f59 := (f59 : x59 = (.bool true))
        subst f59
        replace f60 := (f60 : x60 = (.bool true))
        subst f60
        replace f61 := (f61 : x61 = undef)
        subst f61
        replace f62 := (f62 : x62 = undef)
        subst f62
        replace f63 := (f63 : x63 = (.bool true))
        subst f63
        replace f64 := (f64 : x64 = (.bool true))
        subst f64
        replace f65 := (f65 : x65 = (.bool true))
        subst f65
        replace f66 := (f66 : x66 = (.bool true))
        subst f66
        replace f67 := (f67 : x67 = (.slice na nn nc))
        subst f67
        replace f68 := (f68 : x68 = (.string (So ++ Sb)))
        subst f68
        replace f69 := (f69 : x69 = (.slice oa on' oc))
        subst f69
        replace f70 := (f70 : x70 = (.string So))
        subst f70
        replace f71 := (f71 : x71 = (.pointer (some ⟨p8, 4, none⟩)))
        subst f71
        replace f72 := (f72 : x72 = (.slice ba bn bc))
        subst f72
        replace f73 := (f73 : x73 = (.int .i64 0))
        subst f73
        replace f74 := (f74 : x74 = (.slice ba 0 bc))
        subst f74
        replace f75 := (f75 : x75 = (.string Sb))
        subst f75
        replace f76 := (f76 : x76 = (.string (So ++ Sb)))
        subst f76
        replace f77 := (f77 : x77 = (.bool true))
        subst f77
        replace f78 := (f78 : x78 = (.bool true))
        subst f78
        replace f10 := (f10 : x10 = (.bool true))
        subst f10
        subst hA
        show wpList _ _ _ [] _ _
        unfold wpList
        simp only [Act.put, List.setIfInBounds_toArray, List.set_cons_succ, List.set_cons_zero]
        go_wp2_with fail
        go_ret
        exact ⟨rfl, gtrans HG1.out HU.out⟩
    | false =>
      rw [show (false || decide (0 < kp)) = false from by simp; omega]
      as_aux_lemma =>
      have HKp : Hid (∀ (x y : Operand) (u : World), (do eqGuard .gtr 3 x y (.int .i64 kp) (.int .i64 0); binOp .gtr 3 (.int .i64 kp) (.int .i64 0) : Sem Value).run Try.prog u = .ok (.bool false) u) := hid (fun x y u => by have e : ¬ (0 : Int) < kp := (by omega); go_simp)
      go_upto_region 12 with fail
      refine wp_region_listX (by kernel_rfl) [fun v _ => v = (Value.slice a0 n0 c0), fun v _ => v = (Value.slice a2 n2 c2), fun v _ => v = (Value.pointer (some ⟨p8, 2, none⟩)), fun v _ => v = (Value.string nm), fun v _ => v = Value.bool true, fun v _ => v = Value.bool true, fun v _ => v = (Value.bool false), fun v _ => v = (Value.bool false), fun v _ => v = (Value.bool false), fun v _ => v = (Value.int .i64 kp), fun v _ => v = (Value.bool false), fun v _ => v = (Value.bool false), fun v _ => v = (Value.bool true), fun v _ => v = (Value.bool true), fun v _ => v = (Value.bool true), fun v _ => v = (Value.slice na nn nc), fun v _ => v = (Value.string (So ++ Sb)), fun v _ => v = (Value.slice oa on' oc), fun v _ => v = (Value.string So), fun v _ => v = (Value.pointer (some ⟨p8, 4, none⟩)), fun v _ => v = (Value.slice ba bn bc), fun v _ => v = (Value.int .i64 0), fun v _ => v = (Value.slice ba 0 bc), fun v _ => v = (Value.string Sb), fun v _ => v = (Value.string (So ++ Sb)), fun v _ => v = (Value.bool true), fun v _ => v = (Value.bool true), fun v _ => v = (Value.bool true)] (none) (fun _ => none) 28 (by kernel_rfl) (by kernel_rfl) (by kernel_rfl) (by kernel_rfl) (by decide) noRow_one (fun _ => .inl rfl) ⟨fun i v u u' hki h hg => h, fun i v u u' hki h hg => h, fun i v u u' hki h hg => h, fun i v u u' hki h hg => h, fun i v u u' hki h hg => h, fun i v u u' hki h hg => h, fun i v u u' hki h hg => h, fun i v u u' hki h hg => h, fun i v u u' hki h hg => h, fun i v u u' hki h hg => h, fun i v u u' hki h hg => h, fun i v u u' hki h hg => h, fun i v u u' hki h hg => h, fun i v u u' hki h hg => h, fun i v u u' hki h hg => h, fun i v u u' hki h hg => h, fun i v u u' hki h hg => h, fun i v u u' hki h hg => h, fun i v u u' hki h hg => h, fun i v u u' hki h hg => h, fun i v u u' hki h hg => h, fun i v u u' hki h hg => h, fun i v u u' hki h hg => h, fun i v u u' hki h hg => h, fun i v u u' hki h hg => h, fun i v u u' hki h hg => h, fun i v u u' hki h hg => h, fun i v u u' hki h hg => h, trivial⟩ ⟨?_, ?_, ?_, ?_, ?_, ?_, ?_, ?_, ?_, ?_, ?_, ?_, ?_, ?_, ?_, ?_, ?_, ?_, ?_, ?_, ?_, ?_, ?_, ?_, ?_, ?_, ?_, ?_, trivial⟩ ?_
      · intro A u hu hpu hsz hout hdeps
        have e0 : A.eval (.tmp 0) = (.slice a0 n0 c0) := (hout 0 (by kernel_rfl)).trans rfl
        refine ifw_none rfl ?_
        with_reducible refine shown_q (Value.slice a0 n0 c0) ?qq_2_0 (fun _ _ => ?qr_2_0)
        case qr_2_0 => exact (rfl : (Value.slice a0 n0 c0) = (Value.slice a0 n0 c0))
        with_reducible refine quietAt_mv (.tmp 0) (Value.slice a0 n0 c0) ?h0_2_0 ?h1_2_0
        case h0_2_0 => rfl
        case h1_2_0 => exact e0
      · intro A u hu hpu hsz hout hdeps
        have e2 : A.eval (.tmp 2) = (.slice a2 n2 c2) := (hout 2 (by kernel_rfl)).trans rfl
        refine ifw_none rfl ?_
        with_reducible refine shown_q (Value.slice a2 n2 c2) ?qq_2_1 (fun _ _ => ?qr_2_1)
        case qr_2_1 => exact (rfl : (Value.slice a2 n2 c2) = (Value.slice a2 n2 c2))
        with_reducible refine quietAt_mv (.tmp 2) (Value.slice a2 n2 c2) ?h0_2_1 ?h1_2_1
        case h0_2_1 => rfl
        case h1_2_1 => exact e2
      · intro A u hu hpu hsz hout hdeps
        have e8 : A.eval (.tmp 8) = (.pointer (some ⟨p8, 0, none⟩)) := (hout 8 (by kernel_rfl)).trans rfl
        refine ifw_none rfl ?_
        with_reducible refine shown_q (Value.pointer (some ⟨p8, 2, none⟩)) ?qq_2_2 (fun _ _ => ?qr_2_2)
        case qr_2_2 => exact (rfl : (Value.pointer (some ⟨p8, 2, none⟩)) = (Value.pointer (some ⟨p8, 2, none⟩)))
        with_reducible refine quietAt_field 36 (.tmp 8) 2 ?h0_2_2 ⟨p8, 0, none⟩ ⟨p8, 2, none⟩ ?h1_2_2 ?h2_2_2
        case h0_2_2 => rfl
        case h1_2_2 => exact e8
        case h2_2_2 => kernel_rfl
      · intro A u hu hpu hsz hout hdeps
        have e54 : A.eval (.tmp 54) = (.pointer (some ⟨p8, 2, none⟩)) := by have h := depL hdeps 2 (by kernel_rfl) 54 (by kernel_rfl); exact h
        refine ifw_none rfl ?_
        with_reducible refine shown_q (Value.string nm) ?qq_2_3 (fun _ _ => ?qr_2_3)
        case qr_2_3 => exact (rfl : (Value.string nm) = (Value.string nm))
        with_reducible refine quietAt_ld 9 (.tmp 54) (Value.pointer (some ⟨p8, 2, none⟩)) (Value.string nm) ?h0_2_3 ?h1_2_3 ?h2_2_3
        case h0_2_3 => rfl
        case h1_2_3 => exact e54
        case h2_2_3 => exact ld9 p8 2 nm u ((HB1.out.keep hu).cell 2)
      · intro A u hu hpu hsz hout hdeps
        have e52 : A.eval (.tmp 52) = (.slice a0 n0 c0) := by have h := depL hdeps 0 (by kernel_rfl) 52 (by kernel_rfl); exact h
        have e53 : A.eval (.tmp 53) = (.slice a2 n2 c2) := by have h := depL hdeps 1 (by kernel_rfl) 53 (by kernel_rfl); exact h
        have e55 : A.eval (.tmp 55) = (.string nm) := by have h := depL hdeps 3 (by kernel_rfl) 55 (by kernel_rfl); exact h
        refine ifw_none rfl ?_
        with_reducible refine shown_call 21 Try.f21 ?h0_2_4 ?h1_2_4 ?h2_2_4 #[.tmp 52, .tmp 53, .tmp 55] #[34, 34, 9] ?h3_2_4 #[(Value.slice a0 n0 c0), (Value.slice a2 n2 c2), (Value.string nm)] ?h4_2_4 ?h5_2_4
        case h0_2_4 => exact Try.func21
        case h1_2_4 => kernel_rfl
        case h2_2_4 => kernel_rfl
        case h3_2_4 => rfl
        case h4_2_4 => exact map3 _ _ _ _ _ _ _ e52 e53 e55
        case h5_2_4 => exact HOt.out u hu
      · intro A u hu hpu hsz hout hdeps
        have f56 : (fun v _ => v = Value.bool true) (A.eval (.tmp 56)) u := by have h := depL hdeps 4 (by kernel_rfl) 56 (by kernel_rfl); exact h
        have e56 := (f56 : _ = Value.bool true)
        refine ifw_none rfl ?_
        exact shown_q _ (quietAt_mv (.tmp 56) _ rfl e56) (fun u' hg => rfl)
      · intro A u hu hpu hsz hout hdeps
        have f57 : (fun v _ => v = Value.bool true) (A.eval (.tmp 57)) u := by have h := depL hdeps 5 (by kernel_rfl) 57 (by kernel_rfl); exact h
        have e57 := (f57 : _ = Value.bool true)
        have e14 : A.eval (.tmp 14) = (.bool false) := (hout 14 (by kernel_rfl)).trans rfl
        refine ifw_want 5 true 57 rfl rfl e57 ?_
        with_reducible refine shown_q (Value.bool false) ?qq_2_6 (fun _ _ => ?qr_2_6)
        case qr_2_6 => exact (rfl : (Value.bool false) = (Value.bool false))
        with_reducible refine quietAt_mv (.tmp 14) (Value.bool false) ?h0_2_6 ?h1_2_6
        case h0_2_6 => rfl
        case h1_2_6 => exact e14
      · intro A u hu hpu hsz hout hdeps
        have f57 : (fun v _ => v = Value.bool true) (A.eval (.tmp 57)) u := by have h := depL hdeps 5 (by kernel_rfl) 57 (by kernel_rfl); exact h
        have e57 := (f57 : _ = Value.bool true)
        have e12 : A.eval (.tmp 12) = (.bool false) := (hout 12 (by kernel_rfl)).trans rfl
        refine ifw_want 5 true 57 rfl rfl e57 ?_
        with_reducible refine shown_q (Value.bool false) ?qq_2_7 (fun _ _ => ?qr_2_7)
        case qr_2_7 => exact (rfl : (Value.bool false) = (Value.bool false))
        with_reducible refine quietAt_mv (.tmp 12) (Value.bool false) ?h0_2_7 ?h1_2_7
        case h0_2_7 => rfl
        case h1_2_7 => exact e12
      · intro A u hu hpu hsz hout hdeps
        have f57 : (fun v _ => v = Value.bool true) (A.eval (.tmp 57)) u := by have h := depL hdeps 5 (by kernel_rfl) 57 (by kernel_rfl); exact h
        have e57 := (f57 : _ = Value.bool true)
        have e59 : A.eval (.tmp 59) = (.bool false) := by have h := depL hdeps 7 (by kernel_rfl) 59 (by kernel_rfl); exact h
        refine ifw_want 5 true 57 rfl rfl e57 ?_
        with_reducible refine shown_q (Value.bool false) ?qq_2_8 (fun _ _ => ?qr_2_8)
        case qr_2_8 => exact (rfl : (Value.bool false) = (Value.bool false))
        with_reducible refine quietAt_mv (.tmp 59) (Value.bool false) ?h0_2_8 ?h1_2_8
        case h0_2_8 => rfl
        case h1_2_8 => exact e59
      · intro A u hu hpu hsz hout hdeps
        have e60 : A.eval (.tmp 60) = (.bool false) := by have h := depL hdeps 8 (by kernel_rfl) 60 (by kernel_rfl); exact h
        have e4 : A.eval (.tmp 4) = (.int .i64 kp) := (hout 4 (by kernel_rfl)).trans rfl
        refine ifw_want 8 false 60 rfl rfl e60 ?_
        with_reducible refine shown_q (Value.int .i64 kp) ?qq_2_9 (fun _ _ => ?qr_2_9)
        case qr_2_9 => exact (rfl : (Value.int .i64 kp) = (Value.int .i64 kp))
        with_reducible refine quietAt_mv (.tmp 4) (Value.int .i64 kp) ?h0_2_9 ?h1_2_9
        case h0_2_9 => rfl
        case h1_2_9 => exact e4
      · intro A u hu hpu hsz hout hdeps
        have e60 : A.eval (.tmp 60) = (.bool false) := by have h := depL hdeps 8 (by kernel_rfl) 60 (by kernel_rfl); exact h
        have e61 : A.eval (.tmp 61) = (.int .i64 kp) := by have h := depL hdeps 9 (by kernel_rfl) 61 (by kernel_rfl); exact h
        refine ifw_want 8 false 60 rfl rfl e60 ?_
        with_reducible refine shown_q (Value.bool false) ?qq_2_10 (fun _ _ => ?qr_2_10)
        case qr_2_10 => exact (rfl : (Value.bool false) = (Value.bool false))
        with_reducible refine quietAt_bin .gtr 3 (.tmp 61) (.const (.int .i64 0)) 3 (Value.int .i64 kp) (Value.int .i64 0) (Value.bool false) ?h0_2_10 ?h1_2_10 ?h2_2_10 ?h3_2_10
        case h0_2_10 => rfl
        case h1_2_10 => exact e61
        case h2_2_10 => exact rfl
        case h3_2_10 => exact HKp.out _ _ u
      · intro A u hu hpu hsz hout hdeps
        have f57 : (fun v _ => v = Value.bool true) (A.eval (.tmp 57)) u := by have h := depL hdeps 5 (by kernel_rfl) 57 (by kernel_rfl); exact h
        have e57 := (f57 : _ = Value.bool true)
        have e60 : A.eval (.tmp 60) = (.bool false) := by have h := depL hdeps 8 (by kernel_rfl) 60 (by kernel_rfl); exact h
        have e62 : A.eval (.tmp 62) = (.bool false) := by have h := depL hdeps 10 (by kernel_rfl) 62 (by kernel_rfl); exact h
        refine ifw_want 5 true 57 rfl rfl e57 ?_
        with_reducible refine shown_q (Value.bool false) ?qq_2_11 (fun _ _ => ?qr_2_11)
        case qr_2_11 => exact (rfl : (Value.bool false) = (Value.bool false))
        with_reducible refine quietAt_pick (.tmp 60) (.const (.bool true)) (.tmp 62) false (Value.bool false) ?h0_2_11 ?h1_2_11 ?h2_2_11
        case h0_2_11 => rfl
        case h1_2_11 => exact e60
        case h2_2_11 => rw [if_neg (by decide)]; exact e62
      · intro A u hu hpu hsz hout hdeps
        have f57 : (fun v _ => v = Value.bool true) (A.eval (.tmp 57)) u := by have h := depL hdeps 5 (by kernel_rfl) 57 (by kernel_rfl); exact h
        have e57 := (f57 : _ = Value.bool true)
        have e58 : A.eval (.tmp 58) = (.bool false) := by have h := depL hdeps 6 (by kernel_rfl) 58 (by kernel_rfl); exact h
        have e63 : A.eval (.tmp 63) = (.bool false) := by have h := depL hdeps 11 (by kernel_rfl) 63 (by kernel_rfl); exact h
        refine ifw_want 5 true 57 rfl rfl e57 ?_
        with_reducible refine shown_q (Value.bool true) ?qq_2_12 (fun _ _ => ?qr_2_12)
        case qr_2_12 => exact (rfl : (Value.bool true) = (Value.bool true))
        with_reducible refine quietAt_bin .eql 4 (.tmp 58) (.tmp 63) 4 (Value.bool false) (Value.bool false) (Value.bool true) ?h0_2_12 ?h1_2_12 ?h2_2_12 ?h3_2_12
        case h0_2_12 => rfl
        case h1_2_12 => exact e58
        case h2_2_12 => exact e63
        case h3_2_12 => exact rfl
      · intro A u hu hpu hsz hout hdeps
        have f57 : (fun v _ => v = Value.bool true) (A.eval (.tmp 57)) u := by have h := depL hdeps 5 (by kernel_rfl) 57 (by kernel_rfl); exact h
        have e57 := (f57 : _ = Value.bool true)
        have e64 : A.eval (.tmp 64) = (.bool true) := by have h := depL hdeps 12 (by kernel_rfl) 64 (by kernel_rfl); exact h
        refine ifw_none rfl ?_
        with_reducible refine shown_q (Value.bool true) ?qq_2_13 (fun _ _ => ?qr_2_13)
        case qr_2_13 => exact (rfl : (Value.bool true) = (Value.bool true))
        with_reducible refine quietAt_pick (.tmp 57) (.tmp 64) (.const (.bool false)) true (Value.bool true) ?h0_2_13 ?h1_2_13 ?h2_2_13
        case h0_2_13 => rfl
        case h1_2_13 => exact e57
        case h2_2_13 => rw [if_pos rfl]; exact e64
      · intro A u hu hpu hsz hout hdeps
        have e65 : A.eval (.tmp 65) = (.bool true) := by have h := depL hdeps 13 (by kernel_rfl) 65 (by kernel_rfl); exact h
        refine ifw_none rfl ?_
        with_reducible refine shown_q (Value.bool true) ?qq_2_14 (fun _ _ => ?qr_2_14)
        case qr_2_14 => exact (rfl : (Value.bool true) = (Value.bool true))
        with_reducible refine quietAt_mv (.tmp 65) (Value.bool true) ?h0_2_14 ?h1_2_14
        case h0_2_14 => rfl
        case h1_2_14 => exact e65
      · intro A u hu hpu hsz hout hdeps
        have e66 : A.eval (.tmp 66) = (.bool true) := by have h := depL hdeps 14 (by kernel_rfl) 66 (by kernel_rfl); exact h
        have e13 : A.eval (.tmp 13) = (.slice na nn nc) := (hout 13 (by kernel_rfl)).trans rfl
        refine ifw_want 14 true 66 rfl rfl e66 ?_
        with_reducible refine shown_q (Value.slice na nn nc) ?qq_2_15 (fun _ _ => ?qr_2_15)
        case qr_2_15 => exact (rfl : (Value.slice na nn nc) = (Value.slice na nn nc))
        with_reducible refine quietAt_mv (.tmp 13) (Value.slice na nn nc) ?h0_2_15 ?h1_2_15
        case h0_2_15 => rfl
        case h1_2_15 => exact e13
      · intro A u hu hpu hsz hout hdeps
        have e66 : A.eval (.tmp 66) = (.bool true) := by have h := depL hdeps 14 (by kernel_rfl) 66 (by kernel_rfl); exact h
        have e67 : A.eval (.tmp 67) = (.slice na nn nc) := by have h := depL hdeps 15 (by kernel_rfl) 67 (by kernel_rfl); exact h
        refine ifw_want 14 true 66 rfl rfl e66 ?_
        with_reducible refine shown_q (Value.string (So ++ Sb)) ?qq_2_16 (fun _ _ => ?qr_2_16)
        case qr_2_16 => exact (rfl : (Value.string (So ++ Sb)) = (Value.string (So ++ Sb)))
        with_reducible refine quietAt_cv 33 9 (.tmp 67) (Value.slice na nn nc) (Value.string (So ++ Sb)) ?h0_2_16 ?h1_2_16 ?h2_2_16
        case h0_2_16 => rfl
        case h1_2_16 => exact e67
        case h2_2_16 => exact (HCn.out u hu)
      · intro A u hu hpu hsz hout hdeps
        have e66 : A.eval (.tmp 66) = (.bool true) := by have h := depL hdeps 14 (by kernel_rfl) 66 (by kernel_rfl); exact h
        have e11 : A.eval (.tmp 11) = (.slice oa on' oc) := (hout 11 (by kernel_rfl)).trans rfl
        refine ifw_want 14 true 66 rfl rfl e66 ?_
        with_reducible refine shown_q (Value.slice oa on' oc) ?qq_2_17 (fun _ _ => ?qr_2_17)
        case qr_2_17 => exact (rfl : (Value.slice oa on' oc) = (Value.slice oa on' oc))
        with_reducible refine quietAt_mv (.tmp 11) (Value.slice oa on' oc) ?h0_2_17 ?h1_2_17
        case h0_2_17 => rfl
        case h1_2_17 => exact e11
      · intro A u hu hpu hsz hout hdeps
        have e66 : A.eval (.tmp 66) = (.bool true) := by have h := depL hdeps 14 (by kernel_rfl) 66 (by kernel_rfl); exact h
        have e69 : A.eval (.tmp 69) = (.slice oa on' oc) := by have h := depL hdeps 17 (by kernel_rfl) 69 (by kernel_rfl); exact h
        refine ifw_want 14 true 66 rfl rfl e66 ?_
        with_reducible refine shown_q (Value.string So) ?qq_2_18 (fun _ _ => ?qr_2_18)
        case qr_2_18 => exact (rfl : (Value.string So) = (Value.string So))
        with_reducible refine quietAt_cv 33 9 (.tmp 69) (Value.slice oa on' oc) (Value.string So) ?h0_2_18 ?h1_2_18 ?h2_2_18
        case h0_2_18 => rfl
        case h1_2_18 => exact e69
        case h2_2_18 => exact (HCo.out u hu)
      · intro A u hu hpu hsz hout hdeps
        have e66 : A.eval (.tmp 66) = (.bool true) := by have h := depL hdeps 14 (by kernel_rfl) 66 (by kernel_rfl); exact h
        have e8 : A.eval (.tmp 8) = (.pointer (some ⟨p8, 0, none⟩)) := (hout 8 (by kernel_rfl)).trans rfl
        refine ifw_want 14 true 66 rfl rfl e66 ?_
        with_reducible refine shown_q (Value.pointer (some ⟨p8, 4, none⟩)) ?qq_2_19 (fun _ _ => ?qr_2_19)
        case qr_2_19 => exact (rfl : (Value.pointer (some ⟨p8, 4, none⟩)) = (Value.pointer (some ⟨p8, 4, none⟩)))
        with_reducible refine quietAt_field 36 (.tmp 8) 4 ?h0_2_19 ⟨p8, 0, none⟩ ⟨p8, 4, none⟩ ?h1_2_19 ?h2_2_19
        case h0_2_19 => rfl
        case h1_2_19 => exact e8
        case h2_2_19 => kernel_rfl
      · intro A u hu hpu hsz hout hdeps
        have e66 : A.eval (.tmp 66) = (.bool true) := by have h := depL hdeps 14 (by kernel_rfl) 66 (by kernel_rfl); exact h
        have e71 : A.eval (.tmp 71) = (.pointer (some ⟨p8, 4, none⟩)) := by have h := depL hdeps 19 (by kernel_rfl) 71 (by kernel_rfl); exact h
        refine ifw_want 14 true 66 rfl rfl e66 ?_
        with_reducible refine shown_q (Value.slice ba bn bc) ?qq_2_20 (fun _ _ => ?qr_2_20)
        case qr_2_20 => exact (rfl : (Value.slice ba bn bc) = (Value.slice ba bn bc))
        with_reducible refine quietAt_ld 33 (.tmp 71) (Value.pointer (some ⟨p8, 4, none⟩)) (Value.slice ba bn bc) ?h0_2_20 ?h1_2_20 ?h2_2_20
        case h0_2_20 => rfl
        case h1_2_20 => exact e71
        case h2_2_20 => exact ld33 p8 4 bn bc ba u ((HB1.out.keep hu).cell 4)
      · intro A u hu hpu hsz hout hdeps
        have e66 : A.eval (.tmp 66) = (.bool true) := by have h := depL hdeps 14 (by kernel_rfl) 66 (by kernel_rfl); exact h
        have e15 : A.eval (.tmp 15) = (.int .i64 0) := (hout 15 (by kernel_rfl)).trans rfl
        refine ifw_want 14 true 66 rfl rfl e66 ?_
        with_reducible refine shown_q (Value.int .i64 0) ?qq_2_21 (fun _ _ => ?qr_2_21)
        case qr_2_21 => exact (rfl : (Value.int .i64 0) = (Value.int .i64 0))
        with_reducible refine quietAt_mv (.tmp 15) (Value.int .i64 0) ?h0_2_21 ?h1_2_21
        case h0_2_21 => rfl
        case h1_2_21 => exact e15
      · intro A u hu hpu hsz hout hdeps
        have e66 : A.eval (.tmp 66) = (.bool true) := by have h := depL hdeps 14 (by kernel_rfl) 66 (by kernel_rfl); exact h
        have e72 : A.eval (.tmp 72) = (.slice ba bn bc) := by have h := depL hdeps 20 (by kernel_rfl) 72 (by kernel_rfl); exact h
        have e73 : A.eval (.tmp 73) = (.int .i64 0) := by have h := depL hdeps 21 (by kernel_rfl) 73 (by kernel_rfl); exact h
        refine ifw_want 14 true 66 rfl rfl e66 ?_
        with_reducible refine shown_q (Value.slice ba 0 bc) ?qq_2_22 (fun _ _ => ?qr_2_22)
        case qr_2_22 => exact (rfl : (Value.slice ba 0 bc) = (Value.slice ba 0 bc))
        with_reducible refine quietAt_sliceh 33 (.tmp 72) (.tmp 73) (Value.slice ba bn bc) (Value.int .i64 0) (Value.slice ba 0 bc) ?h0_2_22 ?h1_2_22 ?h2_2_22 ?h3_2_22
        case h0_2_22 => rfl
        case h1_2_22 => exact e72
        case h2_2_22 => exact e73
        case h3_2_22 => exact HSl.out u
      · intro A u hu hpu hsz hout hdeps
        have e66 : A.eval (.tmp 66) = (.bool true) := by have h := depL hdeps 14 (by kernel_rfl) 66 (by kernel_rfl); exact h
        have e74 : A.eval (.tmp 74) = (.slice ba 0 bc) := by have h := depL hdeps 22 (by kernel_rfl) 74 (by kernel_rfl); exact h
        refine ifw_want 14 true 66 rfl rfl e66 ?_
        with_reducible refine shown_q (Value.string Sb) ?qq_2_23 (fun _ _ => ?qr_2_23)
        case qr_2_23 => exact (rfl : (Value.string Sb) = (Value.string Sb))
        with_reducible refine quietAt_cv 33 9 (.tmp 74) (Value.slice ba 0 bc) (Value.string Sb) ?h0_2_23 ?h1_2_23 ?h2_2_23
        case h0_2_23 => rfl
        case h1_2_23 => exact e74
        case h2_2_23 => exact (HCb.out u hu)
      · intro A u hu hpu hsz hout hdeps
        have e66 : A.eval (.tmp 66) = (.bool true) := by have h := depL hdeps 14 (by kernel_rfl) 66 (by kernel_rfl); exact h
        have e70 : A.eval (.tmp 70) = (.string So) := by have h := depL hdeps 18 (by kernel_rfl) 70 (by kernel_rfl); exact h
        have e75 : A.eval (.tmp 75) = (.string Sb) := by have h := depL hdeps 23 (by kernel_rfl) 75 (by kernel_rfl); exact h
        refine ifw_want 14 true 66 rfl rfl e66 ?_
        with_reducible refine shown_q (Value.string (So ++ Sb)) ?qq_2_24 (fun _ _ => ?qr_2_24)
        case qr_2_24 => exact (rfl : (Value.string (So ++ Sb)) = (Value.string (So ++ Sb)))
        with_reducible refine quietAt_bin .add 9 (.tmp 70) (.tmp 75) 9 (Value.string So) (Value.string Sb) (Value.string (So ++ Sb)) ?h0_2_24 ?h1_2_24 ?h2_2_24 ?h3_2_24
        case h0_2_24 => rfl
        case h1_2_24 => exact e70
        case h2_2_24 => exact e75
        case h3_2_24 => exact HAd.out _ _ u
      · intro A u hu hpu hsz hout hdeps
        have e66 : A.eval (.tmp 66) = (.bool true) := by have h := depL hdeps 14 (by kernel_rfl) 66 (by kernel_rfl); exact h
        have e68 : A.eval (.tmp 68) = (.string (So ++ Sb)) := by have h := depL hdeps 16 (by kernel_rfl) 68 (by kernel_rfl); exact h
        have e76 : A.eval (.tmp 76) = (.string (So ++ Sb)) := by have h := depL hdeps 24 (by kernel_rfl) 76 (by kernel_rfl); exact h
        refine ifw_want 14 true 66 rfl rfl e66 ?_
        with_reducible refine shown_q (Value.bool true) ?qq_2_25 (fun _ _ => ?qr_2_25)
        case qr_2_25 => exact (rfl : (Value.bool true) = (Value.bool true))
        with_reducible refine quietAt_bin .eql 9 (.tmp 68) (.tmp 76) 9 (Value.string (So ++ Sb)) (Value.string (So ++ Sb)) (Value.bool true) ?h0_2_25 ?h1_2_25 ?h2_2_25 ?h3_2_25
        case h0_2_25 => rfl
        case h1_2_25 => exact e68
        case h2_2_25 => exact e76
        case h3_2_25 => exact HEq.out _ _ u
      · intro A u hu hpu hsz hout hdeps
        have e66 : A.eval (.tmp 66) = (.bool true) := by have h := depL hdeps 14 (by kernel_rfl) 66 (by kernel_rfl); exact h
        have e77 : A.eval (.tmp 77) = (.bool true) := by have h := depL hdeps 25 (by kernel_rfl) 77 (by kernel_rfl); exact h
        refine ifw_none rfl ?_
        with_reducible refine shown_q (Value.bool true) ?qq_2_26 (fun _ _ => ?qr_2_26)
        case qr_2_26 => exact (rfl : (Value.bool true) = (Value.bool true))
        with_reducible refine quietAt_pick (.tmp 66) (.tmp 77) (.const (.bool false)) true (Value.bool true) ?h0_2_26 ?h1_2_26 ?h2_2_26
        case h0_2_26 => rfl
        case h1_2_26 => exact e66
        case h2_2_26 => rw [if_pos rfl]; exact e77
      · intro A u hu hpu hsz hout hdeps
        have e78 : A.eval (.tmp 78) = (.bool true) := by have h := depL hdeps 26 (by kernel_rfl) 78 (by kernel_rfl); exact h
        refine ifw_none rfl ?_
        with_reducible refine shown_q (Value.bool true) ?qq_2_27 (fun _ _ => ?qr_2_27)
        case qr_2_27 => exact (rfl : (Value.bool true) = (Value.bool true))
        with_reducible refine quietAt_as (.tmp 78) (Value.bool true) ?h0_2_27 ?h1_2_27
        case h0_2_27 => rfl
        case h1_2_27 => exact e78
      · intro A u8 listed hh hall
        have hA := hh.frame
        have HU := hid hh.grown
        obtain ⟨x52, hx52⟩ : ∃ x, A.eval (.tmp 52) = x := ⟨_, rfl⟩
        have f52 : (fun v _ => v = (Value.slice a0 n0 c0)) x52 u8 := by rw [← hx52]; exact hh.got 0 _ 52 rfl rfl (hall 0 (by decide))
        obtain ⟨x53, hx53⟩ : ∃ x, A.eval (.tmp 53) = x := ⟨_, rfl⟩
        have f53 : (fun v _ => v = (Value.slice a2 n2 c2)) x53 u8 := by rw [← hx53]; exact hh.got 1 _ 53 rfl rfl (hall 1 (by decide))
        obtain ⟨x54, hx54⟩ : ∃ x, A.eval (.tmp 54) = x := ⟨_, rfl⟩
        have f54 : (fun v _ => v = (Value.pointer (some ⟨p8, 2, none⟩))) x54 u8 := by rw [← hx54]; exact hh.got 2 _ 54 rfl rfl (hall 2 (by decide))
        obtain ⟨x55, hx55⟩ : ∃ x, A.eval (.tmp 55) = x := ⟨_, rfl⟩
        have f55 : (fun v _ => v = (Value.string nm)) x55 u8 := by rw [← hx55]; exact hh.got 3 _ 55 rfl rfl (hall 3 (by decide))
        obtain ⟨x56, hx56⟩ : ∃ x, A.eval (.tmp 56) = x := ⟨_, rfl⟩
        have f56 : (fun v _ => v = Value.bool true) x56 u8 := by rw [← hx56]; exact hh.got 4 _ 56 rfl rfl (hall 4 (by decide))
        obtain ⟨x57, hx57⟩ : ∃ x, A.eval (.tmp 57) = x := ⟨_, rfl⟩
        have f57 : (fun v _ => v = Value.bool true) x57 u8 := by rw [← hx57]; exact hh.got 5 _ 57 rfl rfl (hall 5 (by decide))
        obtain ⟨x58, hx58⟩ : ∃ x, A.eval (.tmp 58) = x := ⟨_, rfl⟩
        have f58 : (fun v _ => v = (Value.bool false)) x58 u8 := by rw [← hx58]; exact hh.got 6 _ 58 rfl rfl (hall 6 (by decide))
        obtain ⟨x59, hx59⟩ : ∃ x, A.eval (.tmp 59) = x := ⟨_, rfl⟩
        have f59 : (fun v _ => v = (Value.bool false)) x59 u8 := by rw [← hx59]; exact hh.got 7 _ 59 rfl rfl (hall 7 (by decide))
        obtain ⟨x60, hx60⟩ : ∃ x, A.eval (.tmp 60) = x := ⟨_, rfl⟩
        have f60 : (fun v _ => v = (Value.bool false)) x60 u8 := by rw [← hx60]; exact hh.got 8 _ 60 rfl rfl (hall 8 (by decide))
        obtain ⟨x61, hx61⟩ : ∃ x, A.eval (.tmp 61) = x := ⟨_, rfl⟩
        have f61 : (fun v _ => v = (Value.int .i64 kp)) x61 u8 := by rw [← hx61]; exact hh.got 9 _ 61 rfl rfl (hall 9 (by decide))
        obtain ⟨x62, hx62⟩ : ∃ x, A.eval (.tmp 62) = x := ⟨_, rfl⟩
        have f62 : (fun v _ => v = (Value.bool false)) x62 u8 := by rw [← hx62]; exact hh.got 10 _ 62 rfl rfl (hall 10 (by decide))
        obtain ⟨x63, hx63⟩ : ∃ x, A.eval (.tmp 63) = x := ⟨_, rfl⟩
        have f63 : (fun v _ => v = (Value.bool false)) x63 u8 := by rw [← hx63]; exact hh.got 11 _ 63 rfl rfl (hall 11 (by decide))
        obtain ⟨x64, hx64⟩ : ∃ x, A.eval (.tmp 64) = x := ⟨_, rfl⟩
        have f64 : (fun v _ => v = (Value.bool true)) x64 u8 := by rw [← hx64]; exact hh.got 12 _ 64 rfl rfl (hall 12 (by decide))
        obtain ⟨x65, hx65⟩ : ∃ x, A.eval (.tmp 65) = x := ⟨_, rfl⟩
        have f65 : (fun v _ => v = (Value.bool true)) x65 u8 := by rw [← hx65]; exact hh.got 13 _ 65 rfl rfl (hall 13 (by decide))
        obtain ⟨x66, hx66⟩ : ∃ x, A.eval (.tmp 66) = x := ⟨_, rfl⟩
        have f66 : (fun v _ => v = (Value.bool true)) x66 u8 := by rw [← hx66]; exact hh.got 14 _ 66 rfl rfl (hall 14 (by decide))
        obtain ⟨x67, hx67⟩ : ∃ x, A.eval (.tmp 67) = x := ⟨_, rfl⟩
        have f67 : (fun v _ => v = (Value.slice na nn nc)) x67 u8 := by rw [← hx67]; exact hh.got 15 _ 67 rfl rfl (hall 15 (by decide))
        obtain ⟨x68, hx68⟩ : ∃ x, A.eval (.tmp 68) = x := ⟨_, rfl⟩
        have f68 : (fun v _ => v = (Value.string (So ++ Sb))) x68 u8 := by rw [← hx68]; exact hh.got 16 _ 68 rfl rfl (hall 16 (by decide))
        obtain ⟨x69, hx69⟩ : ∃ x, A.eval (.tmp 69) = x := ⟨_, rfl⟩
        have f69 : (fun v _ => v = (Value.slice oa on' oc)) x69 u8 := by rw [← hx69]; exact hh.got 17 _ 69 rfl rfl (hall 17 (by decide))
        obtain ⟨x70, hx70⟩ : ∃ x, A.eval (.tmp 70) = x := ⟨_, rfl⟩
        have f70 : (fun v _ => v = (Value.string So)) x70 u8 := by rw [← hx70]; exact hh.got 18 _ 70 rfl rfl (hall 18 (by decide))
        obtain ⟨x71, hx71⟩ : ∃ x, A.eval (.tmp 71) = x := ⟨_, rfl⟩
        have f71 : (fun v _ => v = (Value.pointer (some ⟨p8, 4, none⟩))) x71 u8 := by rw [← hx71]; exact hh.got 19 _ 71 rfl rfl (hall 19 (by decide))
        obtain ⟨x72, hx72⟩ : ∃ x, A.eval (.tmp 72) = x := ⟨_, rfl⟩
        have f72 : (fun v _ => v = (Value.slice ba bn bc)) x72 u8 := by rw [← hx72]; exact hh.got 20 _ 72 rfl rfl (hall 20 (by decide))
        obtain ⟨x73, hx73⟩ : ∃ x, A.eval (.tmp 73) = x := ⟨_, rfl⟩
        have f73 : (fun v _ => v = (Value.int .i64 0)) x73 u8 := by rw [← hx73]; exact hh.got 21 _ 73 rfl rfl (hall 21 (by decide))
        obtain ⟨x74, hx74⟩ : ∃ x, A.eval (.tmp 74) = x := ⟨_, rfl⟩
        have f74 : (fun v _ => v = (Value.slice ba 0 bc)) x74 u8 := by rw [← hx74]; exact hh.got 22 _ 74 rfl rfl (hall 22 (by decide))
        obtain ⟨x75, hx75⟩ : ∃ x, A.eval (.tmp 75) = x := ⟨_, rfl⟩
        have f75 : (fun v _ => v = (Value.string Sb)) x75 u8 := by rw [← hx75]; exact hh.got 23 _ 75 rfl rfl (hall 23 (by decide))
        obtain ⟨x76, hx76⟩ : ∃ x, A.eval (.tmp 76) = x := ⟨_, rfl⟩
        have f76 : (fun v _ => v = (Value.string (So ++ Sb))) x76 u8 := by rw [← hx76]; exact hh.got 24 _ 76 rfl rfl (hall 24 (by decide))
        obtain ⟨x77, hx77⟩ : ∃ x, A.eval (.tmp 77) = x := ⟨_, rfl⟩
        have f77 : (fun v _ => v = (Value.bool true)) x77 u8 := by rw [← hx77]; exact hh.got 25 _ 77 rfl rfl (hall 25 (by decide))
        obtain ⟨x78, hx78⟩ : ∃ x, A.eval (.tmp 78) = x := ⟨_, rfl⟩
        have f78 : (fun v _ => v = (Value.bool true)) x78 u8 := by rw [← hx78]; exact hh.got 26 _ 78 rfl rfl (hall 26 (by decide))
        obtain ⟨x10, hx10⟩ : ∃ x, A.eval (.tmp 10) = x := ⟨_, rfl⟩
        have f10 : (fun v _ => v = (Value.bool true)) x10 u8 := by rw [← hx10]; exact hh.got 27 _ 10 rfl rfl (hall 27 (by decide))
        dsimp only [wrote, List.foldl] at hA
        rw [hx52, hx53, hx54, hx55, hx56, hx57, hx58, hx59, hx60, hx61, hx62, hx63, hx64, hx65, hx66, hx67, hx68, hx69, hx70, hx71, hx72, hx73, hx74, hx75, hx76, hx77, hx78, hx10] at hA
        clear hh hall hx52 hx53 hx54 hx55 hx56 hx57 hx58 hx59 hx60 hx61 hx62 hx63 hx64 hx65 hx66 hx67 hx68 hx69 hx70 hx71 hx72 hx73 hx74 hx75 hx76 hx77 hx78 hx10
        replace f52 := (f52 : x52 = (.slice a0 n0 c0))
        subst f52
        replace f53 := (f53 : x53 = (.slice a2 n2 c2))
        subst f53
        replace f54 := (f54 : x54 = (.pointer (some ⟨p8, 2, none⟩)))
        subst f54
        replace f55 := (f55 : x55 = (.string nm))
        subst f55
        have e56 := (f56 : _ = Value.bool true)
        subst e56
        have e57 := (f57 : _ = Value.bool true)
        subst e57
        replace f58 := (f58 : x58 = (.bool false))
        subst f58
        replace f59 := (f59 : x59 = (.bool false))
        subst f59
        replace f60 := (f60 : x60 = (.bool false))
        subst f60
        replace f61 := (f61 : x61 = (.int .i64 kp))
        subst f61
        replace f62 := (f62 : x62 = (.bool false))
        subst f62
        replace f63 := (f63 : x63 = (.bool false))
        subst f63
        replace f64 := (f64 : x64 = (.bool true))
        subst f64
        replace f65 := (f65 : x65 = (.bool true))
        subst f65
        replace f66 := (f66 : x66 = (.bool true))
        subst f66
        replace f67 := (f67 : x67 = (.slice na nn nc))
        subst f67
        replace f68 := (f68 : x68 = (.string (So ++ Sb)))
        subst f68
        replace f69 := (f69 : x69 = (.slice oa on' oc))
        subst f69
        replace f70 := (f70 : x70 = (.string So))
        subst f70
        replace f71 := (f71 : x71 = (.pointer (some ⟨p8, 4, none⟩)))
        subst f71
        replace f72 := (f72 : x72 = (.slice ba bn bc))
        subst f72
        replace f73 := (f73 : x73 = (.int .i64 0))
        subst f73
        replace f74 := (f74 : x74 = (.slice ba 0 bc))
        subst f74
        replace f75 := (f75 : x75 = (.string Sb))
        subst f75
        replace f76 := (f76 : x76 = (.string (So ++ Sb)))
        subst f76
        replace f77 := (f77 : x77 = (.bool true))
        subst f77
        replace f78 := (f78 : x78 = (.bool true))
        subst f78
        replace f10 := (f10 : x10 = (.bool true))
        subst f10
        subst hA
        show wpList _ _ _ [] _ _
        unfold wpList
        simp only [Act.put, List.setIfInBounds_toArray, List.set_cons_succ, List.set_cons_zero]
        go_wp2_with fail
        go_ret
        exact ⟨rfl, gtrans HG1.out HU.out⟩
  by_cases hk0 : kp = 0
  · subst hk0
    have hz0 : zz = 0 := by omega
    subst hz0
    cases H with
    | true =>
      rw [show (true || decide (0 < (0 : Int))) = true from by simp]
      as_aux_lemma =>
      have HKp : Hid (∀ (x y : Operand) (u : World), (do eqGuard .gtr 3 x y (.int .i64 0) (.int .i64 0); binOp .gtr 3 (.int .i64 0) (.int .i64 0) : Sem Value).run Try.prog u = .ok (.bool false) u) := hid (fun x y u => by go_simp)
      go_upto_region 12 with fail
      refine wp_region_listX (by kernel_rfl) [fun v _ => v = (Value.slice a0 n0 c0), fun v _ => v = (Value.slice a2 n2 c2), fun v _ => v = (Value.pointer (some ⟨p8, 2, none⟩)), fun v _ => v = (Value.string nm), fun v _ => v = Value.bool true, fun v _ => v = Value.bool true, fun v _ => v = (Value.bool true), fun v _ => v = (Value.bool true), fun v _ => v = (Value.bool true), fun v _ => v = undef, fun v _ => v = undef, fun v _ => v = (Value.bool true), fun v _ => v = (Value.bool true), fun v _ => v = (Value.bool true), fun v _ => v = (Value.bool true), fun v _ => v = (Value.slice na nn nc), fun v _ => v = (Value.string (So ++ Sb)), fun v _ => v = (Value.slice oa on' oc), fun v _ => v = (Value.string So), fun v _ => v = (Value.pointer (some ⟨p8, 4, none⟩)), fun v _ => v = (Value.slice ba bn bc), fun v _ => v = (Value.int .i64 0), fun v _ => v = (Value.slice ba 0 bc), fun v _ => v = (Value.string Sb), fun v _ => v = (Value.string (So ++ Sb)), fun v _ => v = (Value.bool true), fun v _ => v = (Value.bool true), fun v _ => v = (Value.bool true)] (none) (fun _ => none) 28 (by kernel_rfl) (by kernel_rfl) (by kernel_rfl) (by kernel_rfl) (by decide) noRow_one (fun _ => .inl rfl) ⟨fun i v u u' hki h hg => h, fun i v u u' hki h hg => h, fun i v u u' hki h hg => h, fun i v u u' hki h hg => h, fun i v u u' hki h hg => h, fun i v u u' hki h hg => h, fun i v u u' hki h hg => h, fun i v u u' hki h hg => h, fun i v u u' hki h hg => h, fun i v u u' hki h hg => h, fun i v u u' hki h hg => h, fun i v u u' hki h hg => h, fun i v u u' hki h hg => h, fun i v u u' hki h hg => h, fun i v u u' hki h hg => h, fun i v u u' hki h hg => h, fun i v u u' hki h hg => h, fun i v u u' hki h hg => h, fun i v u u' hki h hg => h, fun i v u u' hki h hg => h, fun i v u u' hki h hg => h, fun i v u u' hki h hg => h, fun i v u u' hki h hg => h, fun i v u u' hki h hg => h, fun i v u u' hki h hg => h, fun i v u u' hki h hg => h, fun i v u u' hki h hg => h, fun i v u u' hki h hg => h, trivial⟩ ⟨?_, ?_, ?_, ?_, ?_, ?_, ?_, ?_, ?_, ?_, ?_, ?_, ?_, ?_, ?_, ?_, ?_, ?_, ?_, ?_, ?_, ?_, ?_, ?_, ?_, ?_, ?_, ?_, trivial⟩ ?_
      · intro A u hu hpu hsz hout hdeps
        have e0 : A.eval (.tmp 0) = (.slice a0 n0 c0) := (hout 0 (by kernel_rfl)).trans rfl
        refine ifw_none rfl ?_
        with_reducible refine shown_q (Value.slice a0 n0 c0) ?qq_3_0 (fun _ _ => ?qr_3_0)
        case qr_3_0 => exact (rfl : (Value.slice a0 n0 c0) = (Value.slice a0 n0 c0))
        with_reducible refine quietAt_mv (.tmp 0) (Value.slice a0 n0 c0) ?h0_3_0 ?h1_3_0
        case h0_3_0 => rfl
        case h1_3_0 => exact e0
      · intro A u hu hpu hsz hout hdeps
        have e2 : A.eval (.tmp 2) = (.slice a2 n2 c2) := (hout 2 (by kernel_rfl)).trans rfl
        refine ifw_none rfl ?_
        with_reducible refine shown_q (Value.slice a2 n2 c2) ?qq_3_1 (fun _ _ => ?qr_3_1)
        case qr_3_1 => exact (rfl : (Value.slice a2 n2 c2) = (Value.slice a2 n2 c2))
        with_reducible refine quietAt_mv (.tmp 2) (Value.slice a2 n2 c2) ?h0_3_1 ?h1_3_1
        case h0_3_1 => rfl
        case h1_3_1 => exact e2
      · intro A u hu hpu hsz hout hdeps
        have e8 : A.eval (.tmp 8) = (.pointer (some ⟨p8, 0, none⟩)) := (hout 8 (by kernel_rfl)).trans rfl
        refine ifw_none rfl ?_
        with_reducible refine shown_q (Value.pointer (some ⟨p8, 2, none⟩)) ?qq_3_2 (fun _ _ => ?qr_3_2)
        case qr_3_2 => exact (rfl : (Value.pointer (some ⟨p8, 2, none⟩)) = (Value.pointer (some ⟨p8, 2, none⟩)))
        with_reducible refine quietAt_field 36 (.tmp 8) 2 ?h0_3_2 ⟨p8, 0, none⟩ ⟨p8, 2, none⟩ ?h1_3_2 ?h2_3_2
        case h0_3_2 => rfl
        case h1_3_2 => exact e8
        case h2_3_2 => kernel_rfl
      · intro A u hu hpu hsz hout hdeps
        have e54 : A.eval (.tmp 54) = (.pointer (some ⟨p8, 2, none⟩)) := by have h := depL hdeps 2 (by kernel_rfl) 54 (by kernel_rfl); exact h
        refine ifw_none rfl ?_
        with_reducible refine shown_q (Value.string nm) ?qq_3_3 (fun _ _ => ?qr_3_3)
        case qr_3_3 => exact (rfl : (Value.string nm) = (Value.string nm))
        with_reducible refine quietAt_ld 9 (.tmp 54) (Value.pointer (some ⟨p8, 2, none⟩)) (Value.string nm) ?h0_3_3 ?h1_3_3 ?h2_3_3
        case h0_3_3 => rfl
        case h1_3_3 => exact e54
        case h2_3_3 => exact ld9 p8 2 nm u ((HB1.out.keep hu).cell 2)
      · intro A u hu hpu hsz hout hdeps
        have e52 : A.eval (.tmp 52) = (.slice a0 n0 c0) := by have h := depL hdeps 0 (by kernel_rfl) 52 (by kernel_rfl); exact h
        have e53 : A.eval (.tmp 53) = (.slice a2 n2 c2) := by have h := depL hdeps 1 (by kernel_rfl) 53 (by kernel_rfl); exact h
        have e55 : A.eval (.tmp 55) = (.string nm) := by have h := depL hdeps 3 (by kernel_rfl) 55 (by kernel_rfl); exact h
        refine ifw_none rfl ?_
        with_reducible refine shown_call 21 Try.f21 ?h0_3_4 ?h1_3_4 ?h2_3_4 #[.tmp 52, .tmp 53, .tmp 55] #[34, 34, 9] ?h3_3_4 #[(Value.slice a0 n0 c0), (Value.slice a2 n2 c2), (Value.string nm)] ?h4_3_4 ?h5_3_4
        case h0_3_4 => exact Try.func21
        case h1_3_4 => kernel_rfl
        case h2_3_4 => kernel_rfl
        case h3_3_4 => rfl
        case h4_3_4 => exact map3 _ _ _ _ _ _ _ e52 e53 e55
        case h5_3_4 => exact HOt.out u hu
      · intro A u hu hpu hsz hout hdeps
        have f56 : (fun v _ => v = Value.bool true) (A.eval (.tmp 56)) u := by have h := depL hdeps 4 (by kernel_rfl) 56 (by kernel_rfl); exact h
        have e56 := (f56 : _ = Value.bool true)
        refine ifw_none rfl ?_
        exact shown_q _ (quietAt_mv (.tmp 56) _ rfl e56) (fun u' hg => rfl)
      · intro A u hu hpu hsz hout hdeps
        have f57 : (fun v _ => v = Value.bool true) (A.eval (.tmp 57)) u := by have h := depL hdeps 5 (by kernel_rfl) 57 (by kernel_rfl); exact h
        have e57 := (f57 : _ = Value.bool true)
        have e14 : A.eval (.tmp 14) = (.bool true) := (hout 14 (by kernel_rfl)).trans rfl
        refine ifw_want 5 true 57 rfl rfl e57 ?_
        with_reducible refine shown_q (Value.bool true) ?qq_3_6 (fun _ _ => ?qr_3_6)
        case qr_3_6 => exact (rfl : (Value.bool true) = (Value.bool true))
        with_reducible refine quietAt_mv (.tmp 14) (Value.bool true) ?h0_3_6 ?h1_3_6
        case h0_3_6 => rfl
        case h1_3_6 => exact e14
      · intro A u hu hpu hsz hout hdeps
        have f57 : (fun v _ => v = Value.bool true) (A.eval (.tmp 57)) u := by have h := depL hdeps 5 (by kernel_rfl) 57 (by kernel_rfl); exact h
        have e57 := (f57 : _ = Value.bool true)
        have e12 : A.eval (.tmp 12) = (.bool true) := (hout 12 (by kernel_rfl)).trans rfl
        refine ifw_want 5 true 57 rfl rfl e57 ?_
        with_reducible refine shown_q (Value.bool true) ?qq_3_7 (fun _ _ => ?qr_3_7)
        case qr_3_7 => exact (rfl : (Value.bool true) = (Value.bool true))
        with_reducible refine quietAt_mv (.tmp 12) (Value.bool true) ?h0_3_7 ?h1_3_7
        case h0_3_7 => rfl
        case h1_3_7 => exact e12
      · intro A u hu hpu hsz hout hdeps
        have f57 : (fun v _ => v = Value.bool true) (A.eval (.tmp 57)) u := by have h := depL hdeps 5 (by kernel_rfl) 57 (by kernel_rfl); exact h
        have e57 := (f57 : _ = Value.bool true)
        have e59 : A.eval (.tmp 59) = (.bool true) := by have h := depL hdeps 7 (by kernel_rfl) 59 (by kernel_rfl); exact h
        refine ifw_want 5 true 57 rfl rfl e57 ?_
        with_reducible refine shown_q (Value.bool true) ?qq_3_8 (fun _ _ => ?qr_3_8)
        case qr_3_8 => exact (rfl : (Value.bool true) = (Value.bool true))
        with_reducible refine quietAt_mv (.tmp 59) (Value.bool true) ?h0_3_8 ?h1_3_8
        case h0_3_8 => rfl
        case h1_3_8 => exact e59
      · intro A u hu hpu hsz hout hdeps
        have e60 : A.eval (.tmp 60) = (.bool true) := by have h := depL hdeps 8 (by kernel_rfl) 60 (by kernel_rfl); exact h
        refine ifw_pass 8 false true 60 rfl rfl e60 (by decide) ?_
        exact rfl
      · intro A u hu hpu hsz hout hdeps
        have e60 : A.eval (.tmp 60) = (.bool true) := by have h := depL hdeps 8 (by kernel_rfl) 60 (by kernel_rfl); exact h
        refine ifw_pass 8 false true 60 rfl rfl e60 (by decide) ?_
        exact rfl
      · intro A u hu hpu hsz hout hdeps
        have f57 : (fun v _ => v = Value.bool true) (A.eval (.tmp 57)) u := by have h := depL hdeps 5 (by kernel_rfl) 57 (by kernel_rfl); exact h
        have e57 := (f57 : _ = Value.bool true)
        have e60 : A.eval (.tmp 60) = (.bool true) := by have h := depL hdeps 8 (by kernel_rfl) 60 (by kernel_rfl); exact h
        refine ifw_want 5 true 57 rfl rfl e57 ?_
        with_reducible refine shown_q (Value.bool true) ?qq_3_11 (fun _ _ => ?qr_3_11)
        case qr_3_11 => exact (rfl : (Value.bool true) = (Value.bool true))
        with_reducible refine quietAt_pick (.tmp 60) (.const (.bool true)) (.tmp 62) true (Value.bool true) ?h0_3_11 ?h1_3_11 ?h2_3_11
        case h0_3_11 => rfl
        case h1_3_11 => exact e60
        case h2_3_11 => rw [if_pos rfl]; exact rfl
      · intro A u hu hpu hsz hout hdeps
        have f57 : (fun v _ => v = Value.bool true) (A.eval (.tmp 57)) u := by have h := depL hdeps 5 (by kernel_rfl) 57 (by kernel_rfl); exact h
        have e57 := (f57 : _ = Value.bool true)
        have e58 : A.eval (.tmp 58) = (.bool true) := by have h := depL hdeps 6 (by kernel_rfl) 58 (by kernel_rfl); exact h
        have e63 : A.eval (.tmp 63) = (.bool true) := by have h := depL hdeps 11 (by kernel_rfl) 63 (by kernel_rfl); exact h
        refine ifw_want 5 true 57 rfl rfl e57 ?_
        with_reducible refine shown_q (Value.bool true) ?qq_3_12 (fun _ _ => ?qr_3_12)
        case qr_3_12 => exact (rfl : (Value.bool true) = (Value.bool true))
        with_reducible refine quietAt_bin .eql 4 (.tmp 58) (.tmp 63) 4 (Value.bool true) (Value.bool true) (Value.bool true) ?h0_3_12 ?h1_3_12 ?h2_3_12 ?h3_3_12
        case h0_3_12 => rfl
        case h1_3_12 => exact e58
        case h2_3_12 => exact e63
        case h3_3_12 => exact rfl
      · intro A u hu hpu hsz hout hdeps
        have f57 : (fun v _ => v = Value.bool true) (A.eval (.tmp 57)) u := by have h := depL hdeps 5 (by kernel_rfl) 57 (by kernel_rfl); exact h
        have e57 := (f57 : _ = Value.bool true)
        have e64 : A.eval (.tmp 64) = (.bool true) := by have h := depL hdeps 12 (by kernel_rfl) 64 (by kernel_rfl); exact h
        refine ifw_none rfl ?_
        with_reducible refine shown_q (Value.bool true) ?qq_3_13 (fun _ _ => ?qr_3_13)
        case qr_3_13 => exact (rfl : (Value.bool true) = (Value.bool true))
        with_reducible refine quietAt_pick (.tmp 57) (.tmp 64) (.const (.bool false)) true (Value.bool true) ?h0_3_13 ?h1_3_13 ?h2_3_13
        case h0_3_13 => rfl
        case h1_3_13 => exact e57
        case h2_3_13 => rw [if_pos rfl]; exact e64
      · intro A u hu hpu hsz hout hdeps
        have e65 : A.eval (.tmp 65) = (.bool true) := by have h := depL hdeps 13 (by kernel_rfl) 65 (by kernel_rfl); exact h
        refine ifw_none rfl ?_
        with_reducible refine shown_q (Value.bool true) ?qq_3_14 (fun _ _ => ?qr_3_14)
        case qr_3_14 => exact (rfl : (Value.bool true) = (Value.bool true))
        with_reducible refine quietAt_mv (.tmp 65) (Value.bool true) ?h0_3_14 ?h1_3_14
        case h0_3_14 => rfl
        case h1_3_14 => exact e65
      · intro A u hu hpu hsz hout hdeps
        have e66 : A.eval (.tmp 66) = (.bool true) := by have h := depL hdeps 14 (by kernel_rfl) 66 (by kernel_rfl); exact h
        have e13 : A.eval (.tmp 13) = (.slice na nn nc) := (hout 13 (by kernel_rfl)).trans rfl
        refine ifw_want 14 true 66 rfl rfl e66 ?_
        with_reducible refine shown_q (Value.slice na nn nc) ?qq_3_15 (fun _ _ => ?qr_3_15)
        case qr_3_15 => exact (rfl : (Value.slice na nn nc) = (Value.slice na nn nc))
        with_reducible refine quietAt_mv (.tmp 13) (Value.slice na nn nc) ?h0_3_15 ?h1_3_15
        case h0_3_15 => rfl
        case h1_3_15 => exact e13
      · intro A u hu hpu hsz hout hdeps
        have e66 : A.eval (.tmp 66) = (.bool true) := by have h := depL hdeps 14 (by kernel_rfl) 66 (by kernel_rfl); exact h
        have e67 : A.eval (.tmp 67) = (.slice na nn nc) := by have h := depL hdeps 15 (by kernel_rfl) 67 (by kernel_rfl); exact h
        refine ifw_want 14 true 66 rfl rfl e66 ?_
        with_reducible refine shown_q (Value.string (So ++ Sb)) ?qq_3_16 (fun _ _ => ?qr_3_16)
        case qr_3_16 => exact (rfl : (Value.string (So ++ Sb)) = (Value.string (So ++ Sb)))
        with_reducible refine quietAt_cv 33 9 (.tmp 67) (Value.slice na nn nc) (Value.string (So ++ Sb)) ?h0_3_16 ?h1_3_16 ?h2_3_16
        case h0_3_16 => rfl
        case h1_3_16 => exact e67
        case h2_3_16 => exact (HCn.out u hu)
      · intro A u hu hpu hsz hout hdeps
        have e66 : A.eval (.tmp 66) = (.bool true) := by have h := depL hdeps 14 (by kernel_rfl) 66 (by kernel_rfl); exact h
        have e11 : A.eval (.tmp 11) = (.slice oa on' oc) := (hout 11 (by kernel_rfl)).trans rfl
        refine ifw_want 14 true 66 rfl rfl e66 ?_
        with_reducible refine shown_q (Value.slice oa on' oc) ?qq_3_17 (fun _ _ => ?qr_3_17)
        case qr_3_17 => exact (rfl : (Value.slice oa on' oc) = (Value.slice oa on' oc))
        with_reducible refine quietAt_mv (.tmp 11) (Value.slice oa on' oc) ?h0_3_17 ?h1_3_17
        case h0_3_17 => rfl
        case h1_3_17 => exact e11
      · intro A u hu hpu hsz hout hdeps
        have e66 : A.eval (.tmp 66) = (.bool true) := by have h := depL hdeps 14 (by kernel_rfl) 66 (by kernel_rfl); exact h
        have e69 : A.eval (.tmp 69) = (.slice oa on' oc) := by have h := depL hdeps 17 (by kernel_rfl) 69 (by kernel_rfl); exact h
        refine ifw_want 14 true 66 rfl rfl e66 ?_
        with_reducible refine shown_q (Value.string So) ?qq_3_18 (fun _ _ => ?qr_3_18)
        case qr_3_18 => exact (rfl : (Value.string So) = (Value.string So))
        with_reducible refine quietAt_cv 33 9 (.tmp 69) (Value.slice oa on' oc) (Value.string So) ?h0_3_18 ?h1_3_18 ?h2_3_18
        case h0_3_18 => rfl
        case h1_3_18 => exact e69
        case h2_3_18 => exact (HCo.out u hu)
      · intro A u hu hpu hsz hout hdeps
        have e66 : A.eval (.tmp 66) = (.bool true) := by have h := depL hdeps 14 (by kernel_rfl) 66 (by kernel_rfl); exact h
        have e8 : A.eval (.tmp 8) = (.pointer (some ⟨p8, 0, none⟩)) := (hout 8 (by kernel_rfl)).trans rfl
        refine ifw_want 14 true 66 rfl rfl e66 ?_
        with_reducible refine shown_q (Value.pointer (some ⟨p8, 4, none⟩)) ?qq_3_19 (fun _ _ => ?qr_3_19)
        case qr_3_19 => exact (rfl : (Value.pointer (some ⟨p8, 4, none⟩)) = (Value.pointer (some ⟨p8, 4, none⟩)))
        with_reducible refine quietAt_field 36 (.tmp 8) 4 ?h0_3_19 ⟨p8, 0, none⟩ ⟨p8, 4, none⟩ ?h1_3_19 ?h2_3_19
        case h0_3_19 => rfl
        case h1_3_19 => exact e8
        case h2_3_19 => kernel_rfl
      · intro A u hu hpu hsz hout hdeps
        have e66 : A.eval (.tmp 66) = (.bool true) := by have h := depL hdeps 14 (by kernel_rfl) 66 (by kernel_rfl); exact h
        have e71 : A.eval (.tmp 71) = (.pointer (some ⟨p8, 4, none⟩)) := by have h := depL hdeps 19 (by kernel_rfl) 71 (by kernel_rfl); exact h
        refine ifw_want 14 true 66 rfl rfl e66 ?_
        with_reducible refine shown_q (Value.slice ba bn bc) ?qq_3_20 (fun _ _ => ?qr_3_20)
        case qr_3_20 => exact (rfl : (Value.slice ba bn bc) = (Value.slice ba bn bc))
        with_reducible refine quietAt_ld 33 (.tmp 71) (Value.pointer (some ⟨p8, 4, none⟩)) (Value.slice ba bn bc) ?h0_3_20 ?h1_3_20 ?h2_3_20
        case h0_3_20 => rfl
        case h1_3_20 => exact e71
        case h2_3_20 => exact ld33 p8 4 bn bc ba u ((HB1.out.keep hu).cell 4)
      · intro A u hu hpu hsz hout hdeps
        have e66 : A.eval (.tmp 66) = (.bool true) := by have h := depL hdeps 14 (by kernel_rfl) 66 (by kernel_rfl); exact h
        have e15 : A.eval (.tmp 15) = (.int .i64 0) := (hout 15 (by kernel_rfl)).trans rfl
        refine ifw_want 14 true 66 rfl rfl e66 ?_
        with_reducible refine shown_q (Value.int .i64 0) ?qq_3_21 (fun _ _ => ?qr_3_21)
        case qr_3_21 => exact (rfl : (Value.int .i64 0) = (Value.int .i64 0))
        with_reducible refine quietAt_mv (.tmp 15) (Value.int .i64 0) ?h0_3_21 ?h1_3_21
        case h0_3_21 => rfl
        case h1_3_21 => exact e15
      · intro A u hu hpu hsz hout hdeps
        have e66 : A.eval (.tmp 66) = (.bool true) := by have h := depL hdeps 14 (by kernel_rfl) 66 (by kernel_rfl); exact h
        have e72 : A.eval (.tmp 72) = (.slice ba bn bc) := by have h := depL hdeps 20 (by kernel_rfl) 72 (by kernel_rfl); exact h
        have e73 : A.eval (.tmp 73) = (.int .i64 0) := by have h := depL hdeps 21 (by kernel_rfl) 73 (by kernel_rfl); exact h
        refine ifw_want 14 true 66 rfl rfl e66 ?_
        with_reducible refine shown_q (Value.slice ba 0 bc) ?qq_3_22 (fun _ _ => ?qr_3_22)
        case qr_3_22 => exact (rfl : (Value.slice ba 0 bc) = (Value.slice ba 0 bc))
        with_reducible refine quietAt_sliceh 33 (.tmp 72) (.tmp 73) (Value.slice ba bn bc) (Value.int .i64 0) (Value.slice ba 0 bc) ?h0_3_22 ?h1_3_22 ?h2_3_22 ?h3_3_22
        case h0_3_22 => rfl
        case h1_3_22 => exact e72
        case h2_3_22 => exact e73
        case h3_3_22 => exact HSl.out u
      · intro A u hu hpu hsz hout hdeps
        have e66 : A.eval (.tmp 66) = (.bool true) := by have h := depL hdeps 14 (by kernel_rfl) 66 (by kernel_rfl); exact h
        have e74 : A.eval (.tmp 74) = (.slice ba 0 bc) := by have h := depL hdeps 22 (by kernel_rfl) 74 (by kernel_rfl); exact h
        refine ifw_want 14 true 66 rfl rfl e66 ?_
        with_reducible refine shown_q (Value.string Sb) ?qq_3_23 (fun _ _ => ?qr_3_23)
        case qr_3_23 => exact (rfl : (Value.string Sb) = (Value.string Sb))
        with_reducible refine quietAt_cv 33 9 (.tmp 74) (Value.slice ba 0 bc) (Value.string Sb) ?h0_3_23 ?h1_3_23 ?h2_3_23
        case h0_3_23 => rfl
        case h1_3_23 => exact e74
        case h2_3_23 => exact (HCb.out u hu)
      · intro A u hu hpu hsz hout hdeps
        have e66 : A.eval (.tmp 66) = (.bool true) := by have h := depL hdeps 14 (by kernel_rfl) 66 (by kernel_rfl); exact h
        have e70 : A.eval (.tmp 70) = (.string So) := by have h := depL hdeps 18 (by kernel_rfl) 70 (by kernel_rfl); exact h
        have e75 : A.eval (.tmp 75) = (.string Sb) := by have h := depL hdeps 23 (by kernel_rfl) 75 (by kernel_rfl); exact h
        refine ifw_want 14 true 66 rfl rfl e66 ?_
        with_reducible refine shown_q (Value.string (So ++ Sb)) ?qq_3_24 (fun _ _ => ?qr_3_24)
        case qr_3_24 => exact (rfl : (Value.string (So ++ Sb)) = (Value.string (So ++ Sb)))
        with_reducible refine quietAt_bin .add 9 (.tmp 70) (.tmp 75) 9 (Value.string So) (Value.string Sb) (Value.string (So ++ Sb)) ?h0_3_24 ?h1_3_24 ?h2_3_24 ?h3_3_24
        case h0_3_24 => rfl
        case h1_3_24 => exact e70
        case h2_3_24 => exact e75
        case h3_3_24 => exact HAd.out _ _ u
      · intro A u hu hpu hsz hout hdeps
        have e66 : A.eval (.tmp 66) = (.bool true) := by have h := depL hdeps 14 (by kernel_rfl) 66 (by kernel_rfl); exact h
        have e68 : A.eval (.tmp 68) = (.string (So ++ Sb)) := by have h := depL hdeps 16 (by kernel_rfl) 68 (by kernel_rfl); exact h
        have e76 : A.eval (.tmp 76) = (.string (So ++ Sb)) := by have h := depL hdeps 24 (by kernel_rfl) 76 (by kernel_rfl); exact h
        refine ifw_want 14 true 66 rfl rfl e66 ?_
        with_reducible refine shown_q (Value.bool true) ?qq_3_25 (fun _ _ => ?qr_3_25)
        case qr_3_25 => exact (rfl : (Value.bool true) = (Value.bool true))
        with_reducible refine quietAt_bin .eql 9 (.tmp 68) (.tmp 76) 9 (Value.string (So ++ Sb)) (Value.string (So ++ Sb)) (Value.bool true) ?h0_3_25 ?h1_3_25 ?h2_3_25 ?h3_3_25
        case h0_3_25 => rfl
        case h1_3_25 => exact e68
        case h2_3_25 => exact e76
        case h3_3_25 => exact HEq.out _ _ u
      · intro A u hu hpu hsz hout hdeps
        have e66 : A.eval (.tmp 66) = (.bool true) := by have h := depL hdeps 14 (by kernel_rfl) 66 (by kernel_rfl); exact h
        have e77 : A.eval (.tmp 77) = (.bool true) := by have h := depL hdeps 25 (by kernel_rfl) 77 (by kernel_rfl); exact h
        refine ifw_none rfl ?_
        with_reducible refine shown_q (Value.bool true) ?qq_3_26 (fun _ _ => ?qr_3_26)
        case qr_3_26 => exact (rfl : (Value.bool true) = (Value.bool true))
        with_reducible refine quietAt_pick (.tmp 66) (.tmp 77) (.const (.bool false)) true (Value.bool true) ?h0_3_26 ?h1_3_26 ?h2_3_26
        case h0_3_26 => rfl
        case h1_3_26 => exact e66
        case h2_3_26 => rw [if_pos rfl]; exact e77
      · intro A u hu hpu hsz hout hdeps
        have e78 : A.eval (.tmp 78) = (.bool true) := by have h := depL hdeps 26 (by kernel_rfl) 78 (by kernel_rfl); exact h
        refine ifw_none rfl ?_
        with_reducible refine shown_q (Value.bool true) ?qq_3_27 (fun _ _ => ?qr_3_27)
        case qr_3_27 => exact (rfl : (Value.bool true) = (Value.bool true))
        with_reducible refine quietAt_as (.tmp 78) (Value.bool true) ?h0_3_27 ?h1_3_27
        case h0_3_27 => rfl
        case h1_3_27 => exact e78
      · intro A u8 listed hh hall
        have hA := hh.frame
        have HU := hid hh.grown
        obtain ⟨x52, hx52⟩ : ∃ x, A.eval (.tmp 52) = x := ⟨_, rfl⟩
        have f52 : (fun v _ => v = (Value.slice a0 n0 c0)) x52 u8 := by rw [← hx52]; exact hh.got 0 _ 52 rfl rfl (hall 0 (by decide))
        obtain ⟨x53, hx53⟩ : ∃ x, A.eval (.tmp 53) = x := ⟨_, rfl⟩
        have f53 : (fun v _ => v = (Value.slice a2 n2 c2)) x53 u8 := by rw [← hx53]; exact hh.got 1 _ 53 rfl rfl (hall 1 (by decide))
        obtain ⟨x54, hx54⟩ : ∃ x, A.eval (.tmp 54) = x := ⟨_, rfl⟩
        have f54 : (fun v _ => v = (Value.pointer (some ⟨p8, 2, none⟩))) x54 u8 := by rw [← hx54]; exact hh.got 2 _ 54 rfl rfl (hall 2 (by decide))
        obtain ⟨x55, hx55⟩ : ∃ x, A.eval (.tmp 55) = x := ⟨_, rfl⟩
        have f55 : (fun v _ => v = (Value.string nm)) x55 u8 := by rw [← hx55]; exact hh.got 3 _ 55 rfl rfl (hall 3 (by decide))
        obtain ⟨x56, hx56⟩ : ∃ x, A.eval (.tmp 56) = x := ⟨_, rfl⟩
        have f56 : (fun v _ => v = Value.bool true) x56 u8 := by rw [← hx56]; exact hh.got 4 _ 56 rfl rfl (hall 4 (by decide))
        obtain ⟨x57, hx57⟩ : ∃ x, A.eval (.tmp 57) = x := ⟨_, rfl⟩
        have f57 : (fun v _ => v = Value.bool true) x57 u8 := by rw [← hx57]; exact hh.got 5 _ 57 rfl rfl (hall 5 (by decide))
        obtain ⟨x58, hx58⟩ : ∃ x, A.eval (.tmp 58) = x := ⟨_, rfl⟩
        have f58 : (fun v _ => v = (Value.bool true)) x58 u8 := by rw [← hx58]; exact hh.got 6 _ 58 rfl rfl (hall 6 (by decide))
        obtain ⟨x59, hx59⟩ : ∃ x, A.eval (.tmp 59) = x := ⟨_, rfl⟩
        have f59 : (fun v _ => v = (Value.bool true)) x59 u8 := by rw [← hx59]; exact hh.got 7 _ 59 rfl rfl (hall 7 (by decide))
        obtain ⟨x60, hx60⟩ : ∃ x, A.eval (.tmp 60) = x := ⟨_, rfl⟩
        have f60 : (fun v _ => v = (Value.bool true)) x60 u8 := by rw [← hx60]; exact hh.got 8 _ 60 rfl rfl (hall 8 (by decide))
        obtain ⟨x61, hx61⟩ : ∃ x, A.eval (.tmp 61) = x := ⟨_, rfl⟩
        have f61 : (fun v _ => v = undef) x61 u8 := by rw [← hx61]; exact hh.got 9 _ 61 rfl rfl (hall 9 (by decide))
        obtain ⟨x62, hx62⟩ : ∃ x, A.eval (.tmp 62) = x := ⟨_, rfl⟩
        have f62 : (fun v _ => v = undef) x62 u8 := by rw [← hx62]; exact hh.got 10 _ 62 rfl rfl (hall 10 (by decide))
        obtain ⟨x63, hx63⟩ : ∃ x, A.eval (.tmp 63) = x := ⟨_, rfl⟩
        have f63 : (fun v _ => v = (Value.bool true)) x63 u8 := by rw [← hx63]; exact hh.got 11 _ 63 rfl rfl (hall 11 (by decide))
        obtain ⟨x64, hx64⟩ : ∃ x, A.eval (.tmp 64) = x := ⟨_, rfl⟩
        have f64 : (fun v _ => v = (Value.bool true)) x64 u8 := by rw [← hx64]; exact hh.got 12 _ 64 rfl rfl (hall 12 (by decide))
        obtain ⟨x65, hx65⟩ : ∃ x, A.eval (.tmp 65) = x := ⟨_, rfl⟩
        have f65 : (fun v _ => v = (Value.bool true)) x65 u8 := by rw [← hx65]; exact hh.got 13 _ 65 rfl rfl (hall 13 (by decide))
        obtain ⟨x66, hx66⟩ : ∃ x, A.eval (.tmp 66) = x := ⟨_, rfl⟩
        have f66 : (fun v _ => v = (Value.bool true)) x66 u8 := by rw [← hx66]; exact hh.got 14 _ 66 rfl rfl (hall 14 (by decide))
        obtain ⟨x67, hx67⟩ : ∃ x, A.eval (.tmp 67) = x := ⟨_, rfl⟩
        have f67 : (fun v _ => v = (Value.slice na nn nc)) x67 u8 := by rw [← hx67]; exact hh.got 15 _ 67 rfl rfl (hall 15 (by decide))
        obtain ⟨x68, hx68⟩ : ∃ x, A.eval (.tmp 68) = x := ⟨_, rfl⟩
        have f68 : (fun v _ => v = (Value.string (So ++ Sb))) x68 u8 := by rw [← hx68]; exact hh.got 16 _ 68 rfl rfl (hall 16 (by decide))
        obtain ⟨x69, hx69⟩ : ∃ x, A.eval (.tmp 69) = x := ⟨_, rfl⟩
        have f69 : (fun v _ => v = (Value.slice oa on' oc)) x69 u8 := by rw [← hx69]; exact hh.got 17 _ 69 rfl rfl (hall 17 (by decide))
        obtain ⟨x70, hx70⟩ : ∃ x, A.eval (.tmp 70) = x := ⟨_, rfl⟩
        have f70 : (fun v _ => v = (Value.string So)) x70 u8 := by rw [← hx70]; exact hh.got 18 _ 70 rfl rfl (hall 18 (by decide))
        obtain ⟨x71, hx71⟩ : ∃ x, A.eval (.tmp 71) = x := ⟨_, rfl⟩
        have f71 : (fun v _ => v = (Value.pointer (some ⟨p8, 4, none⟩))) x71 u8 := by rw [← hx71]; exact hh.got 19 _ 71 rfl rfl (hall 19 (by decide))
        obtain ⟨x72, hx72⟩ : ∃ x, A.eval (.tmp 72) = x := ⟨_, rfl⟩
        have f72 : (fun v _ => v = (Value.slice ba bn bc)) x72 u8 := by rw [← hx72]; exact hh.got 20 _ 72 rfl rfl (hall 20 (by decide))
        obtain ⟨x73, hx73⟩ : ∃ x, A.eval (.tmp 73) = x := ⟨_, rfl⟩
        have f73 : (fun v _ => v = (Value.int .i64 0)) x73 u8 := by rw [← hx73]; exact hh.got 21 _ 73 rfl rfl (hall 21 (by decide))
        obtain ⟨x74, hx74⟩ : ∃ x, A.eval (.tmp 74) = x := ⟨_, rfl⟩
        have f74 : (fun v _ => v = (Value.slice ba 0 bc)) x74 u8 := by rw [← hx74]; exact hh.got 22 _ 74 rfl rfl (hall 22 (by decide))
        obtain ⟨x75, hx75⟩ : ∃ x, A.eval (.tmp 75) = x := ⟨_, rfl⟩
        have f75 : (fun v _ => v = (Value.string Sb)) x75 u8 := by rw [← hx75]; exact hh.got 23 _ 75 rfl rfl (hall 23 (by decide))
        obtain ⟨x76, hx76⟩ : ∃ x, A.eval (.tmp 76) = x := ⟨_, rfl⟩
        have f76 : (fun v _ => v = (Value.string (So ++ Sb))) x76 u8 := by rw [← hx76]; exact hh.got 24 _ 76 rfl rfl (hall 24 (by decide))
        obtain ⟨x77, hx77⟩ : ∃ x, A.eval (.tmp 77) = x := ⟨_, rfl⟩
        have f77 : (fun v _ => v = (Value.bool true)) x77 u8 := by rw [← hx77]; exact hh.got 25 _ 77 rfl rfl (hall 25 (by decide))
        obtain ⟨x78, hx78⟩ : ∃ x, A.eval (.tmp 78) = x := ⟨_, rfl⟩
        have f78 : (fun v _ => v = (Value.bool true)) x78 u8 := by rw [← hx78]; exact hh.got 26 _ 78 rfl rfl (hall 26 (by decide))
        obtain ⟨x10, hx10⟩ : ∃ x, A.eval (.tmp 10) = x := ⟨_, rfl⟩
        have f10 : (fun v _ => v = (Value.bool true)) x10 u8 := by rw [← hx10]; exact hh.got 27 _ 10 rfl rfl (hall 27 (by decide))
        dsimp only [wrote, List.foldl] at hA
        rw [hx52, hx53, hx54, hx55, hx56, hx57, hx58, hx59, hx60, hx61, hx62, hx63, hx64, hx65, hx66, hx67, hx68, hx69, hx70, hx71, hx72, hx73, hx74, hx75, hx76, hx77, hx78, hx10] at hA
        clear hh hall hx52 hx53 hx54 hx55 hx56 hx57 hx58 hx59 hx60 hx61 hx62 hx63 hx64 hx65 hx66 hx67 hx68 hx69 hx70 hx71 hx72 hx73 hx74 hx75 hx76 hx77 hx78 hx10
        replace f52 := (f52 : x52 = (.slice a0 n0 c0))
        subst f52
        replace f53 := (f53 : x53 = (.slice a2 n2 c2))
        subst f53
        replace f54 := (f54 : x54 = (.pointer (some ⟨p8, 2, none⟩)))
        subst f54
        replace f55 := (f55 : x55 = (.string nm))
        subst f55
        have e56 := (f56 : _ = Value.bool true)
        subst e56
        have e57 := (f57 : _ = Value.bool true)
        subst e57
        replace f58 := (f58 : x58 = (.bool true))
        subst f58
        replace f59 := (f59 : x59 = (.bool true))
        subst f59
        replace f60 := (f60 : x60 = (.bool true))
        subst f60
        replace f61 := (f61 : x61 = undef)
        subst f61
        replace f62 := (f62 : x62 = undef)
        subst f62
        replace f63 := (f63 : x63 = (.bool true))
        subst f63
        replace f64 := (f64 : x64 = (.bool true))
        subst f64
        replace f65 := (f65 : x65 = (.bool true))
        subst f65
        replace f66 := (f66 : x66 = (.bool true))
        subst f66
        replace f67 := (f67 : x67 = (.slice na nn nc))
        subst f67
        replace f68 := (f68 : x68 = (.string (So ++ Sb)))
        subst f68
        replace f69 := (f69 : x69 = (.slice oa on' oc))
        subst f69
        replace f70 := (f70 : x70 = (.string So))
        subst f70
        replace f71 := (f71 : x71 = (.pointer (some ⟨p8, 4, none⟩)))
        subst f71
        replace f72 := (f72 : x72 = (.slice ba bn bc))
        subst f72
        replace f73 := (f73 : x73 = (.int .i64 0))
        subst f73
        replace f74 := (f74 : x74 = (.slice ba 0 bc))
        subst f74
        replace f75 := (f75 : x75 = (.string Sb))
        subst f75
        replace f76 := (f76 : x76 = (.string (So ++ Sb)))
        subst f76
        replace f77 := (f77 : x77 = (.bool true))
        subst f77
        replace f78 := (f78 : x78 = (.bool true))
        subst f78
        replace f10 := (f10 : x10 = (.bool true))
        subst f10
        subst hA
        show wpList _ _ _ [] _ _
        unfold wpList
        simp only [Act.put, List.setIfInBounds_toArray, List.set_cons_succ, List.set_cons_zero]
        go_wp2_with fail
        go_ret
        exact ⟨rfl, gtrans HG1.out HU.out⟩
    | false =>
      rw [show (false || decide (0 < (0 : Int))) = false from by simp]
      as_aux_lemma =>
      have HKp : Hid (∀ (x y : Operand) (u : World), (do eqGuard .gtr 3 x y (.int .i64 0) (.int .i64 0); binOp .gtr 3 (.int .i64 0) (.int .i64 0) : Sem Value).run Try.prog u = .ok (.bool false) u) := hid (fun x y u => by go_simp)
      go_upto_region 12 with fail
      refine wp_region_listX (by kernel_rfl) [fun v _ => v = (Value.slice a0 n0 c0), fun v _ => v = (Value.slice a2 n2 c2), fun v _ => v = (Value.pointer (some ⟨p8, 2, none⟩)), fun v _ => v = (Value.string nm), fun v _ => v = Value.bool true, fun v _ => v = Value.bool true, fun v _ => v = (Value.bool false), fun v _ => v = (Value.bool false), fun v _ => v = (Value.bool false), fun v _ => v = (Value.int .i64 0), fun v _ => v = (Value.bool false), fun v _ => v = (Value.bool false), fun v _ => v = (Value.bool true), fun v _ => v = (Value.bool true), fun v _ => v = (Value.bool true), fun v _ => v = (Value.slice na nn nc), fun v _ => v = (Value.string (So ++ Sb)), fun v _ => v = (Value.slice oa on' oc), fun v _ => v = (Value.string So), fun v _ => v = (Value.pointer (some ⟨p8, 4, none⟩)), fun v _ => v = (Value.slice ba bn bc), fun v _ => v = (Value.int .i64 0), fun v _ => v = (Value.slice ba 0 bc), fun v _ => v = (Value.string Sb), fun v _ => v = (Value.string (So ++ Sb)), fun v _ => v = (Value.bool true), fun v _ => v = (Value.bool true), fun v _ => v = (Value.bool true)] (none) (fun _ => none) 28 (by kernel_rfl) (by kernel_rfl) (by kernel_rfl) (by kernel_rfl) (by decide) noRow_one (fun _ => .inl rfl) ⟨fun i v u u' hki h hg => h, fun i v u u' hki h hg => h, fun i v u u' hki h hg => h, fun i v u u' hki h hg => h, fun i v u u' hki h hg => h, fun i v u u' hki h hg => h, fun i v u u' hki h hg => h, fun i v u u' hki h hg => h, fun i v u u' hki h hg => h, fun i v u u' hki h hg => h, fun i v u u' hki h hg => h, fun i v u u' hki h hg => h, fun i v u u' hki h hg => h, fun i v u u' hki h hg => h, fun i v u u' hki h hg => h, fun i v u u' hki h hg => h, fun i v u u' hki h hg => h, fun i v u u' hki h hg => h, fun i v u u' hki h hg => h, fun i v u u' hki h hg => h, fun i v u u' hki h hg => h, fun i v u u' hki h hg => h, fun i v u u' hki h hg => h, fun i v u u' hki h hg => h, fun i v u u' hki h hg => h, fun i v u u' hki h hg => h, fun i v u u' hki h hg => h, fun i v u u' hki h hg => h, trivial⟩ ⟨?_, ?_, ?_, ?_, ?_, ?_, ?_, ?_, ?_, ?_, ?_, ?_, ?_, ?_, ?_, ?_, ?_, ?_, ?_, ?_, ?_, ?_, ?_, ?_, ?_, ?_, ?_, ?_, trivial⟩ ?_
      · intro A u hu hpu hsz hout hdeps
        have e0 : A.eval (.tmp 0) = (.slice a0 n0 c0) := (hout 0 (by kernel_rfl)).trans rfl
        refine ifw_none rfl ?_
        with_reducible refine shown_q (Value.slice a0 n0 c0) ?qq_4_0 (fun _ _ => ?qr_4_0)
        case qr_4_0 => exact (rfl : (Value.slice a0 n0 c0) = (Value.slice a0 n0 c0))
        with_reducible refine quietAt_mv (.tmp 0) (Value.slice a0 n0 c0) ?h0_4_0 ?h1_4_0
        case h0_4_0 => rfl
        case h1_4_0 => exact e0
      · intro A u hu hpu hsz hout hdeps
        have e2 : A.eval (.tmp 2) = (.slice a2 n2 c2) := (hout 2 (by kernel_rfl)).trans rfl
        refine ifw_none rfl ?_
        with_reducible refine shown_q (Value.slice a2 n2 c2) ?qq_4_1 (fun _ _ => ?qr_4_1)
        case qr_4_1 => exact (rfl : (Value.slice a2 n2 c2) = (Value.slice a2 n2 c2))
        with_reducible refine quietAt_mv (.tmp 2) (Value.slice a2 n2 c2) ?h0_4_1 ?h1_4_1
        case h0_4_1 => rfl
        case h1_4_1 => exact e2
      · intro A u hu hpu hsz hout hdeps
        have e8 : A.eval (.tmp 8) = (.pointer (some ⟨p8, 0, none⟩)) := (hout 8 (by kernel_rfl)).trans rfl
        refine ifw_none rfl ?_
        with_reducible refine shown_q (Value.pointer (some ⟨p8, 2, none⟩)) ?qq_4_2 (fun _ _ => ?qr_4_2)
        case qr_4_2 => exact (rfl : (Value.pointer (some ⟨p8, 2, none⟩)) = (Value.pointer (some ⟨p8, 2, none⟩)))
        with_reducible refine quietAt_field 36 (.tmp 8) 2 ?h0_4_2 ⟨p8, 0, none⟩ ⟨p8, 2, none⟩ ?h1_4_2 ?h2_4_2
        case h0_4_2 => rfl
        case h1_4_2 => exact e8
        case h2_4_2 => kernel_rfl
      · intro A u hu hpu hsz hout hdeps
        have e54 : A.eval (.tmp 54) = (.pointer (some ⟨p8, 2, none⟩)) := by have h := depL hdeps 2 (by kernel_rfl) 54 (by kernel_rfl); exact h
        refine ifw_none rfl ?_
        with_reducible refine shown_q (Value.string nm) ?qq_4_3 (fun _ _ => ?qr_4_3)
        case qr_4_3 => exact (rfl : (Value.string nm) = (Value.string nm))
        with_reducible refine quietAt_ld 9 (.tmp 54) (Value.pointer (some ⟨p8, 2, none⟩)) (Value.string nm) ?h0_4_3 ?h1_4_3 ?h2_4_3
        case h0_4_3 => rfl
        case h1_4_3 => exact e54
        case h2_4_3 => exact ld9 p8 2 nm u ((HB1.out.keep hu).cell 2)
      · intro A u hu hpu hsz hout hdeps
        have e52 : A.eval (.tmp 52) = (.slice a0 n0 c0) := by have h := depL hdeps 0 (by kernel_rfl) 52 (by kernel_rfl); exact h
        have e53 : A.eval (.tmp 53) = (.slice a2 n2 c2) := by have h := depL hdeps 1 (by kernel_rfl) 53 (by kernel_rfl); exact h
        have e55 : A.eval (.tmp 55) = (.string nm) := by have h := depL hdeps 3 (by kernel_rfl) 55 (by kernel_rfl); exact h
        refine ifw_none rfl ?_
        with_reducible refine shown_call 21 Try.f21 ?h0_4_4 ?h1_4_4 ?h2_4_4 #[.tmp 52, .tmp 53, .tmp 55] #[34, 34, 9] ?h3_4_4 #[(Value.slice a0 n0 c0), (Value.slice a2 n2 c2), (Value.string nm)] ?h4_4_4 ?h5_4_4
        case h0_4_4 => exact Try.func21
        case h1_4_4 => kernel_rfl
        case h2_4_4 => kernel_rfl
        case h3_4_4 => rfl
        case h4_4_4 => exact map3 _ _ _ _ _ _ _ e52 e53 e55
        case h5_4_4 => exact HOt.out u hu
      · intro A u hu hpu hsz hout hdeps
        have f56 : (fun v _ => v = Value.bool true) (A.eval (.tmp 56)) u := by have h := depL hdeps 4 (by kernel_rfl) 56 (by kernel_rfl); exact h
        have e56 := (f56 : _ = Value.bool true)
        refine ifw_none rfl ?_
        exact shown_q _ (quietAt_mv (.tmp 56) _ rfl e56) (fun u' hg => rfl)
      · intro A u hu hpu hsz hout hdeps
        have f57 : (fun v _ => v = Value.bool true) (A.eval (.tmp 57)) u := by have h := depL hdeps 5 (by kernel_rfl) 57 (by kernel_rfl); exact h
        have e57 := (f57 : _ = Value.bool true)
        have e14 : A.eval (.tmp 14) = (.bool false) := (hout 14 (by kernel_rfl)).trans rfl
        refine ifw_want 5 true 57 rfl rfl e57 ?_
        with_reducible refine shown_q (Value.bool false) ?qq_4_6 (fun _ _ => ?qr_4_6)
        case qr_4_6 => exact (rfl : (Value.bool false) = (Value.bool false))
        with_reducible refine quietAt_mv (.tmp 14) (Value.bool false) ?h0_4_6 ?h1_4_6
        case h0_4_6 => rfl
        case h1_4_6 => exact e14
      · intro A u hu hpu hsz hout hdeps
        have f57 : (fun v _ => v = Value.bool true) (A.eval (.tmp 57)) u := by have h := depL hdeps 5 (by kernel_rfl) 57 (by kernel_rfl); exact h
        have e57 := (f57 : _ = Value.bool true)
        have e12 : A.eval (.tmp 12) = (.bool false) := (hout 12 (by kernel_rfl)).trans rfl
        refine ifw_want 5 true 57 rfl rfl e57 ?_
        with_reducible refine shown_q (Value.bool false) ?qq_4_7 (fun _ _ => ?qr_4_7)
        case qr_4_7 => exact (rfl : (Value.bool false) = (Value.bool false))
        with_reducible refine quietAt_mv (.tmp 12) (Value.bool false) ?h0_4_7 ?h1_4_7
        case h0_4_7 => rfl
        case h1_4_7 => exact e12
      · intro A u hu hpu hsz hout hdeps
        have f57 : (fun v _ => v = Value.bool true) (A.eval (.tmp 57)) u := by have h := depL hdeps 5 (by kernel_rfl) 57 (by kernel_rfl); exact h
        have e57 := (f57 : _ = Value.bool true)
        have e59 : A.eval (.tmp 59) = (.bool false) := by have h := depL hdeps 7 (by kernel_rfl) 59 (by kernel_rfl); exact h
        refine ifw_want 5 true 57 rfl rfl e57 ?_
        with_reducible refine shown_q (Value.bool false) ?qq_4_8 (fun _ _ => ?qr_4_8)
        case qr_4_8 => exact (rfl : (Value.bool false) = (Value.bool false))
        with_reducible refine quietAt_mv (.tmp 59) (Value.bool false) ?h0_4_8 ?h1_4_8
        case h0_4_8 => rfl
        case h1_4_8 => exact e59
      · intro A u hu hpu hsz hout hdeps
        have e60 : A.eval (.tmp 60) = (.bool false) := by have h := depL hdeps 8 (by kernel_rfl) 60 (by kernel_rfl); exact h
        have e4 : A.eval (.tmp 4) = (.int .i64 0) := (hout 4 (by kernel_rfl)).trans rfl
        refine ifw_want 8 false 60 rfl rfl e60 ?_
        with_reducible refine shown_q (Value.int .i64 0) ?qq_4_9 (fun _ _ => ?qr_4_9)
        case qr_4_9 => exact (rfl : (Value.int .i64 0) = (Value.int .i64 0))
        with_reducible refine quietAt_mv (.tmp 4) (Value.int .i64 0) ?h0_4_9 ?h1_4_9
        case h0_4_9 => rfl
        case h1_4_9 => exact e4
      · intro A u hu hpu hsz hout hdeps
        have e60 : A.eval (.tmp 60) = (.bool false) := by have h := depL hdeps 8 (by kernel_rfl) 60 (by kernel_rfl); exact h
        have e61 : A.eval (.tmp 61) = (.int .i64 0) := by have h := depL hdeps 9 (by kernel_rfl) 61 (by kernel_rfl); exact h
        refine ifw_want 8 false 60 rfl rfl e60 ?_
        with_reducible refine shown_q (Value.bool false) ?qq_4_10 (fun _ _ => ?qr_4_10)
        case qr_4_10 => exact (rfl : (Value.bool false) = (Value.bool false))
        with_reducible refine quietAt_bin .gtr 3 (.tmp 61) (.const (.int .i64 0)) 3 (Value.int .i64 0) (Value.int .i64 0) (Value.bool false) ?h0_4_10 ?h1_4_10 ?h2_4_10 ?h3_4_10
        case h0_4_10 => rfl
        case h1_4_10 => exact e61
        case h2_4_10 => exact rfl
        case h3_4_10 => exact HKp.out _ _ u
      · intro A u hu hpu hsz hout hdeps
        have f57 : (fun v _ => v = Value.bool true) (A.eval (.tmp 57)) u := by have h := depL hdeps 5 (by kernel_rfl) 57 (by kernel_rfl); exact h
        have e57 := (f57 : _ = Value.bool true)
        have e60 : A.eval (.tmp 60) = (.bool false) := by have h := depL hdeps 8 (by kernel_rfl) 60 (by kernel_rfl); exact h
        have e62 : A.eval (.tmp 62) = (.bool false) := by have h := depL hdeps 10 (by kernel_rfl) 62 (by kernel_rfl); exact h
        refine ifw_want 5 true 57 rfl rfl e57 ?_
        with_reducible refine shown_q (Value.bool false) ?qq_4_11 (fun _ _ => ?qr_4_11)
        case qr_4_11 => exact (rfl : (Value.bool false) = (Value.bool false))
        with_reducible refine quietAt_pick (.tmp 60) (.const (.bool true)) (.tmp 62) false (Value.bool false) ?h0_4_11 ?h1_4_11 ?h2_4_11
        case h0_4_11 => rfl
        case h1_4_11 => exact e60
        case h2_4_11 => rw [if_neg (by decide)]; exact e62
      · intro A u hu hpu hsz hout hdeps
        have f57 : (fun v _ => v = Value.bool true) (A.eval (.tmp 57)) u := by have h := depL hdeps 5 (by kernel_rfl) 57 (by kernel_rfl); exact h
        have e57 := (f57 : _ = Value.bool true)
        have e58 : A.eval (.tmp 58) = (.bool false) := by have h := depL hdeps 6 (by kernel_rfl) 58 (by kernel_rfl); exact h
        have e63 : A.eval (.tmp 63) = (.bool false) := by have h := depL hdeps 11 (by kernel_rfl) 63 (by kernel_rfl); exact h
        refine ifw_want 5 true 57 rfl rfl e57 ?_
        with_reducible refine shown_q (Value.bool true) ?qq_4_12 (fun _ _ => ?qr_4_12)
        case qr_4_12 => exact (rfl : (Value.bool true) = (Value.bool true))
        with_reducible refine quietAt_bin .eql 4 (.tmp 58) (.tmp 63) 4 (Value.bool false) (Value.bool false) (Value.bool true) ?h0_4_12 ?h1_4_12 ?h2_4_12 ?h3_4_12
        case h0_4_12 => rfl
        case h1_4_12 => exact e58
        case h2_4_12 => exact e63
        case h3_4_12 => exact rfl
      · intro A u hu hpu hsz hout hdeps
        have f57 : (fun v _ => v = Value.bool true) (A.eval (.tmp 57)) u := by have h := depL hdeps 5 (by kernel_rfl) 57 (by kernel_rfl); exact h
        have e57 := (f57 : _ = Value.bool true)
        have e64 : A.eval (.tmp 64) = (.bool true) := by have h := depL hdeps 12 (by kernel_rfl) 64 (by kernel_rfl); exact h
        refine ifw_none rfl ?_
        with_reducible refine shown_q (Value.bool true) ?qq_4_13 (fun _ _ => ?qr_4_13)
        case qr_4_13 => exact (rfl : (Value.bool true) = (Value.bool true))
        with_reducible refine quietAt_pick (.tmp 57) (.tmp 64) (.const (.bool false)) true (Value.bool true) ?h0_4_13 ?h1_4_13 ?h2_4_13
        case h0_4_13 => rfl
        case h1_4_13 => exact e57
        case h2_4_13 => rw [if_pos rfl]; exact e64
      · intro A u hu hpu hsz hout hdeps
        have e65 : A.eval (.tmp 65) = (.bool true) := by have h := depL hdeps 13 (by kernel_rfl) 65 (by kernel_rfl); exact h
        refine ifw_none rfl ?_
        with_reducible refine shown_q (Value.bool true) ?qq_4_14 (fun _ _ => ?qr_4_14)
        case qr_4_14 => exact (rfl : (Value.bool true) = (Value.bool true))
        with_reducible refine quietAt_mv (.tmp 65) (Value.bool true) ?h0_4_14 ?h1_4_14
        case h0_4_14 => rfl
        case h1_4_14 => exact e65
      · intro A u hu hpu hsz hout hdeps
        have e66 : A.eval (.tmp 66) = (.bool true) := by have h := depL hdeps 14 (by kernel_rfl) 66 (by kernel_rfl); exact h
        have e13 : A.eval (.tmp 13) = (.slice na nn nc) := (hout 13 (by kernel_rfl)).trans rfl
        refine ifw_want 14 true 66 rfl rfl e66 ?_
        with_reducible refine shown_q (Value.slice na nn nc) ?qq_4_15 (fun _ _ => ?qr_4_15)
        case qr_4_15 => exact (rfl : (Value.slice na nn nc) = (Value.slice na nn nc))
        with_reducible refine quietAt_mv (.tmp 13) (Value.slice na nn nc) ?h0_4_15 ?h1_4_15
        case h0_4_15 => rfl
        case h1_4_15 => exact e13
      · intro A u hu hpu hsz hout hdeps
        have e66 : A.eval (.tmp 66) = (.bool true) := by have h := depL hdeps 14 (by kernel_rfl) 66 (by kernel_rfl); exact h
        have e67 : A.eval (.tmp 67) = (.slice na nn nc) := by have h := depL hdeps 15 (by kernel_rfl) 67 (by kernel_rfl); exact h
        refine ifw_want 14 true 66 rfl rfl e66 ?_
        with_reducible refine shown_q (Value.string (So ++ Sb)) ?qq_4_16 (fun _ _ => ?qr_4_16)
        case qr_4_16 => exact (rfl : (Value.string (So ++ Sb)) = (Value.string (So ++ Sb)))
        with_reducible refine quietAt_cv 33 9 (.tmp 67) (Value.slice na nn nc) (Value.string (So ++ Sb)) ?h0_4_16 ?h1_4_16 ?h2_4_16
        case h0_4_16 => rfl
        case h1_4_16 => exact e67
        case h2_4_16 => exact (HCn.out u hu)
      · intro A u hu hpu hsz hout hdeps
        have e66 : A.eval (.tmp 66) = (.bool true) := by have h := depL hdeps 14 (by kernel_rfl) 66 (by kernel_rfl); exact h
        have e11 : A.eval (.tmp 11) = (.slice oa on' oc) := (hout 11 (by kernel_rfl)).trans rfl
        refine ifw_want 14 true 66 rfl rfl e66 ?_
        with_reducible refine shown_q (Value.slice oa on' oc) ?qq_4_17 (fun _ _ => ?qr_4_17)
        case qr_4_17 => exact (rfl : (Value.slice oa on' oc) = (Value.slice oa on' oc))
        with_reducible refine quietAt_mv (.tmp 11) (Value.slice oa on' oc) ?h0_4_17 ?h1_4_17
        case h0_4_17 => rfl
        case h1_4_17 => exact e11
      · intro A u hu hpu hsz hout hdeps
        have e66 : A.eval (.tmp 66) = (.bool true) := by have h := depL hdeps 14 (by kernel_rfl) 66 (by kernel_rfl); exact h
        have e69 : A.eval (.tmp 69) = (.slice oa on' oc) := by have h := depL hdeps 17 (by kernel_rfl) 69 (by kernel_rfl); exact h
        refine ifw_want 14 true 66 rfl rfl e66 ?_
        with_reducible refine shown_q (Value.string So) ?qq_4_18 (fun _ _ => ?qr_4_18)
        case qr_4_18 => exact (rfl : (Value.string So) = (Value.string So))
        with_reducible refine quietAt_cv 33 9 (.tmp 69) (Value.slice oa on' oc) (Value.string So) ?h0_4_18 ?h1_4_18 ?h2_4_18
        case h0_4_18 => rfl
        case h1_4_18 => exact e69
        case h2_4_18 => exact (HCo.out u hu)
      · intro A u hu hpu hsz hout hdeps
        have e66 : A.eval (.tmp 66) = (.bool true) := by have h := depL hdeps 14 (by kernel_rfl) 66 (by kernel_rfl); exact h
        have e8 : A.eval (.tmp 8) = (.pointer (some ⟨p8, 0, none⟩)) := (hout 8 (by kernel_rfl)).trans rfl
        refine ifw_want 14 true 66 rfl rfl e66 ?_
        with_reducible refine shown_q (Value.pointer (some ⟨p8, 4, none⟩)) ?qq_4_19 (fun _ _ => ?qr_4_19)
        case qr_4_19 => exact (rfl : (Value.pointer (some ⟨p8, 4, none⟩)) = (Value.pointer (some ⟨p8, 4, none⟩)))
        with_reducible refine quietAt_field 36 (.tmp 8) 4 ?h0_4_19 ⟨p8, 0, none⟩ ⟨p8, 4, none⟩ ?h1_4_19 ?h2_4_19
        case h0_4_19 => rfl
        case h1_4_19 => exact e8
        case h2_4_19 => kernel_rfl
      · intro A u hu hpu hsz hout hdeps
        have e66 : A.eval (.tmp 66) = (.bool true) := by have h := depL hdeps 14 (by kernel_rfl) 66 (by kernel_rfl); exact h
        have e71 : A.eval (.tmp 71) = (.pointer (some ⟨p8, 4, none⟩)) := by have h := depL hdeps 19 (by kernel_rfl) 71 (by kernel_rfl); exact h
        refine ifw_want 14 true 66 rfl rfl e66 ?_
        with_reducible refine shown_q (Value.slice ba bn bc) ?qq_4_20 (fun _ _ => ?qr_4_20)
        case qr_4_20 => exact (rfl : (Value.slice ba bn bc) = (Value.slice ba bn bc))
        with_reducible refine quietAt_ld 33 (.tmp 71) (Value.pointer (some ⟨p8, 4, none⟩)) (Value.slice ba bn bc) ?h0_4_20 ?h1_4_20 ?h2_4_20
        case h0_4_20 => rfl
        case h1_4_20 => exact e71
        case h2_4_20 => exact ld33 p8 4 bn bc ba u ((HB1.out.keep hu).cell 4)
      · intro A u hu hpu hsz hout hdeps
        have e66 : A.eval (.tmp 66) = (.bool true) := by have h := depL hdeps 14 (by kernel_rfl) 66 (by kernel_rfl); exact h
        have e15 : A.eval (.tmp 15) = (.int .i64 0) := (hout 15 (by kernel_rfl)).trans rfl
        refine ifw_want 14 true 66 rfl rfl e66 ?_
        with_reducible refine shown_q (Value.int .i64 0) ?qq_4_21 (fun _ _ => ?qr_4_21)
        case qr_4_21 => exact (rfl : (Value.int .i64 0) = (Value.int .i64 0))
        with_reducible refine quietAt_mv (.tmp 15) (Value.int .i64 0) ?h0_4_21 ?h1_4_21
        case h0_4_21 => rfl
        case h1_4_21 => exact e15
      · intro A u hu hpu hsz hout hdeps
        have e66 : A.eval (.tmp 66) = (.bool true) := by have h := depL hdeps 14 (by kernel_rfl) 66 (by kernel_rfl); exact h
        have e72 : A.eval (.tmp 72) = (.slice ba bn bc) := by have h := depL hdeps 20 (by kernel_rfl) 72 (by kernel_rfl); exact h
        have e73 : A.eval (.tmp 73) = (.int .i64 0) := by have h := depL hdeps 21 (by kernel_rfl) 73 (by kernel_rfl); exact h
        refine ifw_want 14 true 66 rfl rfl e66 ?_
        with_reducible refine shown_q (Value.slice ba 0 bc) ?qq_4_22 (fun _ _ => ?qr_4_22)
        case qr_4_22 => exact (rfl : (Value.slice ba 0 bc) = (Value.slice ba 0 bc))
        with_reducible refine quietAt_sliceh 33 (.tmp 72) (.tmp 73) (Value.slice ba bn bc) (Value.int .i64 0) (Value.slice ba 0 bc) ?h0_4_22 ?h1_4_22 ?h2_4_22 ?h3_4_22
        case h0_4_22 => rfl
        case h1_4_22 => exact e72
        case h2_4_22 => exact e73
        case h3_4_22 => exact HSl.out u
      · intro A u hu hpu hsz hout hdeps
        have e66 : A.eval (.tmp 66) = (.bool true) := by have h := depL hdeps 14 (by kernel_rfl) 66 (by kernel_rfl); exact h
        have e74 : A.eval (.tmp 74) = (.slice ba 0 bc) := by have h := depL hdeps 22 (by kernel_rfl) 74 (by kernel_rfl); exact h
        refine ifw_want 14 true 66 rfl rfl e66 ?_
        with_reducible refine shown_q (Value.string Sb) ?qq_4_23 (fun _ _ => ?qr_4_23)
        case qr_4_23 => exact (rfl : (Value.string Sb) = (Value.string Sb))
        with_reducible refine quietAt_cv 33 9 (.tmp 74) (Value.slice ba 0 bc) (Value.string Sb) ?h0_4_23 ?h1_4_23 ?h2_4_23
        case h0_4_23 => rfl
        case h1_4_23 => exact e74
        case h2_4_23 => exact (HCb.out u hu)
      · intro A u hu hpu hsz hout hdeps
        have e66 : A.eval (.tmp 66) = (.bool true) := by have h := depL hdeps 14 (by kernel_rfl) 66 (by kernel_rfl); exact h
        have e70 : A.eval (.tmp 70) = (.string So) := by have h := depL hdeps 18 (by kernel_rfl) 70 (by kernel_rfl); exact h
        have e75 : A.eval (.tmp 75) = (.string Sb) := by have h := depL hdeps 23 (by kernel_rfl) 75 (by kernel_rfl); exact h
        refine ifw_want 14 true 66 rfl rfl e66 ?_
        with_reducible refine shown_q (Value.string (So ++ Sb)) ?qq_4_24 (fun _ _ => ?qr_4_24)
        case qr_4_24 => exact (rfl : (Value.string (So ++ Sb)) = (Value.string (So ++ Sb)))
        with_reducible refine quietAt_bin .add 9 (.tmp 70) (.tmp 75) 9 (Value.string So) (Value.string Sb) (Value.string (So ++ Sb)) ?h0_4_24 ?h1_4_24 ?h2_4_24 ?h3_4_24
        case h0_4_24 => rfl
        case h1_4_24 => exact e70
        case h2_4_24 => exact e75
        case h3_4_24 => exact HAd.out _ _ u
      · intro A u hu hpu hsz hout hdeps
        have e66 : A.eval (.tmp 66) = (.bool true) := by have h := depL hdeps 14 (by kernel_rfl) 66 (by kernel_rfl); exact h
        have e68 : A.eval (.tmp 68) = (.string (So ++ Sb)) := by have h := depL hdeps 16 (by kernel_rfl) 68 (by kernel_rfl); exact h
        have e76 : A.eval (.tmp 76) = (.string (So ++ Sb)) := by have h := depL hdeps 24 (by kernel_rfl) 76 (by kernel_rfl); exact h
        refine ifw_want 14 true 66 rfl rfl e66 ?_
        with_reducible refine shown_q (Value.bool true) ?qq_4_25 (fun _ _ => ?qr_4_25)
        case qr_4_25 => exact (rfl : (Value.bool true) = (Value.bool true))
        with_reducible refine quietAt_bin .eql 9 (.tmp 68) (.tmp 76) 9 (Value.string (So ++ Sb)) (Value.string (So ++ Sb)) (Value.bool true) ?h0_4_25 ?h1_4_25 ?h2_4_25 ?h3_4_25
        case h0_4_25 => rfl
        case h1_4_25 => exact e68
        case h2_4_25 => exact e76
        case h3_4_25 => exact HEq.out _ _ u
      · intro A u hu hpu hsz hout hdeps
        have e66 : A.eval (.tmp 66) = (.bool true) := by have h := depL hdeps 14 (by kernel_rfl) 66 (by kernel_rfl); exact h
        have e77 : A.eval (.tmp 77) = (.bool true) := by have h := depL hdeps 25 (by kernel_rfl) 77 (by kernel_rfl); exact h
        refine ifw_none rfl ?_
        with_reducible refine shown_q (Value.bool true) ?qq_4_26 (fun _ _ => ?qr_4_26)
        case qr_4_26 => exact (rfl : (Value.bool true) = (Value.bool true))
        with_reducible refine quietAt_pick (.tmp 66) (.tmp 77) (.const (.bool false)) true (Value.bool true) ?h0_4_26 ?h1_4_26 ?h2_4_26
        case h0_4_26 => rfl
        case h1_4_26 => exact e66
        case h2_4_26 => rw [if_pos rfl]; exact e77
      · intro A u hu hpu hsz hout hdeps
        have e78 : A.eval (.tmp 78) = (.bool true) := by have h := depL hdeps 26 (by kernel_rfl) 78 (by kernel_rfl); exact h
        refine ifw_none rfl ?_
        with_reducible refine shown_q (Value.bool true) ?qq_4_27 (fun _ _ => ?qr_4_27)
        case qr_4_27 => exact (rfl : (Value.bool true) = (Value.bool true))
        with_reducible refine quietAt_as (.tmp 78) (Value.bool true) ?h0_4_27 ?h1_4_27
        case h0_4_27 => rfl
        case h1_4_27 => exact e78
      · intro A u8 listed hh hall
        have hA := hh.frame
        have HU := hid hh.grown
        obtain ⟨x52, hx52⟩ : ∃ x, A.eval (.tmp 52) = x := ⟨_, rfl⟩
        have f52 : (fun v _ => v = (Value.slice a0 n0 c0)) x52 u8 := by rw [← hx52]; exact hh.got 0 _ 52 rfl rfl (hall 0 (by decide))
        obtain ⟨x53, hx53⟩ : ∃ x, A.eval (.tmp 53) = x := ⟨_, rfl⟩
        have f53 : (fun v _ => v = (Value.slice a2 n2 c2)) x53 u8 := by rw [← hx53]; exact hh.got 1 _ 53 rfl rfl (hall 1 (by decide))
        obtain ⟨x54, hx54⟩ : ∃ x, A.eval (.tmp 54) = x := ⟨_, rfl⟩
        have f54 : (fun v _ => v = (Value.pointer (some ⟨p8, 2, none⟩))) x54 u8 := by rw [← hx54]; exact hh.got 2 _ 54 rfl rfl (hall 2 (by decide))
        obtain ⟨x55, hx55⟩ : ∃ x, A.eval (.tmp 55) = x := ⟨_, rfl⟩
        have f55 : (fun v _ => v = (Value.string nm)) x55 u8 := by rw [← hx55]; exact hh.got 3 _ 55 rfl rfl (hall 3 (by decide))
        obtain ⟨x56, hx56⟩ : ∃ x, A.eval (.tmp 56) = x := ⟨_, rfl⟩
        have f56 : (fun v _ => v = Value.bool true) x56 u8 := by rw [← hx56]; exact hh.got 4 _ 56 rfl rfl (hall 4 (by decide))
        obtain ⟨x57, hx57⟩ : ∃ x, A.eval (.tmp 57) = x := ⟨_, rfl⟩
        have f57 : (fun v _ => v = Value.bool true) x57 u8 := by rw [← hx57]; exact hh.got 5 _ 57 rfl rfl (hall 5 (by decide))
        obtain ⟨x58, hx58⟩ : ∃ x, A.eval (.tmp 58) = x := ⟨_, rfl⟩
        have f58 : (fun v _ => v = (Value.bool false)) x58 u8 := by rw [← hx58]; exact hh.got 6 _ 58 rfl rfl (hall 6 (by decide))
        obtain ⟨x59, hx59⟩ : ∃ x, A.eval (.tmp 59) = x := ⟨_, rfl⟩
        have f59 : (fun v _ => v = (Value.bool false)) x59 u8 := by rw [← hx59]; exact hh.got 7 _ 59 rfl rfl (hall 7 (by decide))
        obtain ⟨x60, hx60⟩ : ∃ x, A.eval (.tmp 60) = x := ⟨_, rfl⟩
        have f60 : (fun v _ => v = (Value.bool false)) x60 u8 := by rw [← hx60]; exact hh.got 8 _ 60 rfl rfl (hall 8 (by decide))
        obtain ⟨x61, hx61⟩ : ∃ x, A.eval (.tmp 61) = x := ⟨_, rfl⟩
        have f61 : (fun v _ => v = (Value.int .i64 0)) x61 u8 := by rw [← hx61]; exact hh.got 9 _ 61 rfl rfl (hall 9 (by decide))
        obtain ⟨x62, hx62⟩ : ∃ x, A.eval (.tmp 62) = x := ⟨_, rfl⟩
        have f62 : (fun v _ => v = (Value.bool false)) x62 u8 := by rw [← hx62]; exact hh.got 10 _ 62 rfl rfl (hall 10 (by decide))
        obtain ⟨x63, hx63⟩ : ∃ x, A.eval (.tmp 63) = x := ⟨_, rfl⟩
        have f63 : (fun v _ => v = (Value.bool false)) x63 u8 := by rw [← hx63]; exact hh.got 11 _ 63 rfl rfl (hall 11 (by decide))
        obtain ⟨x64, hx64⟩ : ∃ x, A.eval (.tmp 64) = x := ⟨_, rfl⟩
        have f64 : (fun v _ => v = (Value.bool true)) x64 u8 := by rw [← hx64]; exact hh.got 12 _ 64 rfl rfl (hall 12 (by decide))
        obtain ⟨x65, hx65⟩ : ∃ x, A.eval (.tmp 65) = x := ⟨_, rfl⟩
        have f65 : (fun v _ => v = (Value.bool true)) x65 u8 := by rw [← hx65]; exact hh.got 13 _ 65 rfl rfl (hall 13 (by decide))
        obtain ⟨x66, hx66⟩ : ∃ x, A.eval (.tmp 66) = x := ⟨_, rfl⟩
        have f66 : (fun v _ => v = (Value.bool true)) x66 u8 := by rw [← hx66]; exact hh.got 14 _ 66 rfl rfl (hall 14 (by decide))
        obtain ⟨x67, hx67⟩ : ∃ x, A.eval (.tmp 67) = x := ⟨_, rfl⟩
        have f67 : (fun v _ => v = (Value.slice na nn nc)) x67 u8 := by rw [← hx67]; exact hh.got 15 _ 67 rfl rfl (hall 15 (by decide))
        obtain ⟨x68, hx68⟩ : ∃ x, A.eval (.tmp 68) = x := ⟨_, rfl⟩
        have f68 : (fun v _ => v = (Value.string (So ++ Sb))) x68 u8 := by rw [← hx68]; exact hh.got 16 _ 68 rfl rfl (hall 16 (by decide))
        obtain ⟨x69, hx69⟩ : ∃ x, A.eval (.tmp 69) = x := ⟨_, rfl⟩
        have f69 : (fun v _ => v = (Value.slice oa on' oc)) x69 u8 := by rw [← hx69]; exact hh.got 17 _ 69 rfl rfl (hall 17 (by decide))
        obtain ⟨x70, hx70⟩ : ∃ x, A.eval (.tmp 70) = x := ⟨_, rfl⟩
        have f70 : (fun v _ => v = (Value.string So)) x70 u8 := by rw [← hx70]; exact hh.got 18 _ 70 rfl rfl (hall 18 (by decide))
        obtain ⟨x71, hx71⟩ : ∃ x, A.eval (.tmp 71) = x := ⟨_, rfl⟩
        have f71 : (fun v _ => v = (Value.pointer (some ⟨p8, 4, none⟩))) x71 u8 := by rw [← hx71]; exact hh.got 19 _ 71 rfl rfl (hall 19 (by decide))
        obtain ⟨x72, hx72⟩ : ∃ x, A.eval (.tmp 72) = x := ⟨_, rfl⟩
        have f72 : (fun v _ => v = (Value.slice ba bn bc)) x72 u8 := by rw [← hx72]; exact hh.got 20 _ 72 rfl rfl (hall 20 (by decide))
        obtain ⟨x73, hx73⟩ : ∃ x, A.eval (.tmp 73) = x := ⟨_, rfl⟩
        have f73 : (fun v _ => v = (Value.int .i64 0)) x73 u8 := by rw [← hx73]; exact hh.got 21 _ 73 rfl rfl (hall 21 (by decide))
        obtain ⟨x74, hx74⟩ : ∃ x, A.eval (.tmp 74) = x := ⟨_, rfl⟩
        have f74 : (fun v _ => v = (Value.slice ba 0 bc)) x74 u8 := by rw [← hx74]; exact hh.got 22 _ 74 rfl rfl (hall 22 (by decide))
        obtain ⟨x75, hx75⟩ : ∃ x, A.eval (.tmp 75) = x := ⟨_, rfl⟩
        have f75 : (fun v _ => v = (Value.string Sb)) x75 u8 := by rw [← hx75]; exact hh.got 23 _ 75 rfl rfl (hall 23 (by decide))
        obtain ⟨x76, hx76⟩ : ∃ x, A.eval (.tmp 76) = x := ⟨_, rfl⟩
        have f76 : (fun v _ => v = (Value.string (So ++ Sb))) x76 u8 := by rw [← hx76]; exact hh.got 24 _ 76 rfl rfl (hall 24 (by decide))
        obtain ⟨x77, hx77⟩ : ∃ x, A.eval (.tmp 77) = x := ⟨_, rfl⟩
        have f77 : (fun v _ => v = (Value.bool true)) x77 u8 := by rw [← hx77]; exact hh.got 25 _ 77 rfl rfl (hall 25 (by decide))
        obtain ⟨x78, hx78⟩ : ∃ x, A.eval (.tmp 78) = x := ⟨_, rfl⟩
        have f78 : (fun v _ => v = (Value.bool true)) x78 u8 := by rw [← hx78]; exact hh.got 26 _ 78 rfl rfl (hall 26 (by decide))
        obtain ⟨x10, hx10⟩ : ∃ x, A.eval (.tmp 10) = x := ⟨_, rfl⟩
        have f10 : (fun v _ => v = (Value.bool true)) x10 u8 := by rw [← hx10]; exact hh.got 27 _ 10 rfl rfl (hall 27 (by decide))
        dsimp only [wrote, List.foldl] at hA
        rw [hx52, hx53, hx54, hx55, hx56, hx57, hx58, hx59, hx60, hx61, hx62, hx63, hx64, hx65, hx66, hx67, hx68, hx69, hx70, hx71, hx72, hx73, hx74, hx75, hx76, hx77, hx78, hx10] at hA
        clear hh hall hx52 hx53 hx54 hx55 hx56 hx57 hx58 hx59 hx60 hx61 hx62 hx63 hx64 hx65 hx66 hx67 hx68 hx69 hx70 hx71 hx72 hx73 hx74 hx75 hx76 hx77 hx78 hx10
        replace f52 := (f52 : x52 = (.slice a0 n0 c0))
        subst f52
        replace f53 := (f53 : x53 = (.slice a2 n2 c2))
        subst f53
        replace f54 := (f54 : x54 = (.pointer (some ⟨p8, 2, none⟩)))
        subst f54
        replace f55 := (f55 : x55 = (.string nm))
        subst f55
        have e56 := (f56 : _ = Value.bool true)
        subst e56
        have e57 := (f57 : _ = Value.bool true)
        subst e57
        replace f58 := (f58 : x58 = (.bool false))
        subst f58
        replace f59 := (f59 : x59 = (.bool false))
        subst f59
        replace f60 := (f60 : x60 = (.bool false))
        subst f60
        replace f61 := (f61 : x61 = (.int .i64 0))
        subst f61
        replace f62 := (f62 : x62 = (.bool false))
        subst f62
        replace f63 := (f63 : x63 = (.bool false))
        subst f63
        replace f64 := (f64 : x64 = (.bool true))
        subst f64
        replace f65 := (f65 : x65 = (.bool true))
        subst f65
        replace f66 := (f66 : x66 = (.bool true))
        subst f66
        replace f67 := (f67 : x67 = (.slice na nn nc))
        subst f67
        replace f68 := (f68 : x68 = (.string (So ++ Sb)))
        subst f68
        replace f69 := (f69 : x69 = (.slice oa on' oc))
        subst f69
        replace f70 := (f70 : x70 = (.string So))
        subst f70
        replace f71 := (f71 : x71 = (.pointer (some ⟨p8, 4, none⟩)))
        subst f71
        replace f72 := (f72 : x72 = (.slice ba bn bc))
        subst f72
        replace f73 := (f73 : x73 = (.int .i64 0))
        subst f73
        replace f74 := (f74 : x74 = (.slice ba 0 bc))
        subst f74
        replace f75 := (f75 : x75 = (.string Sb))
        subst f75
        replace f76 := (f76 : x76 = (.string (So ++ Sb)))
        subst f76
        replace f77 := (f77 : x77 = (.bool true))
        subst f77
        replace f78 := (f78 : x78 = (.bool true))
        subst f78
        replace f10 := (f10 : x10 = (.bool true))
        subst f10
        subst hA
        show wpList _ _ _ [] _ _
        unfold wpList
        simp only [Act.put, List.setIfInBounds_toArray, List.set_cons_succ, List.set_cons_zero]
        go_wp2_with fail
        go_ret
        exact ⟨rfl, gtrans HG1.out HU.out⟩
  by_cases hkb : kp ≤ (bn : Int)
  · have hz0 : kp = ((zz : Nat) : Int) := by omega
    subst hz0
    have hz1 : ¬ ((zz : Int) < 0) := by omega
    have hz2 : ¬ ((bn : Int) < (zz : Int)) := by omega
    cases H with
    | true =>
      rw [show (true || decide (0 < ((zz : Nat) : Int))) = true from by simp]
      as_aux_lemma =>
      have HKp : Hid (∀ (x y : Operand) (u : World), (do eqGuard .gtr 3 x y (.int .i64 (zz : Nat)) (.int .i64 0); binOp .gtr 3 (.int .i64 (zz : Nat)) (.int .i64 0) : Sem Value).run Try.prog u = .ok (.bool true) u) := hid (fun x y u => by have e : (0 : Int) < (zz : Int) := (by omega); go_simp; omega)
      go_upto_region 12 with fail
      refine wp_region_listX (by kernel_rfl) [fun v _ => v = (Value.slice a0 n0 c0), fun v _ => v = (Value.slice a2 n2 c2), fun v _ => v = (Value.pointer (some ⟨p8, 2, none⟩)), fun v _ => v = (Value.string nm), fun v _ => v = Value.bool true, fun v _ => v = Value.bool true, fun v _ => v = (Value.bool true), fun v _ => v = (Value.bool true), fun v _ => v = (Value.bool true), fun v _ => v = undef, fun v _ => v = undef, fun v _ => v = (Value.bool true), fun v _ => v = (Value.bool true), fun v _ => v = (Value.bool true), fun v _ => v = (Value.bool true), fun v _ => v = (Value.slice na nn nc), fun v _ => v = (Value.string (So ++ Sb)), fun v _ => v = (Value.slice oa on' oc), fun v _ => v = (Value.string So), fun v _ => v = (Value.pointer (some ⟨p8, 4, none⟩)), fun v _ => v = (Value.slice ba bn bc), fun v _ => v = (Value.int .i64 (zz : Nat)), fun v _ => v = (Value.slice ba zz bc), fun v _ => v = (Value.string Sb), fun v _ => v = (Value.string (So ++ Sb)), fun v _ => v = (Value.bool true), fun v _ => v = (Value.bool true), fun v _ => v = (Value.bool true)] (none) (fun _ => none) 28 (by kernel_rfl) (by kernel_rfl) (by kernel_rfl) (by kernel_rfl) (by decide) noRow_one (fun _ => .inl rfl) ⟨fun i v u u' hki h hg => h, fun i v u u' hki h hg => h, fun i v u u' hki h hg => h, fun i v u u' hki h hg => h, fun i v u u' hki h hg => h, fun i v u u' hki h hg => h, fun i v u u' hki h hg => h, fun i v u u' hki h hg => h, fun i v u u' hki h hg => h, fun i v u u' hki h hg => h, fun i v u u' hki h hg => h, fun i v u u' hki h hg => h, fun i v u u' hki h hg => h, fun i v u u' hki h hg => h, fun i v u u' hki h hg => h, fun i v u u' hki h hg => h, fun i v u u' hki h hg => h, fun i v u u' hki h hg => h, fun i v u u' hki h hg => h, fun i v u u' hki h hg => h, fun i v u u' hki h hg => h, fun i v u u' hki h hg => h, fun i v u u' hki h hg => h, fun i v u u' hki h hg => h, fun i v u u' hki h hg => h, fun i v u u' hki h hg => h, fun i v u u' hki h hg => h, fun i v u u' hki h hg => h, trivial⟩ ⟨?_, ?_, ?_, ?_, ?_, ?_, ?_, ?_, ?_, ?_, ?_, ?_, ?_, ?_, ?_, ?_, ?_, ?_, ?_, ?_, ?_, ?_, ?_, ?_, ?_, ?_, ?_, ?_, trivial⟩ ?_
      · intro A u hu hpu hsz hout hdeps
        have e0 : A.eval (.tmp 0) = (.slice a0 n0 c0) := (hout 0 (by kernel_rfl)).trans rfl
        refine ifw_none rfl ?_
        with_reducible refine shown_q (Value.slice a0 n0 c0) ?qq_5_0 (fun _ _ => ?qr_5_0)
        case qr_5_0 => exact (rfl : (Value.slice a0 n0 c0) = (Value.slice a0 n0 c0))
        with_reducible refine quietAt_mv (.tmp 0) (Value.slice a0 n0 c0) ?h0_5_0 ?h1_5_0
        case h0_5_0 => rfl
        case h1_5_0 => exact e0
      · intro A u hu hpu hsz hout hdeps
        have e2 : A.eval (.tmp 2) = (.slice a2 n2 c2) := (hout 2 (by kernel_rfl)).trans rfl
        refine ifw_none rfl ?_
        with_reducible refine shown_q (Value.slice a2 n2 c2) ?qq_5_1 (fun _ _ => ?qr_5_1)
        case qr_5_1 => exact (rfl : (Value.slice a2 n2 c2) = (Value.slice a2 n2 c2))
        with_reducible refine quietAt_mv (.tmp 2) (Value.slice a2 n2 c2) ?h0_5_1 ?h1_5_1
        case h0_5_1 => rfl
        case h1_5_1 => exact e2
      · intro A u hu hpu hsz hout hdeps
        have e8 : A.eval (.tmp 8) = (.pointer (some ⟨p8, 0, none⟩)) := (hout 8 (by kernel_rfl)).trans rfl
        refine ifw_none rfl ?_
        with_reducible refine shown_q (Value.pointer (some ⟨p8, 2, none⟩)) ?qq_5_2 (fun _ _ => ?qr_5_2)
        case qr_5_2 => exact (rfl : (Value.pointer (some ⟨p8, 2, none⟩)) = (Value.pointer (some ⟨p8, 2, none⟩)))
        with_reducible refine quietAt_field 36 (.tmp 8) 2 ?h0_5_2 ⟨p8, 0, none⟩ ⟨p8, 2, none⟩ ?h1_5_2 ?h2_5_2
        case h0_5_2 => rfl
        case h1_5_2 => exact e8
        case h2_5_2 => kernel_rfl
      · intro A u hu hpu hsz hout hdeps
        have e54 : A.eval (.tmp 54) = (.pointer (some ⟨p8, 2, none⟩)) := by have h := depL hdeps 2 (by kernel_rfl) 54 (by kernel_rfl); exact h
        refine ifw_none rfl ?_
        with_reducible refine shown_q (Value.string nm) ?qq_5_3 (fun _ _ => ?qr_5_3)
        case qr_5_3 => exact (rfl : (Value.string nm) = (Value.string nm))
        with_reducible refine quietAt_ld 9 (.tmp 54) (Value.pointer (some ⟨p8, 2, none⟩)) (Value.string nm) ?h0_5_3 ?h1_5_3 ?h2_5_3
        case h0_5_3 => rfl
        case h1_5_3 => exact e54
        case h2_5_3 => exact ld9 p8 2 nm u ((HB1.out.keep hu).cell 2)
      · intro A u hu hpu hsz hout hdeps
        have e52 : A.eval (.tmp 52) = (.slice a0 n0 c0) := by have h := depL hdeps 0 (by kernel_rfl) 52 (by kernel_rfl); exact h
        have e53 : A.eval (.tmp 53) = (.slice a2 n2 c2) := by have h := depL hdeps 1 (by kernel_rfl) 53 (by kernel_rfl); exact h
        have e55 : A.eval (.tmp 55) = (.string nm) := by have h := depL hdeps 3 (by kernel_rfl) 55 (by kernel_rfl); exact h
        refine ifw_none rfl ?_
        with_reducible refine shown_call 21 Try.f21 ?h0_5_4 ?h1_5_4 ?h2_5_4 #[.tmp 52, .tmp 53, .tmp 55] #[34, 34, 9] ?h3_5_4 #[(Value.slice a0 n0 c0), (Value.slice a2 n2 c2), (Value.string nm)] ?h4_5_4 ?h5_5_4
        case h0_5_4 => exact Try.func21
        case h1_5_4 => kernel_rfl
        case h2_5_4 => kernel_rfl
        case h3_5_4 => rfl
        case h4_5_4 => exact map3 _ _ _ _ _ _ _ e52 e53 e55
        case h5_5_4 => exact HOt.out u hu
      · intro A u hu hpu hsz hout hdeps
        have f56 : (fun v _ => v = Value.bool true) (A.eval (.tmp 56)) u := by have h := depL hdeps 4 (by kernel_rfl) 56 (by kernel_rfl); exact h
        have e56 := (f56 : _ = Value.bool true)
        refine ifw_none rfl ?_
        exact shown_q _ (quietAt_mv (.tmp 56) _ rfl e56) (fun u' hg => rfl)
      · intro A u hu hpu hsz hout hdeps
        have f57 : (fun v _ => v = Value.bool true) (A.eval (.tmp 57)) u := by have h := depL hdeps 5 (by kernel_rfl) 57 (by kernel_rfl); exact h
        have e57 := (f57 : _ = Value.bool true)
        have e14 : A.eval (.tmp 14) = (.bool true) := (hout 14 (by kernel_rfl)).trans rfl
        refine ifw_want 5 true 57 rfl rfl e57 ?_
        with_reducible refine shown_q (Value.bool true) ?qq_5_6 (fun _ _ => ?qr_5_6)
        case qr_5_6 => exact (rfl : (Value.bool true) = (Value.bool true))
        with_reducible refine quietAt_mv (.tmp 14) (Value.bool true) ?h0_5_6 ?h1_5_6
        case h0_5_6 => rfl
        case h1_5_6 => exact e14
      · intro A u hu hpu hsz hout hdeps
        have f57 : (fun v _ => v = Value.bool true) (A.eval (.tmp 57)) u := by have h := depL hdeps 5 (by kernel_rfl) 57 (by kernel_rfl); exact h
        have e57 := (f57 : _ = Value.bool true)
        have e12 : A.eval (.tmp 12) = (.bool true) := (hout 12 (by kernel_rfl)).trans rfl
        refine ifw_want 5 true 57 rfl rfl e57 ?_
        with_reducible refine shown_q (Value.bool true) ?qq_5_7 (fun _ _ => ?qr_5_7)
        case qr_5_7 => exact (rfl : (Value.bool true) = (Value.bool true))
        with_reducible refine quietAt_mv (.tmp 12) (Value.bool true) ?h0_5_7 ?h1_5_7
        case h0_5_7 => rfl
        case h1_5_7 => exact e12
      · intro A u hu hpu hsz hout hdeps
        have f57 : (fun v _ => v = Value.bool true) (A.eval (.tmp 57)) u := by have h := depL hdeps 5 (by kernel_rfl) 57 (by kernel_rfl); exact h
        have e57 := (f57 : _ = Value.bool true)
        have e59 : A.eval (.tmp 59) = (.bool true) := by have h := depL hdeps 7 (by kernel_rfl) 59 (by kernel_rfl); exact h
        refine ifw_want 5 true 57 rfl rfl e57 ?_
        with_reducible refine shown_q (Value.bool true) ?qq_5_8 (fun _ _ => ?qr_5_8)
        case qr_5_8 => exact (rfl : (Value.bool true) = (Value.bool true))
        with_reducible refine quietAt_mv (.tmp 59) (Value.bool true) ?h0_5_8 ?h1_5_8
        case h0_5_8 => rfl
        case h1_5_8 => exact e59
      · intro A u hu hpu hsz hout hdeps
        have e60 : A.eval (.tmp 60) = (.bool true) := by have h := depL hdeps 8 (by kernel_rfl) 60 (by kernel_rfl); exact h
        refine ifw_pass 8 false true 60 rfl rfl e60 (by decide) ?_
        exact rfl
      · intro A u hu hpu hsz hout hdeps
        have e60 : A.eval (.tmp 60) = (.bool true) := by have h := depL hdeps 8 (by kernel_rfl) 60 (by kernel_rfl); exact h
        refine ifw_pass 8 false true 60 rfl rfl e60 (by decide) ?_
        exact rfl
      · intro A u hu hpu hsz hout hdeps
        have f57 : (fun v _ => v = Value.bool true) (A.eval (.tmp 57)) u := by have h := depL hdeps 5 (by kernel_rfl) 57 (by kernel_rfl); exact h
        have e57 := (f57 : _ = Value.bool true)
        have e60 : A.eval (.tmp 60) = (.bool true) := by have h := depL hdeps 8 (by kernel_rfl) 60 (by kernel_rfl); exact h
        refine ifw_want 5 true 57 rfl rfl e57 ?_
        with_reducible refine shown_q (Value.bool true) ?qq_5_11 (fun _ _ => ?qr_5_11)
        case qr_5_11 => exact (rfl : (Value.bool true) = (Value.bool true))
        with_reducible refine quietAt_pick (.tmp 60) (.const (.bool true)) (.tmp 62) true (Value.bool true) ?h0_5_11 ?h1_5_11 ?h2_5_11
        case h0_5_11 => rfl
        case h1_5_11 => exact e60
        case h2_5_11 => rw [if_pos rfl]; exact rfl
      · intro A u hu hpu hsz hout hdeps
        have f57 : (fun v _ => v = Value.bool true) (A.eval (.tmp 57)) u := by have h := depL hdeps 5 (by kernel_rfl) 57 (by kernel_rfl); exact h
        have e57 := (f57 : _ = Value.bool true)
        have e58 : A.eval (.tmp 58) = (.bool true) := by have h := depL hdeps 6 (by kernel_rfl) 58 (by kernel_rfl); exact h
        have e63 : A.eval (.tmp 63) = (.bool true) := by have h := depL hdeps 11 (by kernel_rfl) 63 (by kernel_rfl); exact h
        refine ifw_want 5 true 57 rfl rfl e57 ?_
        with_reducible refine shown_q (Value.bool true) ?qq_5_12 (fun _ _ => ?qr_5_12)
        case qr_5_12 => exact (rfl : (Value.bool true) = (Value.bool true))
        with_reducible refine quietAt_bin .eql 4 (.tmp 58) (.tmp 63) 4 (Value.bool true) (Value.bool true) (Value.bool true) ?h0_5_12 ?h1_5_12 ?h2_5_12 ?h3_5_12
        case h0_5_12 => rfl
        case h1_5_12 => exact e58
        case h2_5_12 => exact e63
        case h3_5_12 => exact rfl
      · intro A u hu hpu hsz hout hdeps
        have f57 : (fun v _ => v = Value.bool true) (A.eval (.tmp 57)) u := by have h := depL hdeps 5 (by kernel_rfl) 57 (by kernel_rfl); exact h
        have e57 := (f57 : _ = Value.bool true)
        have e64 : A.eval (.tmp 64) = (.bool true) := by have h := depL hdeps 12 (by kernel_rfl) 64 (by kernel_rfl); exact h
        refine ifw_none rfl ?_
        with_reducible refine shown_q (Value.bool true) ?qq_5_13 (fun _ _ => ?qr_5_13)
        case qr_5_13 => exact (rfl : (Value.bool true) = (Value.bool true))
        with_reducible refine quietAt_pick (.tmp 57) (.tmp 64) (.const (.bool false)) true (Value.bool true) ?h0_5_13 ?h1_5_13 ?h2_5_13
        case h0_5_13 => rfl
        case h1_5_13 => exact e57
        case h2_5_13 => rw [if_pos rfl]; exact e64
      · intro A u hu hpu hsz hout hdeps
        have e65 : A.eval (.tmp 65) = (.bool true) := by have h := depL hdeps 13 (by kernel_rfl) 65 (by kernel_rfl); exact h
        refine ifw_none rfl ?_
        with_reducible refine shown_q (Value.bool true) ?qq_5_14 (fun _ _ => ?qr_5_14)
        case qr_5_14 => exact (rfl : (Value.bool true) = (Value.bool true))
        with_reducible refine quietAt_mv (.tmp 65) (Value.bool true) ?h0_5_14 ?h1_5_14
        case h0_5_14 => rfl
        case h1_5_14 => exact e65
      · intro A u hu hpu hsz hout hdeps
        have e66 : A.eval (.tmp 66) = (.bool true) := by have h := depL hdeps 14 (by kernel_rfl) 66 (by kernel_rfl); exact h
        have e13 : A.eval (.tmp 13) = (.slice na nn nc) := (hout 13 (by kernel_rfl)).trans rfl
        refine ifw_want 14 true 66 rfl rfl e66 ?_
        with_reducible refine shown_q (Value.slice na nn nc) ?qq_5_15 (fun _ _ => ?qr_5_15)
        case qr_5_15 => exact (rfl : (Value.slice na nn nc) = (Value.slice na nn nc))
        with_reducible refine quietAt_mv (.tmp 13) (Value.slice na nn nc) ?h0_5_15 ?h1_5_15
        case h0_5_15 => rfl
        case h1_5_15 => exact e13
      · intro A u hu hpu hsz hout hdeps
        have e66 : A.eval (.tmp 66) = (.bool true) := by have h := depL hdeps 14 (by kernel_rfl) 66 (by kernel_rfl); exact h
        have e67 : A.eval (.tmp 67) = (.slice na nn nc) := by have h := depL hdeps 15 (by kernel_rfl) 67 (by kernel_rfl); exact h
        refine ifw_want 14 true 66 rfl rfl e66 ?_
        with_reducible refine shown_q (Value.string (So ++ Sb)) ?qq_5_16 (fun _ _ => ?qr_5_16)
        case qr_5_16 => exact (rfl : (Value.string (So ++ Sb)) = (Value.string (So ++ Sb)))
        with_reducible refine quietAt_cv 33 9 (.tmp 67) (Value.slice na nn nc) (Value.string (So ++ Sb)) ?h0_5_16 ?h1_5_16 ?h2_5_16
        case h0_5_16 => rfl
        case h1_5_16 => exact e67
        case h2_5_16 => exact (HCn.out u hu)
      · intro A u hu hpu hsz hout hdeps
        have e66 : A.eval (.tmp 66) = (.bool true) := by have h := depL hdeps 14 (by kernel_rfl) 66 (by kernel_rfl); exact h
        have e11 : A.eval (.tmp 11) = (.slice oa on' oc) := (hout 11 (by kernel_rfl)).trans rfl
        refine ifw_want 14 true 66 rfl rfl e66 ?_
        with_reducible refine shown_q (Value.slice oa on' oc) ?qq_5_17 (fun _ _ => ?qr_5_17)
        case qr_5_17 => exact (rfl : (Value.slice oa on' oc) = (Value.slice oa on' oc))
        with_reducible refine quietAt_mv (.tmp 11) (Value.slice oa on' oc) ?h0_5_17 ?h1_5_17
        case h0_5_17 => rfl
        case h1_5_17 => exact e11
      · intro A u hu hpu hsz hout hdeps
        have e66 : A.eval (.tmp 66) = (.bool true) := by have h := depL hdeps 14 (by kernel_rfl) 66 (by kernel_rfl); exact h
        have e69 : A.eval (.tmp 69) = (.slice oa on' oc) := by have h := depL hdeps 17 (by kernel_rfl) 69 (by kernel_rfl); exact h
        refine ifw_want 14 true 66 rfl rfl e66 ?_
        with_reducible refine shown_q (Value.string So) ?qq_5_18 (fun _ _ => ?qr_5_18)
        case qr_5_18 => exact (rfl : (Value.string So) = (Value.string So))
        with_reducible refine quietAt_cv 33 9 (.tmp 69) (Value.slice oa on' oc) (Value.string So) ?h0_5_18 ?h1_5_18 ?h2_5_18
        case h0_5_18 => rfl
        case h1_5_18 => exact e69
        case h2_5_18 => exact (HCo.out u hu)
      · intro A u hu hpu hsz hout hdeps
        have e66 : A.eval (.tmp 66) = (.bool true) := by have h := depL hdeps 14 (by kernel_rfl) 66 (by kernel_rfl); exact h
        have e8 : A.eval (.tmp 8) = (.pointer (some ⟨p8, 0, none⟩)) := (hout 8 (by kernel_rfl)).trans rfl
        refine ifw_want 14 true 66 rfl rfl e66 ?_
        with_reducible refine shown_q (Value.pointer (some ⟨p8, 4, none⟩)) ?qq_5_19 (fun _ _ => ?qr_5_19)
        case qr_5_19 => exact (rfl : (Value.pointer (some ⟨p8, 4, none⟩)) = (Value.pointer (some ⟨p8, 4, none⟩)))
        with_reducible refine quietAt_field 36 (.tmp 8) 4 ?h0_5_19 ⟨p8, 0, none⟩ ⟨p8, 4, none⟩ ?h1_5_19 ?h2_5_19
        case h0_5_19 => rfl
        case h1_5_19 => exact e8
        case h2_5_19 => kernel_rfl
      · intro A u hu hpu hsz hout hdeps
        have e66 : A.eval (.tmp 66) = (.bool true) := by have h := depL hdeps 14 (by kernel_rfl) 66 (by kernel_rfl); exact h
        have e71 : A.eval (.tmp 71) = (.pointer (some ⟨p8, 4, none⟩)) := by have h := depL hdeps 19 (by kernel_rfl) 71 (by kernel_rfl); exact h
        refine ifw_want 14 true 66 rfl rfl e66 ?_
        with_reducible refine shown_q (Value.slice ba bn bc) ?qq_5_20 (fun _ _ => ?qr_5_20)
        case qr_5_20 => exact (rfl : (Value.slice ba bn bc) = (Value.slice ba bn bc))
        with_reducible refine quietAt_ld 33 (.tmp 71) (Value.pointer (some ⟨p8, 4, none⟩)) (Value.slice ba bn bc) ?h0_5_20 ?h1_5_20 ?h2_5_20
        case h0_5_20 => rfl
        case h1_5_20 => exact e71
        case h2_5_20 => exact ld33 p8 4 bn bc ba u ((HB1.out.keep hu).cell 4)
      · intro A u hu hpu hsz hout hdeps
        have e66 : A.eval (.tmp 66) = (.bool true) := by have h := depL hdeps 14 (by kernel_rfl) 66 (by kernel_rfl); exact h
        have e15 : A.eval (.tmp 15) = (.int .i64 (zz : Nat)) := (hout 15 (by kernel_rfl)).trans rfl
        refine ifw_want 14 true 66 rfl rfl e66 ?_
        with_reducible refine shown_q (Value.int .i64 (zz : Nat)) ?qq_5_21 (fun _ _ => ?qr_5_21)
        case qr_5_21 => exact (rfl : (Value.int .i64 (zz : Nat)) = (Value.int .i64 (zz : Nat)))
        with_reducible refine quietAt_mv (.tmp 15) (Value.int .i64 (zz : Nat)) ?h0_5_21 ?h1_5_21
        case h0_5_21 => rfl
        case h1_5_21 => exact e15
      · intro A u hu hpu hsz hout hdeps
        have e66 : A.eval (.tmp 66) = (.bool true) := by have h := depL hdeps 14 (by kernel_rfl) 66 (by kernel_rfl); exact h
        have e72 : A.eval (.tmp 72) = (.slice ba bn bc) := by have h := depL hdeps 20 (by kernel_rfl) 72 (by kernel_rfl); exact h
        have e73 : A.eval (.tmp 73) = (.int .i64 (zz : Nat)) := by have h := depL hdeps 21 (by kernel_rfl) 73 (by kernel_rfl); exact h
        refine ifw_want 14 true 66 rfl rfl e66 ?_
        with_reducible refine shown_q (Value.slice ba zz bc) ?qq_5_22 (fun _ _ => ?qr_5_22)
        case qr_5_22 => exact (rfl : (Value.slice ba zz bc) = (Value.slice ba zz bc))
        with_reducible refine quietAt_sliceh 33 (.tmp 72) (.tmp 73) (Value.slice ba bn bc) (Value.int .i64 (zz : Nat)) (Value.slice ba zz bc) ?h0_5_22 ?h1_5_22 ?h2_5_22 ?h3_5_22
        case h0_5_22 => rfl
        case h1_5_22 => exact e72
        case h2_5_22 => exact e73
        case h3_5_22 => exact HSl.out u
      · intro A u hu hpu hsz hout hdeps
        have e66 : A.eval (.tmp 66) = (.bool true) := by have h := depL hdeps 14 (by kernel_rfl) 66 (by kernel_rfl); exact h
        have e74 : A.eval (.tmp 74) = (.slice ba zz bc) := by have h := depL hdeps 22 (by kernel_rfl) 74 (by kernel_rfl); exact h
        refine ifw_want 14 true 66 rfl rfl e66 ?_
        with_reducible refine shown_q (Value.string Sb) ?qq_5_23 (fun _ _ => ?qr_5_23)
        case qr_5_23 => exact (rfl : (Value.string Sb) = (Value.string Sb))
        with_reducible refine quietAt_cv 33 9 (.tmp 74) (Value.slice ba zz bc) (Value.string Sb) ?h0_5_23 ?h1_5_23 ?h2_5_23
        case h0_5_23 => rfl
        case h1_5_23 => exact e74
        case h2_5_23 => exact (HCb.out u hu)
      · intro A u hu hpu hsz hout hdeps
        have e66 : A.eval (.tmp 66) = (.bool true) := by have h := depL hdeps 14 (by kernel_rfl) 66 (by kernel_rfl); exact h
        have e70 : A.eval (.tmp 70) = (.string So) := by have h := depL hdeps 18 (by kernel_rfl) 70 (by kernel_rfl); exact h
        have e75 : A.eval (.tmp 75) = (.string Sb) := by have h := depL hdeps 23 (by kernel_rfl) 75 (by kernel_rfl); exact h
        refine ifw_want 14 true 66 rfl rfl e66 ?_
        with_reducible refine shown_q (Value.string (So ++ Sb)) ?qq_5_24 (fun _ _ => ?qr_5_24)
        case qr_5_24 => exact (rfl : (Value.string (So ++ Sb)) = (Value.string (So ++ Sb)))
        with_reducible refine quietAt_bin .add 9 (.tmp 70) (.tmp 75) 9 (Value.string So) (Value.string Sb) (Value.string (So ++ Sb)) ?h0_5_24 ?h1_5_24 ?h2_5_24 ?h3_5_24
        case h0_5_24 => rfl
        case h1_5_24 => exact e70
        case h2_5_24 => exact e75
        case h3_5_24 => exact HAd.out _ _ u
      · intro A u hu hpu hsz hout hdeps
        have e66 : A.eval (.tmp 66) = (.bool true) := by have h := depL hdeps 14 (by kernel_rfl) 66 (by kernel_rfl); exact h
        have e68 : A.eval (.tmp 68) = (.string (So ++ Sb)) := by have h := depL hdeps 16 (by kernel_rfl) 68 (by kernel_rfl); exact h
        have e76 : A.eval (.tmp 76) = (.string (So ++ Sb)) := by have h := depL hdeps 24 (by kernel_rfl) 76 (by kernel_rfl); exact h
        refine ifw_want 14 true 66 rfl rfl e66 ?_
        with_reducible refine shown_q (Value.bool true) ?qq_5_25 (fun _ _ => ?qr_5_25)
        case qr_5_25 => exact (rfl : (Value.bool true) = (Value.bool true))
        with_reducible refine quietAt_bin .eql 9 (.tmp 68) (.tmp 76) 9 (Value.string (So ++ Sb)) (Value.string (So ++ Sb)) (Value.bool true) ?h0_5_25 ?h1_5_25 ?h2_5_25 ?h3_5_25
        case h0_5_25 => rfl
        case h1_5_25 => exact e68
        case h2_5_25 => exact e76
        case h3_5_25 => exact HEq.out _ _ u
      · intro A u hu hpu hsz hout hdeps
        have e66 : A.eval (.tmp 66) = (.bool true) := by have h := depL hdeps 14 (by kernel_rfl) 66 (by kernel_rfl); exact h
        have e77 : A.eval (.tmp 77) = (.bool true) := by have h := depL hdeps 25 (by kernel_rfl) 77 (by kernel_rfl); exact h
        refine ifw_none rfl ?_
        with_reducible refine shown_q (Value.bool true) ?qq_5_26 (fun _ _ => ?qr_5_26)
        case qr_5_26 => exact (rfl : (Value.bool true) = (Value.bool true))
        with_reducible refine quietAt_pick (.tmp 66) (.tmp 77) (.const (.bool false)) true (Value.bool true) ?h0_5_26 ?h1_5_26 ?h2_5_26
        case h0_5_26 => rfl
        case h1_5_26 => exact e66
        case h2_5_26 => rw [if_pos rfl]; exact e77
      · intro A u hu hpu hsz hout hdeps
        have e78 : A.eval (.tmp 78) = (.bool true) := by have h := depL hdeps 26 (by kernel_rfl) 78 (by kernel_rfl); exact h
        refine ifw_none rfl ?_
        with_reducible refine shown_q (Value.bool true) ?qq_5_27 (fun _ _ => ?qr_5_27)
        case qr_5_27 => exact (rfl : (Value.bool true) = (Value.bool true))
        with_reducible refine quietAt_as (.tmp 78) (Value.bool true) ?h0_5_27 ?h1_5_27
        case h0_5_27 => rfl
        case h1_5_27 => exact e78
      · intro A u8 listed hh hall
        have hA := hh.frame
        have HU := hid hh.grown
        obtain ⟨x52, hx52⟩ : ∃ x, A.eval (.tmp 52) = x := ⟨_, rfl⟩
        have f52 : (fun v _ => v = (Value.slice a0 n0 c0)) x52 u8 := by rw [← hx52]; exact hh.got 0 _ 52 rfl rfl (hall 0 (by decide))
        obtain ⟨x53, hx53⟩ : ∃ x, A.eval (.tmp 53) = x := ⟨_, rfl⟩
        have f53 : (fun v _ => v = (Value.slice a2 n2 c2)) x53 u8 := by rw [← hx53]; exact hh.got 1 _ 53 rfl rfl (hall 1 (by decide))
        obtain ⟨x54, hx54⟩ : ∃ x, A.eval (.tmp 54) = x := ⟨_, rfl⟩
        have f54 : (fun v _ => v = (Value.pointer (some ⟨p8, 2, none⟩))) x54 u8 := by rw [← hx54]; exact hh.got 2 _ 54 rfl rfl (hall 2 (by decide))
        obtain ⟨x55, hx55⟩ : ∃ x, A.eval (.tmp 55) = x := ⟨_, rfl⟩
        have f55 : (fun v _ => v = (Value.string nm)) x55 u8 := by rw [← hx55]; exact hh.got 3 _ 55 rfl rfl (hall 3 (by decide))
        obtain ⟨x56, hx56⟩ : ∃ x, A.eval (.tmp 56) = x := ⟨_, rfl⟩
        have f56 : (fun v _ => v = Value.bool true) x56 u8 := by rw [← hx56]; exact hh.got 4 _ 56 rfl rfl (hall 4 (by decide))
        obtain ⟨x57, hx57⟩ : ∃ x, A.eval (.tmp 57) = x := ⟨_, rfl⟩
        have f57 : (fun v _ => v = Value.bool true) x57 u8 := by rw [← hx57]; exact hh.got 5 _ 57 rfl rfl (hall 5 (by decide))
        obtain ⟨x58, hx58⟩ : ∃ x, A.eval (.tmp 58) = x := ⟨_, rfl⟩
        have f58 : (fun v _ => v = (Value.bool true)) x58 u8 := by rw [← hx58]; exact hh.got 6 _ 58 rfl rfl (hall 6 (by decide))
        obtain ⟨x59, hx59⟩ : ∃ x, A.eval (.tmp 59) = x := ⟨_, rfl⟩
        have f59 : (fun v _ => v = (Value.bool true)) x59 u8 := by rw [← hx59]; exact hh.got 7 _ 59 rfl rfl (hall 7 (by decide))
        obtain ⟨x60, hx60⟩ : ∃ x, A.eval (.tmp 60) = x := ⟨_, rfl⟩
        have f60 : (fun v _ => v = (Value.bool true)) x60 u8 := by rw [← hx60]; exact hh.got 8 _ 60 rfl rfl (hall 8 (by decide))
        obtain ⟨x61, hx61⟩ : ∃ x, A.eval (.tmp 61) = x := ⟨_, rfl⟩
        have f61 : (fun v _ => v = undef) x61 u8 := by rw [← hx61]; exact hh.got 9 _ 61 rfl rfl (hall 9 (by decide))
        obtain ⟨x62, hx62⟩ : ∃ x, A.eval (.tmp 62) = x := ⟨_, rfl⟩
        have f62 : (fun v _ => v = undef) x62 u8 := by rw [← hx62]; exact hh.got 10 _ 62 rfl rfl (hall 10 (by decide))
        obtain ⟨x63, hx63⟩ : ∃ x, A.eval (.tmp 63) = x := ⟨_, rfl⟩
        have f63 : (fun v _ => v = (Value.bool true)) x63 u8 := by rw [← hx63]; exact hh.got 11 _ 63 rfl rfl (hall 11 (by decide))
        obtain ⟨x64, hx64⟩ : ∃ x, A.eval (.tmp 64) = x := ⟨_, rfl⟩
        have f64 : (fun v _ => v = (Value.bool true)) x64 u8 := by rw [← hx64]; exact hh.got 12 _ 64 rfl rfl (hall 12 (by decide))
        obtain ⟨x65, hx65⟩ : ∃ x, A.eval (.tmp 65) = x := ⟨_, rfl⟩
        have f65 : (fun v _ => v = (Value.bool true)) x65 u8 := by rw [← hx65]; exact hh.got 13 _ 65 rfl rfl (hall 13 (by decide))
        obtain ⟨x66, hx66⟩ : ∃ x, A.eval (.tmp 66) = x := ⟨_, rfl⟩
        have f66 : (fun v _ => v = (Value.bool true)) x66 u8 := by rw [← hx66]; exact hh.got 14 _ 66 rfl rfl (hall 14 (by decide))
        obtain ⟨x67, hx67⟩ : ∃ x, A.eval (.tmp 67) = x := ⟨_, rfl⟩
        have f67 : (fun v _ => v = (Value.slice na nn nc)) x67 u8 := by rw [← hx67]; exact hh.got 15 _ 67 rfl rfl (hall 15 (by decide))
        obtain ⟨x68, hx68⟩ : ∃ x, A.eval (.tmp 68) = x := ⟨_, rfl⟩
        have f68 : (fun v _ => v = (Value.string (So ++ Sb))) x68 u8 := by rw [← hx68]; exact hh.got 16 _ 68 rfl rfl (hall 16 (by decide))
        obtain ⟨x69, hx69⟩ : ∃ x, A.eval (.tmp 69) = x := ⟨_, rfl⟩
        have f69 : (fun v _ => v = (Value.slice oa on' oc)) x69 u8 := by rw [← hx69]; exact hh.got 17 _ 69 rfl rfl (hall 17 (by decide))
        obtain ⟨x70, hx70⟩ : ∃ x, A.eval (.tmp 70) = x := ⟨_, rfl⟩
        have f70 : (fun v _ => v = (Value.string So)) x70 u8 := by rw [← hx70]; exact hh.got 18 _ 70 rfl rfl (hall 18 (by decide))
        obtain ⟨x71, hx71⟩ : ∃ x, A.eval (.tmp 71) = x := ⟨_, rfl⟩
        have f71 : (fun v _ => v = (Value.pointer (some ⟨p8, 4, none⟩))) x71 u8 := by rw [← hx71]; exact hh.got 19 _ 71 rfl rfl (hall 19 (by decide))
        obtain ⟨x72, hx72⟩ : ∃ x, A.eval (.tmp 72) = x := ⟨_, rfl⟩
        have f72 : (fun v _ => v = (Value.slice ba bn bc)) x72 u8 := by rw [← hx72]; exact hh.got 20 _ 72 rfl rfl (hall 20 (by decide))
        obtain ⟨x73, hx73⟩ : ∃ x, A.eval (.tmp 73) = x := ⟨_, rfl⟩
        have f73 : (fun v _ => v = (Value.int .i64 (zz : Nat))) x73 u8 := by rw [← hx73]; exact hh.got 21 _ 73 rfl rfl (hall 21 (by decide))
        obtain ⟨x74, hx74⟩ : ∃ x, A.eval (.tmp 74) = x := ⟨_, rfl⟩
        have f74 : (fun v _ => v = (Value.slice ba zz bc)) x74 u8 := by rw [← hx74]; exact hh.got 22 _ 74 rfl rfl (hall 22 (by decide))
        obtain ⟨x75, hx75⟩ : ∃ x, A.eval (.tmp 75) = x := ⟨_, rfl⟩
        have f75 : (fun v _ => v = (Value.string Sb)) x75 u8 := by rw [← hx75]; exact hh.got 23 _ 75 rfl rfl (hall 23 (by decide))
        obtain ⟨x76, hx76⟩ : ∃ x, A.eval (.tmp 76) = x := ⟨_, rfl⟩
        have f76 : (fun v _ => v = (Value.string (So ++ Sb))) x76 u8 := by rw [← hx76]; exact hh.got 24 _ 76 rfl rfl (hall 24 (by decide))
        obtain ⟨x77, hx77⟩ : ∃ x, A.eval (.tmp 77) = x := ⟨_, rfl⟩
        have f77 : (fun v _ => v = (Value.bool true)) x77 u8 := by rw [← hx77]; exact hh.got 25 _ 77 rfl rfl (hall 25 (by decide))
        obtain ⟨x78, hx78⟩ : ∃ x, A.eval (.tmp 78) = x := ⟨_, rfl⟩
        have f78 : (fun v _ => v = (Value.bool true)) x78 u8 := by rw [← hx78]; exact hh.got 26 _ 78 rfl rfl (hall 26 (by decide))
        obtain ⟨x10, hx10⟩ : ∃ x, A.eval (.tmp 10) = x := ⟨_, rfl⟩
        have f10 : (fun v _ => v = (Value.bool true)) x10 u8 := by rw [← hx10]; exact hh.got 27 _ 10 rfl rfl (hall 27 (by decide))
        dsimp only [wrote, List.foldl] at hA
        rw [hx52, hx53, hx54, hx55, hx56, hx57, hx58, hx59, hx60, hx61, hx62, hx63, hx64, hx65, hx66, hx67, hx68, hx69, hx70, hx71, hx72, hx73, hx74, hx75, hx76, hx77, hx78, hx10] at hA
        clear hh hall hx52 hx53 hx54 hx55 hx56 hx57 hx58 hx59 hx60 hx61 hx62 hx63 hx64 hx65 hx66 hx67 hx68 hx69 hx70 hx71 hx72 hx73 hx74 hx75 hx76 hx77 hx78 hx10
        replace f52 := (f52 : x52 = (.slice a0 n0 c0))
        subst f52
        replace f53 := (f53 : x53 = (.slice a2 n2 c2))
        subst f53
        replace f54 := (f54 : x54 = (.pointer (some ⟨p8, 2, none⟩)))
        subst f54
        replace f55 := (f55 : x55 = (.string nm))
        subst f55
        have e56 := (f56 : _ = Value.bool true)
        subst e56
        have e57 := (f57 : _ = Value.bool true)
        subst e57
        replace f58 := (f58 : x58 = (.bool true))
        subst f58
        replace f59 := (f59 : x59 = (.bool true))
        subst f59
        replace f60 := (f60 : x60 = (.bool true))
        subst f60
        replace f61 := (f61 : x61 = undef)
        subst f61
        replace f62 := (f62 : x62 = undef)
        subst f62
        replace f63 := (f63 : x63 = (.bool true))
        subst f63
        replace f64 := (f64 : x64 = (.bool true))
        subst f64
        replace f65 := (f65 : x65 = (.bool true))
        subst f65
        replace f66 := (f66 : x66 = (.bool true))
        subst f66
        replace f67 := (f67 : x67 = (.slice na nn nc))
        subst f67
        replace f68 := (f68 : x68 = (.string (So ++ Sb)))
        subst f68
        replace f69 := (f69 : x69 = (.slice oa on' oc))
        subst f69
        replace f70 := (f70 : x70 = (.string So))
        subst f70
        replace f71 := (f71 : x71 = (.pointer (some ⟨p8, 4, none⟩)))
        subst f71
        replace f72 := (f72 : x72 = (.slice ba bn bc))
        subst f72
        replace f73 := (f73 : x73 = (.int .i64 (zz : Nat)))
        subst f73
        replace f74 := (f74 : x74 = (.slice ba zz bc))
        subst f74
        replace f75 := (f75 : x75 = (.string Sb))
        subst f75
        replace f76 := (f76 : x76 = (.string (So ++ Sb)))
        subst f76
        replace f77 := (f77 : x77 = (.bool true))
        subst f77
        replace f78 := (f78 : x78 = (.bool true))
        subst f78
        replace f10 := (f10 : x10 = (.bool true))
        subst f10
        subst hA
        show wpList _ _ _ [] _ _
        unfold wpList
        simp only [Act.put, List.setIfInBounds_toArray, List.set_cons_succ, List.set_cons_zero]
        go_wp2_with fail
        go_ret
        exact ⟨rfl, gtrans HG1.out HU.out⟩
    | false =>
      rw [show (false || decide (0 < ((zz : Nat) : Int))) = true from by simp; omega]
      as_aux_lemma =>
      have HKp : Hid (∀ (x y : Operand) (u : World), (do eqGuard .gtr 3 x y (.int .i64 (zz : Nat)) (.int .i64 0); binOp .gtr 3 (.int .i64 (zz : Nat)) (.int .i64 0) : Sem Value).run Try.prog u = .ok (.bool true) u) := hid (fun x y u => by have e : (0 : Int) < (zz : Int) := (by omega); go_simp; omega)
      go_upto_region 12 with fail
      refine wp_region_listX (by kernel_rfl) [fun v _ => v = (Value.slice a0 n0 c0), fun v _ => v = (Value.slice a2 n2 c2), fun v _ => v = (Value.pointer (some ⟨p8, 2, none⟩)), fun v _ => v = (Value.string nm), fun v _ => v = Value.bool true, fun v _ => v = Value.bool true, fun v _ => v = (Value.bool true), fun v _ => v = (Value.bool false), fun v _ => v = (Value.bool false), fun v _ => v = (Value.int .i64 (zz : Nat)), fun v _ => v = (Value.bool true), fun v _ => v = (Value.bool true), fun v _ => v = (Value.bool true), fun v _ => v = (Value.bool true), fun v _ => v = (Value.bool true), fun v _ => v = (Value.slice na nn nc), fun v _ => v = (Value.string (So ++ Sb)), fun v _ => v = (Value.slice oa on' oc), fun v _ => v = (Value.string So), fun v _ => v = (Value.pointer (some ⟨p8, 4, none⟩)), fun v _ => v = (Value.slice ba bn bc), fun v _ => v = (Value.int .i64 (zz : Nat)), fun v _ => v = (Value.slice ba zz bc), fun v _ => v = (Value.string Sb), fun v _ => v = (Value.string (So ++ Sb)), fun v _ => v = (Value.bool true), fun v _ => v = (Value.bool true), fun v _ => v = (Value.bool true)] (none) (fun _ => none) 28 (by kernel_rfl) (by kernel_rfl) (by kernel_rfl) (by kernel_rfl) (by decide) noRow_one (fun _ => .inl rfl) ⟨fun i v u u' hki h hg => h, fun i v u u' hki h hg => h, fun i v u u' hki h hg => h, fun i v u u' hki h hg => h, fun i v u u' hki h hg => h, fun i v u u' hki h hg => h, fun i v u u' hki h hg => h, fun i v u u' hki h hg => h, fun i v u u' hki h hg => h, fun i v u u' hki h hg => h, fun i v u u' hki h hg => h, fun i v u u' hki h hg => h, fun i v u u' hki h hg => h, fun i v u u' hki h hg => h, fun i v u u' hki h hg => h, fun i v u u' hki h hg => h, fun i v u u' hki h hg => h, fun i v u u' hki h hg => h, fun i v u u' hki h hg => h, fun i v u u' hki h hg => h, fun i v u u' hki h hg => h, fun i v u u' hki h hg => h, fun i v u u' hki h hg => h, fun i v u u' hki h hg => h, fun i v u u' hki h hg => h, fun i v u u' hki h hg => h, fun i v u u' hki h hg => h, fun i v u u' hki h hg => h, trivial⟩ ⟨?_, ?_, ?_, ?_, ?_, ?_, ?_, ?_, ?_, ?_, ?_, ?_, ?_, ?_, ?_, ?_, ?_, ?_, ?_, ?_, ?_, ?_, ?_, ?_, ?_, ?_, ?_, ?_, trivial⟩ ?_
      · intro A u hu hpu hsz hout hdeps
        have e0 : A.eval (.tmp 0) = (.slice a0 n0 c0) := (hout 0 (by kernel_rfl)).trans rfl
        refine ifw_none rfl ?_
        with_reducible refine shown_q (Value.slice a0 n0 c0) ?qq_6_0 (fun _ _ => ?qr_6_0)
        case qr_6_0 => exact (rfl : (Value.slice a0 n0 c0) = (Value.slice a0 n0 c0))
        with_reducible refine quietAt_mv (.tmp 0) (Value.slice a0 n0 c0) ?h0_6_0 ?h1_6_0
        case h0_6_0 => rfl
        case h1_6_0 => exact e0
      · intro A u hu hpu hsz hout hdeps
        have e2 : A.eval (.tmp 2) = (.slice a2 n2 c2) := (hout 2 (by kernel_rfl)).trans rfl
        refine ifw_none rfl ?_
        with_reducible refine shown_q (Value.slice a2 n2 c2) ?qq_6_1 (fun _ _ => ?qr_6_1)
        case qr_6_1 => exact (rfl : (Value.slice a2 n2 c2) = (Value.slice a2 n2 c2))
        with_reducible refine quietAt_mv (.tmp 2) (Value.slice a2 n2 c2) ?h0_6_1 ?h1_6_1
        case h0_6_1 => rfl
        case h1_6_1 => exact e2
      · intro A u hu hpu hsz hout hdeps
        have e8 : A.eval (.tmp 8) = (.pointer (some ⟨p8, 0, none⟩)) := (hout 8 (by kernel_rfl)).trans rfl
        refine ifw_none rfl ?_
        with_reducible refine shown_q (Value.pointer (some ⟨p8, 2, none⟩)) ?qq_6_2 (fun _ _ => ?qr_6_2)
        case qr_6_2 => exact (rfl : (Value.pointer (some ⟨p8, 2, none⟩)) = (Value.pointer (some ⟨p8, 2, none⟩)))
        with_reducible refine quietAt_field 36 (.tmp 8) 2 ?h0_6_2 ⟨p8, 0, none⟩ ⟨p8, 2, none⟩ ?h1_6_2 ?h2_6_2
        case h0_6_2 => rfl
        case h1_6_2 => exact e8
        case h2_6_2 => kernel_rfl
      · intro A u hu hpu hsz hout hdeps
        have e54 : A.eval (.tmp 54) = (.pointer (some ⟨p8, 2, none⟩)) := by have h := depL hdeps 2 (by kernel_rfl) 54 (by kernel_rfl); exact h
        refine ifw_none rfl ?_
        with_reducible refine shown_q (Value.string nm) ?qq_6_3 (fun _ _ => ?qr_6_3)
        case qr_6_3 => exact (rfl : (Value.string nm) = (Value.string nm))
        with_reducible refine quietAt_ld 9 (.tmp 54) (Value.pointer (some ⟨p8, 2, none⟩)) (Value.string nm) ?h0_6_3 ?h1_6_3 ?h2_6_3
        case h0_6_3 => rfl
        case h1_6_3 => exact e54
        case h2_6_3 => exact ld9 p8 2 nm u ((HB1.out.keep hu).cell 2)
      · intro A u hu hpu hsz hout hdeps
        have e52 : A.eval (.tmp 52) = (.slice a0 n0 c0) := by have h := depL hdeps 0 (by kernel_rfl) 52 (by kernel_rfl); exact h
        have e53 : A.eval (.tmp 53) = (.slice a2 n2 c2) := by have h := depL hdeps 1 (by kernel_rfl) 53 (by kernel_rfl); exact h
        have e55 : A.eval (.tmp 55) = (.string nm) := by have h := depL hdeps 3 (by kernel_rfl) 55 (by kernel_rfl); exact h
        refine ifw_none rfl ?_
        with_reducible refine shown_call 21 Try.f21 ?h0_6_4 ?h1_6_4 ?h2_6_4 #[.tmp 52, .tmp 53, .tmp 55] #[34, 34, 9] ?h3_6_4 #[(Value.slice a0 n0 c0), (Value.slice a2 n2 c2), (Value.string nm)] ?h4_6_4 ?h5_6_4
        case h0_6_4 => exact Try.func21
        case h1_6_4 => kernel_rfl
        case h2_6_4 => kernel_rfl
        case h3_6_4 => rfl
        case h4_6_4 => exact map3 _ _ _ _ _ _ _ e52 e53 e55
        case h5_6_4 => exact HOt.out u hu
      · intro A u hu hpu hsz hout hdeps
        have f56 : (fun v _ => v = Value.bool true) (A.eval (.tmp 56)) u := by have h := depL hdeps 4 (by kernel_rfl) 56 (by kernel_rfl); exact h
        have e56 := (f56 : _ = Value.bool true)
        refine ifw_none rfl ?_
        exact shown_q _ (quietAt_mv (.tmp 56) _ rfl e56) (fun u' hg => rfl)
      · intro A u hu hpu hsz hout hdeps
        have f57 : (fun v _ => v = Value.bool true) (A.eval (.tmp 57)) u := by have h := depL hdeps 5 (by kernel_rfl) 57 (by kernel_rfl); exact h
        have e57 := (f57 : _ = Value.bool true)
        have e14 : A.eval (.tmp 14) = (.bool true) := (hout 14 (by kernel_rfl)).trans rfl
        refine ifw_want 5 true 57 rfl rfl e57 ?_
        with_reducible refine shown_q (Value.bool true) ?qq_6_6 (fun _ _ => ?qr_6_6)
        case qr_6_6 => exact (rfl : (Value.bool true) = (Value.bool true))
        with_reducible refine quietAt_mv (.tmp 14) (Value.bool true) ?h0_6_6 ?h1_6_6
        case h0_6_6 => rfl
        case h1_6_6 => exact e14
      · intro A u hu hpu hsz hout hdeps
        have f57 : (fun v _ => v = Value.bool true) (A.eval (.tmp 57)) u := by have h := depL hdeps 5 (by kernel_rfl) 57 (by kernel_rfl); exact h
        have e57 := (f57 : _ = Value.bool true)
        have e12 : A.eval (.tmp 12) = (.bool false) := (hout 12 (by kernel_rfl)).trans rfl
        refine ifw_want 5 true 57 rfl rfl e57 ?_
        with_reducible refine shown_q (Value.bool false) ?qq_6_7 (fun _ _ => ?qr_6_7)
        case qr_6_7 => exact (rfl : (Value.bool false) = (Value.bool false))
        with_reducible refine quietAt_mv (.tmp 12) (Value.bool false) ?h0_6_7 ?h1_6_7
        case h0_6_7 => rfl
        case h1_6_7 => exact e12
      · intro A u hu hpu hsz hout hdeps
        have f57 : (fun v _ => v = Value.bool true) (A.eval (.tmp 57)) u := by have h := depL hdeps 5 (by kernel_rfl) 57 (by kernel_rfl); exact h
        have e57 := (f57 : _ = Value.bool true)
        have e59 : A.eval (.tmp 59) = (.bool false) := by have h := depL hdeps 7 (by kernel_rfl) 59 (by kernel_rfl); exact h
        refine ifw_want 5 true 57 rfl rfl e57 ?_
        with_reducible refine shown_q (Value.bool false) ?qq_6_8 (fun _ _ => ?qr_6_8)
        case qr_6_8 => exact (rfl : (Value.bool false) = (Value.bool false))
        with_reducible refine quietAt_mv (.tmp 59) (Value.bool false) ?h0_6_8 ?h1_6_8
        case h0_6_8 => rfl
        case h1_6_8 => exact e59
      · intro A u hu hpu hsz hout hdeps
        have e60 : A.eval (.tmp 60) = (.bool false) := by have h := depL hdeps 8 (by kernel_rfl) 60 (by kernel_rfl); exact h
        have e4 : A.eval (.tmp 4) = (.int .i64 (zz : Nat)) := (hout 4 (by kernel_rfl)).trans rfl
        refine ifw_want 8 false 60 rfl rfl e60 ?_
        with_reducible refine shown_q (Value.int .i64 (zz : Nat)) ?qq_6_9 (fun _ _ => ?qr_6_9)
        case qr_6_9 => exact (rfl : (Value.int .i64 (zz : Nat)) = (Value.int .i64 (zz : Nat)))
        with_reducible refine quietAt_mv (.tmp 4) (Value.int .i64 (zz : Nat)) ?h0_6_9 ?h1_6_9
        case h0_6_9 => rfl
        case h1_6_9 => exact e4
      · intro A u hu hpu hsz hout hdeps
        have e60 : A.eval (.tmp 60) = (.bool false) := by have h := depL hdeps 8 (by kernel_rfl) 60 (by kernel_rfl); exact h
        have e61 : A.eval (.tmp 61) = (.int .i64 (zz : Nat)) := by have h := depL hdeps 9 (by kernel_rfl) 61 (by kernel_rfl); exact h
        refine ifw_want 8 false 60 rfl rfl e60 ?_
        with_reducible refine shown_q (Value.bool true) ?qq_6_10 (fun _ _ => ?qr_6_10)
        case qr_6_10 => exact (rfl : (Value.bool true) = (Value.bool true))
        with_reducible refine quietAt_bin .gtr 3 (.tmp 61) (.const (.int .i64 0)) 3 (Value.int .i64 (zz : Nat)) (Value.int .i64 0) (Value.bool true) ?h0_6_10 ?h1_6_10 ?h2_6_10 ?h3_6_10
        case h0_6_10 => rfl
        case h1_6_10 => exact e61
        case h2_6_10 => exact rfl
        case h3_6_10 => exact HKp.out _ _ u
      · intro A u hu hpu hsz hout hdeps
        have f57 : (fun v _ => v = Value.bool true) (A.eval (.tmp 57)) u := by have h := depL hdeps 5 (by kernel_rfl) 57 (by kernel_rfl); exact h
        have e57 := (f57 : _ = Value.bool true)
        have e60 : A.eval (.tmp 60) = (.bool false) := by have h := depL hdeps 8 (by kernel_rfl) 60 (by kernel_rfl); exact h
        have e62 : A.eval (.tmp 62) = (.bool true) := by have h := depL hdeps 10 (by kernel_rfl) 62 (by kernel_rfl); exact h
        refine ifw_want 5 true 57 rfl rfl e57 ?_
        with_reducible refine shown_q (Value.bool true) ?qq_6_11 (fun _ _ => ?qr_6_11)
        case qr_6_11 => exact (rfl : (Value.bool true) = (Value.bool true))
        with_reducible refine quietAt_pick (.tmp 60) (.const (.bool true)) (.tmp 62) false (Value.bool true) ?h0_6_11 ?h1_6_11 ?h2_6_11
        case h0_6_11 => rfl
        case h1_6_11 => exact e60
        case h2_6_11 => rw [if_neg (by decide)]; exact e62
      · intro A u hu hpu hsz hout hdeps
        have f57 : (fun v _ => v = Value.bool true) (A.eval (.tmp 57)) u := by have h := depL hdeps 5 (by kernel_rfl) 57 (by kernel_rfl); exact h
        have e57 := (f57 : _ = Value.bool true)
        have e58 : A.eval (.tmp 58) = (.bool true) := by have h := depL hdeps 6 (by kernel_rfl) 58 (by kernel_rfl); exact h
        have e63 : A.eval (.tmp 63) = (.bool true) := by have h := depL hdeps 11 (by kernel_rfl) 63 (by kernel_rfl); exact h
        refine ifw_want 5 true 57 rfl rfl e57 ?_
        with_reducible refine shown_q (Value.bool true) ?qq_6_12 (fun _ _ => ?qr_6_12)
        case qr_6_12 => exact (rfl : (Value.bool true) = (Value.bool true))
        with_reducible refine quietAt_bin .eql 4 (.tmp 58) (.tmp 63) 4 (Value.bool true) (Value.bool true) (Value.bool true) ?h0_6_12 ?h1_6_12 ?h2_6_12 ?h3_6_12
        case h0_6_12 => rfl
        case h1_6_12 => exact e58
        case h2_6_12 => exact e63
        case h3_6_12 => exact rfl
      · intro A u hu hpu hsz hout hdeps
        have f57 : (fun v _ => v = Value.bool true) (A.eval (.tmp 57)) u := by have h := depL hdeps 5 (by kernel_rfl) 57 (by kernel_rfl); exact h
        have e57 := (f57 : _ = Value.bool true)
        have e64 : A.eval (.tmp 64) = (.bool true) := by have h := depL hdeps 12 (by kernel_rfl) 64 (by kernel_rfl); exact h
        refine ifw_none rfl ?_
        with_reducible refine shown_q (Value.bool true) ?qq_6_13 (fun _ _ => ?qr_6_13)
        case qr_6_13 => exact (rfl : (Value.bool true) = (Value.bool true))
        with_reducible refine quietAt_pick (.tmp 57) (.tmp 64) (.const (.bool false)) true (Value.bool true) ?h0_6_13 ?h1_6_13 ?h2_6_13
        case h0_6_13 => rfl
        case h1_6_13 => exact e57
        case h2_6_13 => rw [if_pos rfl]; exact e64
      · intro A u hu hpu hsz hout hdeps
        have e65 : A.eval (.tmp 65) = (.bool true) := by have h := depL hdeps 13 (by kernel_rfl) 65 (by kernel_rfl); exact h
        refine ifw_none rfl ?_
        with_reducible refine shown_q (Value.bool true) ?qq_6_14 (fun _ _ => ?qr_6_14)
        case qr_6_14 => exact (rfl : (Value.bool true) = (Value.bool true))
        with_reducible refine quietAt_mv (.tmp 65) (Value.bool true) ?h0_6_14 ?h1_6_14
        case h0_6_14 => rfl
        case h1_6_14 => exact e65
      · intro A u hu hpu hsz hout hdeps
        have e66 : A.eval (.tmp 66) = (.bool true) := by have h := depL hdeps 14 (by kernel_rfl) 66 (by kernel_rfl); exact h
        have e13 : A.eval (.tmp 13) = (.slice na nn nc) := (hout 13 (by kernel_rfl)).trans rfl
        refine ifw_want 14 true 66 rfl rfl e66 ?_
        with_reducible refine shown_q (Value.slice na nn nc) ?qq_6_15 (fun _ _ => ?qr_6_15)
        case qr_6_15 => exact (rfl : (Value.slice na nn nc) = (Value.slice na nn nc))
        with_reducible refine quietAt_mv (.tmp 13) (Value.slice na nn nc) ?h0_6_15 ?h1_6_15
        case h0_6_15 => rfl
        case h1_6_15 => exact e13
      · intro A u hu hpu hsz hout hdeps
        have e66 : A.eval (.tmp 66) = (.bool true) := by have h := depL hdeps 14 (by kernel_rfl) 66 (by kernel_rfl); exact h
        have e67 : A.eval (.tmp 67) = (.slice na nn nc) := by have h := depL hdeps 15 (by kernel_rfl) 67 (by kernel_rfl); exact h
        refine ifw_want 14 true 66 rfl rfl e66 ?_
        with_reducible refine shown_q (Value.string (So ++ Sb)) ?qq_6_16 (fun _ _ => ?qr_6_16)
        case qr_6_16 => exact (rfl : (Value.string (So ++ Sb)) = (Value.string (So ++ Sb)))
        with_reducible refine quietAt_cv 33 9 (.tmp 67) (Value.slice na nn nc) (Value.string (So ++ Sb)) ?h0_6_16 ?h1_6_16 ?h2_6_16
        case h0_6_16 => rfl
        case h1_6_16 => exact e67
        case h2_6_16 => exact (HCn.out u hu)
      · intro A u hu hpu hsz hout hdeps
        have e66 : A.eval (.tmp 66) = (.bool true) := by have h := depL hdeps 14 (by kernel_rfl) 66 (by kernel_rfl); exact h
        have e11 : A.eval (.tmp 11) = (.slice oa on' oc) := (hout 11 (by kernel_rfl)).trans rfl
        refine ifw_want 14 true 66 rfl rfl e66 ?_
        with_reducible refine shown_q (Value.slice oa on' oc) ?qq_6_17 (fun _ _ => ?qr_6_17)
        case qr_6_17 => exact (rfl : (Value.slice oa on' oc) = (Value.slice oa on' oc))
        with_reducible refine quietAt_mv (.tmp 11) (Value.slice oa on' oc) ?h0_6_17 ?h1_6_17
        case h0_6_17 => rfl
        case h1_6_17 => exact e11
      · intro A u hu hpu hsz hout hdeps
        have e66 : A.eval (.tmp 66) = (.bool true) := by have h := depL hdeps 14 (by kernel_rfl) 66 (by kernel_rfl); exact h
        have e69 : A.eval (.tmp 69) = (.slice oa on' oc) := by have h := depL hdeps 17 (by kernel_rfl) 69 (by kernel_rfl); exact h
        refine ifw_want 14 true 66 rfl rfl e66 ?_
        with_reducible refine shown_q (Value.string So) ?qq_6_18 (fun _ _ => ?qr_6_18)
        case qr_6_18 => exact (rfl : (Value.string So) = (Value.string So))
        with_reducible refine quietAt_cv 33 9 (.tmp 69) (Value.slice oa on' oc) (Value.string So) ?h0_6_18 ?h1_6_18 ?h2_6_18
        case h0_6_18 => rfl
        case h1_6_18 => exact e69
        case h2_6_18 => exact (HCo.out u hu)
      · intro A u hu hpu hsz hout hdeps
        have e66 : A.eval (.tmp 66) = (.bool true) := by have h := depL hdeps 14 (by kernel_rfl) 66 (by kernel_rfl); exact h
        have e8 : A.eval (.tmp 8) = (.pointer (some ⟨p8, 0, none⟩)) := (hout 8 (by kernel_rfl)).trans rfl
        refine ifw_want 14 true 66 rfl rfl e66 ?_
        with_reducible refine shown_q (Value.pointer (some ⟨p8, 4, none⟩)) ?qq_6_19 (fun _ _ => ?qr_6_19)
        case qr_6_19 => exact (rfl : (Value.pointer (some ⟨p8, 4, none⟩)) = (Value.pointer (some ⟨p8, 4, none⟩)))
        with_reducible refine quietAt_field 36 (.tmp 8) 4 ?h0_6_19 ⟨p8, 0, none⟩ ⟨p8, 4, none⟩ ?h1_6_19 ?h2_6_19
        case h0_6_19 => rfl
        case h1_6_19 => exact e8
        case h2_6_19 => kernel_rfl
      · intro A u hu hpu hsz hout hdeps
        have e66 : A.eval (.tmp 66) = (.bool true) := by have h := depL hdeps 14 (by kernel_rfl) 66 (by kernel_rfl); exact h
        have e71 : A.eval (.tmp 71) = (.pointer (some ⟨p8, 4, none⟩)) := by have h := depL hdeps 19 (by kernel_rfl) 71 (by kernel_rfl); exact h
        refine ifw_want 14 true 66 rfl rfl e66 ?_
        with_reducible refine shown_q (Value.slice ba bn bc) ?qq_6_20 (fun _ _ => ?qr_6_20)
        case qr_6_20 => exact (rfl : (Value.slice ba bn bc) = (Value.slice ba bn bc))
        with_reducible refine quietAt_ld 33 (.tmp 71) (Value.pointer (some ⟨p8, 4, none⟩)) (Value.slice ba bn bc) ?h0_6_20 ?h1_6_20 ?h2_6_20
        case h0_6_20 => rfl
        case h1_6_20 => exact e71
        case h2_6_20 => exact ld33 p8 4 bn bc ba u ((HB1.out.keep hu).cell 4)
      · intro A u hu hpu hsz hout hdeps
        have e66 : A.eval (.tmp 66) = (.bool true) := by have h := depL hdeps 14 (by kernel_rfl) 66 (by kernel_rfl); exact h
        have e15 : A.eval (.tmp 15) = (.int .i64 (zz : Nat)) := (hout 15 (by kernel_rfl)).trans rfl
        refine ifw_want 14 true 66 rfl rfl e66 ?_
        with_reducible refine shown_q (Value.int .i64 (zz : Nat)) ?qq_6_21 (fun _ _ => ?qr_6_21)
        case qr_6_21 => exact (rfl : (Value.int .i64 (zz : Nat)) = (Value.int .i64 (zz : Nat)))
        with_reducible refine quietAt_mv (.tmp 15) (Value.int .i64 (zz : Nat)) ?h0_6_21 ?h1_6_21
        case h0_6_21 => rfl
        case h1_6_21 => exact e15
      · intro A u hu hpu hsz hout hdeps
        have e66 : A.eval (.tmp 66) = (.bool true) := by have h := depL hdeps 14 (by kernel_rfl) 66 (by kernel_rfl); exact h
        have e72 : A.eval (.tmp 72) = (.slice ba bn bc) := by have h := depL hdeps 20 (by kernel_rfl) 72 (by kernel_rfl); exact h
        have e73 : A.eval (.tmp 73) = (.int .i64 (zz : Nat)) := by have h := depL hdeps 21 (by kernel_rfl) 73 (by kernel_rfl); exact h
        refine ifw_want 14 true 66 rfl rfl e66 ?_
        with_reducible refine shown_q (Value.slice ba zz bc) ?qq_6_22 (fun _ _ => ?qr_6_22)
        case qr_6_22 => exact (rfl : (Value.slice ba zz bc) = (Value.slice ba zz bc))
        with_reducible refine quietAt_sliceh 33 (.tmp 72) (.tmp 73) (Value.slice ba bn bc) (Value.int .i64 (zz : Nat)) (Value.slice ba zz bc) ?h0_6_22 ?h1_6_22 ?h2_6_22 ?h3_6_22
        case h0_6_22 => rfl
        case h1_6_22 => exact e72
        case h2_6_22 => exact e73
        case h3_6_22 => exact HSl.out u
      · intro A u hu hpu hsz hout hdeps
        have e66 : A.eval (.tmp 66) = (.bool true) := by have h := depL hdeps 14 (by kernel_rfl) 66 (by kernel_rfl); exact h
        have e74 : A.eval (.tmp 74) = (.slice ba zz bc) := by have h := depL hdeps 22 (by kernel_rfl) 74 (by kernel_rfl); exact h
        refine ifw_want 14 true 66 rfl rfl e66 ?_
        with_reducible refine shown_q (Value.string Sb) ?qq_6_23 (fun _ _ => ?qr_6_23)
        case qr_6_23 => exact (rfl : (Value.string Sb) = (Value.string Sb))
        with_reducible refine quietAt_cv 33 9 (.tmp 74) (Value.slice ba zz bc) (Value.string Sb) ?h0_6_23 ?h1_6_23 ?h2_6_23
        case h0_6_23 => rfl
        case h1_6_23 => exact e74
        case h2_6_23 => exact (HCb.out u hu)
      · intro A u hu hpu hsz hout hdeps
        have e66 : A.eval (.tmp 66) = (.bool true) := by have h := depL hdeps 14 (by kernel_rfl) 66 (by kernel_rfl); exact h
        have e70 : A.eval (.tmp 70) = (.string So) := by have h := depL hdeps 18 (by kernel_rfl) 70 (by kernel_rfl); exact h
        have e75 : A.eval (.tmp 75) = (.string Sb) := by have h := depL hdeps 23 (by kernel_rfl) 75 (by kernel_rfl); exact h
        refine ifw_want 14 true 66 rfl rfl e66 ?_
        with_reducible refine shown_q (Value.string (So ++ Sb)) ?qq_6_24 (fun _ _ => ?qr_6_24)
        case qr_6_24 => exact (rfl : (Value.string (So ++ Sb)) = (Value.string (So ++ Sb)))
        with_reducible refine quietAt_bin .add 9 (.tmp 70) (.tmp 75) 9 (Value.string So) (Value.string Sb) (Value.string (So ++ Sb)) ?h0_6_24 ?h1_6_24 ?h2_6_24 ?h3_6_24
        case h0_6_24 => rfl
        case h1_6_24 => exact e70
        case h2_6_24 => exact e75
        case h3_6_24 => exact HAd.out _ _ u
      · intro A u hu hpu hsz hout hdeps
        have e66 : A.eval (.tmp 66) = (.bool true) := by have h := depL hdeps 14 (by kernel_rfl) 66 (by kernel_rfl); exact h
        have e68 : A.eval (.tmp 68) = (.string (So ++ Sb)) := by have h := depL hdeps 16 (by kernel_rfl) 68 (by kernel_rfl); exact h
        have e76 : A.eval (.tmp 76) = (.string (So ++ Sb)) := by have h := depL hdeps 24 (by kernel_rfl) 76 (by kernel_rfl); exact h
        refine ifw_want 14 true 66 rfl rfl e66 ?_
        with_reducible refine shown_q (Value.bool true) ?qq_6_25 (fun _ _ => ?qr_6_25)
        case qr_6_25 => exact (rfl : (Value.bool true) = (Value.bool true))
        with_reducible refine quietAt_bin .eql 9 (.tmp 68) (.tmp 76) 9 (Value.string (So ++ Sb)) (Value.string (So ++ Sb)) (Value.bool true) ?h0_6_25 ?h1_6_25 ?h2_6_25 ?h3_6_25
        case h0_6_25 => rfl
        case h1_6_25 => exact e68
        case h2_6_25 => exact e76
        case h3_6_25 => exact HEq.out _ _ u
      · intro A u hu hpu hsz hout hdeps
        have e66 : A.eval (.tmp 66) = (.bool true) := by have h := depL hdeps 14 (by kernel_rfl) 66 (by kernel_rfl); exact h
        have e77 : A.eval (.tmp 77) = (.bool true) := by have h := depL hdeps 25 (by kernel_rfl) 77 (by kernel_rfl); exact h
        refine ifw_none rfl ?_
        with_reducible refine shown_q (Value.bool true) ?qq_6_26 (fun _ _ => ?qr_6_26)
        case qr_6_26 => exact (rfl : (Value.bool true) = (Value.bool true))
        with_reducible refine quietAt_pick (.tmp 66) (.tmp 77) (.const (.bool false)) true (Value.bool true) ?h0_6_26 ?h1_6_26 ?h2_6_26
        case h0_6_26 => rfl
        case h1_6_26 => exact e66
        case h2_6_26 => rw [if_pos rfl]; exact e77
      · intro A u hu hpu hsz hout hdeps
        have e78 : A.eval (.tmp 78) = (.bool true) := by have h := depL hdeps 26 (by kernel_rfl) 78 (by kernel_rfl); exact h
        refine ifw_none rfl ?_
        with_reducible refine shown_q (Value.bool true) ?qq_6_27 (fun _ _ => ?qr_6_27)
        case qr_6_27 => exact (rfl : (Value.bool true) = (Value.bool true))
        with_reducible refine quietAt_as (.tmp 78) (Value.bool true) ?h0_6_27 ?h1_6_27
        case h0_6_27 => rfl
        case h1_6_27 => exact e78
      · intro A u8 listed hh hall
        have hA := hh.frame
        have HU := hid hh.grown
        obtain ⟨x52, hx52⟩ : ∃ x, A.eval (.tmp 52) = x := ⟨_, rfl⟩
        have f52 : (fun v _ => v = (Value.slice a0 n0 c0)) x52 u8 := by rw [← hx52]; exact hh.got 0 _ 52 rfl rfl (hall 0 (by decide))
        obtain ⟨x53, hx53⟩ : ∃ x, A.eval (.tmp 53) = x := ⟨_, rfl⟩
        have f53 : (fun v _ => v = (Value.slice a2 n2 c2)) x53 u8 := by rw [← hx53]; exact hh.got 1 _ 53 rfl rfl (hall 1 (by decide))
        obtain ⟨x54, hx54⟩ : ∃ x, A.eval (.tmp 54) = x := ⟨_, rfl⟩
        have f54 : (fun v _ => v = (Value.pointer (some ⟨p8, 2, none⟩))) x54 u8 := by rw [← hx54]; exact hh.got 2 _ 54 rfl rfl (hall 2 (by decide))
        obtain ⟨x55, hx55⟩ : ∃ x, A.eval (.tmp 55) = x := ⟨_, rfl⟩
        have f55 : (fun v _ => v = (Value.string nm)) x55 u8 := by rw [← hx55]; exact hh.got 3 _ 55 rfl rfl (hall 3 (by decide))
        obtain ⟨x56, hx56⟩ : ∃ x, A.eval (.tmp 56) = x := ⟨_, rfl⟩
        have f56 : (fun v _ => v = Value.bool true) x56 u8 := by rw [← hx56]; exact hh.got 4 _ 56 rfl rfl (hall 4 (by decide))
        obtain ⟨x57, hx57⟩ : ∃ x, A.eval (.tmp 57) = x := ⟨_, rfl⟩
        have f57 : (fun v _ => v = Value.bool true) x57 u8 := by rw [← hx57]; exact hh.got 5 _ 57 rfl rfl (hall 5 (by decide))
        obtain ⟨x58, hx58⟩ : ∃ x, A.eval (.tmp 58) = x := ⟨_, rfl⟩
        have f58 : (fun v _ => v = (Value.bool true)) x58 u8 := by rw [← hx58]; exact hh.got 6 _ 58 rfl rfl (hall 6 (by decide))
        obtain ⟨x59, hx59⟩ : ∃ x, A.eval (.tmp 59) = x := ⟨_, rfl⟩
        have f59 : (fun v _ => v = (Value.bool false)) x59 u8 := by rw [← hx59]; exact hh.got 7 _ 59 rfl rfl (hall 7 (by decide))
        obtain ⟨x60, hx60⟩ : ∃ x, A.eval (.tmp 60) = x := ⟨_, rfl⟩
        have f60 : (fun v _ => v = (Value.bool false)) x60 u8 := by rw [← hx60]; exact hh.got 8 _ 60 rfl rfl (hall 8 (by decide))
        obtain ⟨x61, hx61⟩ : ∃ x, A.eval (.tmp 61) = x := ⟨_, rfl⟩
        have f61 : (fun v _ => v = (Value.int .i64 (zz : Nat))) x61 u8 := by rw [← hx61]; exact hh.got 9 _ 61 rfl rfl (hall 9 (by decide))
        obtain ⟨x62, hx62⟩ : ∃ x, A.eval (.tmp 62) = x := ⟨_, rfl⟩
        have f62 : (fun v _ => v = (Value.bool true)) x62 u8 := by rw [← hx62]; exact hh.got 10 _ 62 rfl rfl (hall 10 (by decide))
        obtain ⟨x63, hx63⟩ : ∃ x, A.eval (.tmp 63) = x := ⟨_, rfl⟩
        have f63 : (fun v _ => v = (Value.bool true)) x63 u8 := by rw [← hx63]; exact hh.got 11 _ 63 rfl rfl (hall 11 (by decide))
        obtain ⟨x64, hx64⟩ : ∃ x, A.eval (.tmp 64) = x := ⟨_, rfl⟩
        have f64 : (fun v _ => v = (Value.bool true)) x64 u8 := by rw [← hx64]; exact hh.got 12 _ 64 rfl rfl (hall 12 (by decide))
        obtain ⟨x65, hx65⟩ : ∃ x, A.eval (.tmp 65) = x := ⟨_, rfl⟩
        have f65 : (fun v _ => v = (Value.bool true)) x65 u8 := by rw [← hx65]; exact hh.got 13 _ 65 rfl rfl (hall 13 (by decide))
        obtain ⟨x66, hx66⟩ : ∃ x, A.eval (.tmp 66) = x := ⟨_, rfl⟩
        have f66 : (fun v _ => v = (Value.bool true)) x66 u8 := by rw [← hx66]; exact hh.got 14 _ 66 rfl rfl (hall 14 (by decide))
        obtain ⟨x67, hx67⟩ : ∃ x, A.eval (.tmp 67) = x := ⟨_, rfl⟩
        have f67 : (fun v _ => v = (Value.slice na nn nc)) x67 u8 := by rw [← hx67]; exact hh.got 15 _ 67 rfl rfl (hall 15 (by decide))
        obtain ⟨x68, hx68⟩ : ∃ x, A.eval (.tmp 68) = x := ⟨_, rfl⟩
        have f68 : (fun v _ => v = (Value.string (So ++ Sb))) x68 u8 := by rw [← hx68]; exact hh.got 16 _ 68 rfl rfl (hall 16 (by decide))
        obtain ⟨x69, hx69⟩ : ∃ x, A.eval (.tmp 69) = x := ⟨_, rfl⟩
        have f69 : (fun v _ => v = (Value.slice oa on' oc)) x69 u8 := by rw [← hx69]; exact hh.got 17 _ 69 rfl rfl (hall 17 (by decide))
        obtain ⟨x70, hx70⟩ : ∃ x, A.eval (.tmp 70) = x := ⟨_, rfl⟩
        have f70 : (fun v _ => v = (Value.string So)) x70 u8 := by rw [← hx70]; exact hh.got 18 _ 70 rfl rfl (hall 18 (by decide))
        obtain ⟨x71, hx71⟩ : ∃ x, A.eval (.tmp 71) = x := ⟨_, rfl⟩
        have f71 : (fun v _ => v = (Value.pointer (some ⟨p8, 4, none⟩))) x71 u8 := by rw [← hx71]; exact hh.got 19 _ 71 rfl rfl (hall 19 (by decide))
        obtain ⟨x72, hx72⟩ : ∃ x, A.eval (.tmp 72) = x := ⟨_, rfl⟩
        have f72 : (fun v _ => v = (Value.slice ba bn bc)) x72 u8 := by rw [← hx72]; exact hh.got 20 _ 72 rfl rfl (hall 20 (by decide))
        obtain ⟨x73, hx73⟩ : ∃ x, A.eval (.tmp 73) = x := ⟨_, rfl⟩
        have f73 : (fun v _ => v = (Value.int .i64 (zz : Nat))) x73 u8 := by rw [← hx73]; exact hh.got 21 _ 73 rfl rfl (hall 21 (by decide))
        obtain ⟨x74, hx74⟩ : ∃ x, A.eval (.tmp 74) = x := ⟨_, rfl⟩
        have f74 : (fun v _ => v = (Value.slice ba zz bc)) x74 u8 := by rw [← hx74]; exact hh.got 22 _ 74 rfl rfl (hall 22 (by decide))
        obtain ⟨x75, hx75⟩ : ∃ x, A.eval (.tmp 75) = x := ⟨_, rfl⟩
        have f75 : (fun v _ => v = (Value.string Sb)) x75 u8 := by rw [← hx75]; exact hh.got 23 _ 75 rfl rfl (hall 23 (by decide))
        obtain ⟨x76, hx76⟩ : ∃ x, A.eval (.tmp 76) = x := ⟨_, rfl⟩
        have f76 : (fun v _ => v = (Value.string (So ++ Sb))) x76 u8 := by rw [← hx76]; exact hh.got 24 _ 76 rfl rfl (hall 24 (by decide))
        obtain ⟨x77, hx77⟩ : ∃ x, A.eval (.tmp 77) = x := ⟨_, rfl⟩
        have f77 : (fun v _ => v = (Value.bool true)) x77 u8 := by rw [← hx77]; exact hh.got 25 _ 77 rfl rfl (hall 25 (by decide))
        obtain ⟨x78, hx78⟩ : ∃ x, A.eval (.tmp 78) = x := ⟨_, rfl⟩
        have f78 : (fun v _ => v = (Value.bool true)) x78 u8 := by rw [← hx78]; exact hh.got 26 _ 78 rfl rfl (hall 26 (by decide))
        obtain ⟨x10, hx10⟩ : ∃ x, A.eval (.tmp 10) = x := ⟨_, rfl⟩
        have f10 : (fun v _ => v = (Value.bool true)) x10 u8 := by rw [← hx10]; exact hh.got 27 _ 10 rfl rfl (hall 27 (by decide))
        dsimp only [wrote, List.foldl] at hA
        rw [hx52, hx53, hx54, hx55, hx56, hx57, hx58, hx59, hx60, hx61, hx62, hx63, hx64, hx65, hx66, hx67, hx68, hx69, hx70, hx71, hx72, hx73, hx74, hx75, hx76, hx77, hx78, hx10] at hA
        clear hh hall hx52 hx53 hx54 hx55 hx56 hx57 hx58 hx59 hx60 hx61 hx62 hx63 hx64 hx65 hx66 hx67 hx68 hx69 hx70 hx71 hx72 hx73 hx74 hx75 hx76 hx77 hx78 hx10
        replace f52 := (f52 : x52 = (.slice a0 n0 c0))
        subst f52
        replace f53 := (f53 : x53 = (.slice a2 n2 c2))
        subst f53
        replace f54 := (f54 : x54 = (.pointer (some ⟨p8, 2, none⟩)))
        subst f54
        replace f55 := (f55 : x55 = (.string nm))
        subst f55
        have e56 := (f56 : _ = Value.bool true)
        subst e56
        have e57 := (f57 : _ = Value.bool true)
        subst e57
        replace f58 := (f58 : x58 = (.bool true))
        subst f58
        replace f59 := (f59 : x59 = (.bool false))
        subst f59
        replace f60 := (f60 : x60 = (.bool false))
        subst f60
        replace f61 := (f61 : x61 = (.int .i64 (zz : Nat)))
        subst f61
        replace f62 := (f62 : x62 = (.bool true))
        subst f62
        replace f63 := (f63 : x63 = (.bool true))
        subst f63
        replace f64 := (f64 : x64 = (.bool true))
        subst f64
        replace f65 := (f65 : x65 = (.bool true))
        subst f65
        replace f66 := (f66 : x66 = (.bool true))
        subst f66
        replace f67 := (f67 : x67 = (.slice na nn nc))
        subst f67
        replace f68 := (f68 : x68 = (.string (So ++ Sb)))
        subst f68
        replace f69 := (f69 : x69 = (.slice oa on' oc))
        subst f69
        replace f70 := (f70 : x70 = (.string So))
        subst f70
        replace f71 := (f71 : x71 = (.pointer (some ⟨p8, 4, none⟩)))
        subst f71
        replace f72 := (f72 : x72 = (.slice ba bn bc))
        subst f72
        replace f73 := (f73 : x73 = (.int .i64 (zz : Nat)))
        subst f73
        replace f74 := (f74 : x74 = (.slice ba zz bc))
        subst f74
        replace f75 := (f75 : x75 = (.string Sb))
        subst f75
        replace f76 := (f76 : x76 = (.string (So ++ Sb)))
        subst f76
        replace f77 := (f77 : x77 = (.bool true))
        subst f77
        replace f78 := (f78 : x78 = (.bool true))
        subst f78
        replace f10 := (f10 : x10 = (.bool true))
        subst f10
        subst hA
        show wpList _ _ _ [] _ _
        unfold wpList
        simp only [Act.put, List.setIfInBounds_toArray, List.set_cons_succ, List.set_cons_zero]
        go_wp2_with fail
        go_ret
        exact ⟨rfl, gtrans HG1.out HU.out⟩
  · have hz0 : zz = bn := by omega
    subst hz0
    have hz1 : (zz : Int) < kp := by omega
    cases H with
    | true =>
      rw [show (true || decide (0 < kp)) = true from by simp]
      as_aux_lemma =>
      have HKp : Hid (∀ (x y : Operand) (u : World), (do eqGuard .gtr 3 x y (.int .i64 kp) (.int .i64 0); binOp .gtr 3 (.int .i64 kp) (.int .i64 0) : Sem Value).run Try.prog u = .ok (.bool true) u) := hid (fun x y u => by have e : (0 : Int) < kp := (by omega); go_simp)
      go_upto_region 12 with fail
      refine wp_region_listX (by kernel_rfl) [fun v _ => v = (Value.slice a0 n0 c0), fun v _ => v = (Value.slice a2 n2 c2), fun v _ => v = (Value.pointer (some ⟨p8, 2, none⟩)), fun v _ => v = (Value.string nm), fun v _ => v = Value.bool true, fun v _ => v = Value.bool true, fun v _ => v = (Value.bool true), fun v _ => v = (Value.bool true), fun v _ => v = (Value.bool true), fun v _ => v = undef, fun v _ => v = undef, fun v _ => v = (Value.bool true), fun v _ => v = (Value.bool true), fun v _ => v = (Value.bool true), fun v _ => v = (Value.bool true), fun v _ => v = (Value.slice na nn nc), fun v _ => v = (Value.string (So ++ Sb)), fun v _ => v = (Value.slice oa on' oc), fun v _ => v = (Value.string So), fun v _ => v = (Value.pointer (some ⟨p8, 4, none⟩)), fun v _ => v = (Value.slice ba zz bc), fun v _ => v = (Value.int .i64 (zz : Nat)), fun v _ => v = (Value.slice ba zz bc), fun v _ => v = (Value.string Sb), fun v _ => v = (Value.string (So ++ Sb)), fun v _ => v = (Value.bool true), fun v _ => v = (Value.bool true), fun v _ => v = (Value.bool true)] (none) (fun _ => none) 28 (by kernel_rfl) (by kernel_rfl) (by kernel_rfl) (by kernel_rfl) (by decide) noRow_one (fun _ => .inl rfl) ⟨fun i v u u' hki h hg => h, fun i v u u' hki h hg => h, fun i v u u' hki h hg => h, fun i v u u' hki h hg => h, fun i v u u' hki h hg => h, fun i v u u' hki h hg => h, fun i v u u' hki h hg => h, fun i v u u' hki h hg => h, fun i v u u' hki h hg => h, fun i v u u' hki h hg => h, fun i v u u' hki h hg => h, fun i v u u' hki h hg => h, fun i v u u' hki h hg => h, fun i v u u' hki h hg => h, fun i v u u' hki h hg => h, fun i v u u' hki h hg => h, fun i v u u' hki h hg => h, fun i v u u' hki h hg => h, fun i v u u' hki h hg => h, fun i v u u' hki h hg => h, fun i v u u' hki h hg => h, fun i v u u' hki h hg => h, fun i v u u' hki h hg => h, fun i v u u' hki h hg => h, fun i v u u' hki h hg => h, fun i v u u' hki h hg => h, fun i v u u' hki h hg => h, fun i v u u' hki h hg => h, trivial⟩ ⟨?_, ?_, ?_, ?_, ?_, ?_, ?_, ?_, ?_, ?_, ?_, ?_, ?_, ?_, ?_, ?_, ?_, ?_, ?_, ?_, ?_, ?_, ?_, ?_, ?_, ?_, ?_, ?_, trivial⟩ ?_
      · intro A u hu hpu hsz hout hdeps
        have e0 : A.eval (.tmp 0) = (.slice a0 n0 c0) := (hout 0 (by kernel_rfl)).trans rfl
        refine ifw_none rfl ?_
        with_reducible refine shown_q (Value.slice a0 n0 c0) ?qq_7_0 (fun _ _ => ?qr_7_0)
        case qr_7_0 => exact (rfl : (Value.slice a0 n0 c0) = (Value.slice a0 n0 c0))
        with_reducible refine quietAt_mv (.tmp 0) (Value.slice a0 n0 c0) ?h0_7_0 ?h1_7_0
        case h0_7_0 => rfl
        case h1_7_0 => exact e0
      · intro A u hu hpu hsz hout hdeps
        have e2 : A.eval (.tmp 2) = (.slice a2 n2 c2) := (hout 2 (by kernel_rfl)).trans rfl
        refine ifw_none rfl ?_
        with_reducible refine shown_q (Value.slice a2 n2 c2) ?qq_7_1 (fun _ _ => ?qr_7_1)
        case qr_7_1 => exact (rfl : (Value.slice a2 n2 c2) = (Value.slice a2 n2 c2))
        with_reducible refine quietAt_mv (.tmp 2) (Value.slice a2 n2 c2) ?h0_7_1 ?h1_7_1
        case h0_7_1 => rfl
        case h1_7_1 => exact e2
      · intro A u hu hpu hsz hout hdeps
        have e8 : A.eval (.tmp 8) = (.pointer (some ⟨p8, 0, none⟩)) := (hout 8 (by kernel_rfl)).trans rfl
        refine ifw_none rfl ?_
        with_reducible refine shown_q (Value.pointer (some ⟨p8, 2, none⟩)) ?qq_7_2 (fun _ _ => ?qr_7_2)
        case qr_7_2 => exact (rfl : (Value.pointer (some ⟨p8, 2, none⟩)) = (Value.pointer (some ⟨p8, 2, none⟩)))
        with_reducible refine quietAt_field 36 (.tmp 8) 2 ?h0_7_2 ⟨p8, 0, none⟩ ⟨p8, 2, none⟩ ?h1_7_2 ?h2_7_2
        case h0_7_2 => rfl
        case h1_7_2 => exact e8
        case h2_7_2 => kernel_rfl
      · intro A u hu hpu hsz hout hdeps
        have e54 : A.eval (.tmp 54) = (.pointer (some ⟨p8, 2, none⟩)) := by have h := depL hdeps 2 (by kernel_rfl) 54 (by kernel_rfl); exact h
        refine ifw_none rfl ?_
        with_reducible refine shown_q (Value.string nm) ?qq_7_3 (fun _ _ => ?qr_7_3)
        case qr_7_3 => exact (rfl : (Value.string nm) = (Value.string nm))
        with_reducible refine quietAt_ld 9 (.tmp 54) (Value.pointer (some ⟨p8, 2, none⟩)) (Value.string nm) ?h0_7_3 ?h1_7_3 ?h2_7_3
        case h0_7_3 => rfl
        case h1_7_3 => exact e54
        case h2_7_3 => exact ld9 p8 2 nm u ((HB1.out.keep hu).cell 2)
      · intro A u hu hpu hsz hout hdeps
        have e52 : A.eval (.tmp 52) = (.slice a0 n0 c0) := by have h := depL hdeps 0 (by kernel_rfl) 52 (by kernel_rfl); exact h
        have e53 : A.eval (.tmp 53) = (.slice a2 n2 c2) := by have h := depL hdeps 1 (by kernel_rfl) 53 (by kernel_rfl); exact h
        have e55 : A.eval (.tmp 55) = (.string nm) := by have h := depL hdeps 3 (by kernel_rfl) 55 (by kernel_rfl); exact h
        refine ifw_none rfl ?_
        with_reducible refine shown_call 21 Try.f21 ?h0_7_4 ?h1_7_4 ?h2_7_4 #[.tmp 52, .tmp 53, .tmp 55] #[34, 34, 9] ?h3_7_4 #[(Value.slice a0 n0 c0), (Value.slice a2 n2 c2), (Value.string nm)] ?h4_7_4 ?h5_7_4
        case h0_7_4 => exact Try.func21
        case h1_7_4 => kernel_rfl
        case h2_7_4 => kernel_rfl
        case h3_7_4 => rfl
        case h4_7_4 => exact map3 _ _ _ _ _ _ _ e52 e53 e55
        case h5_7_4 => exact HOt.out u hu
      · intro A u hu hpu hsz hout hdeps
        have f56 : (fun v _ => v = Value.bool true) (A.eval (.tmp 56)) u := by have h := depL hdeps 4 (by kernel_rfl) 56 (by kernel_rfl); exact h
        have e56 := (f56 : _ = Value.bool true)
        refine ifw_none rfl ?_
        exact shown_q _ (quietAt_mv (.tmp 56) _ rfl e56) (fun u' hg => rfl)
      · intro A u hu hpu hsz hout hdeps
        have f57 : (fun v _ => v = Value.bool true) (A.eval (.tmp 57)) u := by have h := depL hdeps 5 (by kernel_rfl) 57 (by kernel_rfl); exact h
        have e57 := (f57 : _ = Value.bool true)
        have e14 : A.eval (.tmp 14) = (.bool true) := (hout 14 (by kernel_rfl)).trans rfl
        refine ifw_want 5 true 57 rfl rfl e57 ?_
        with_reducible refine shown_q (Value.bool true) ?qq_7_6 (fun _ _ => ?qr_7_6)
        case qr_7_6 => exact (rfl : (Value.bool true) = (Value.bool true))
        with_reducible refine quietAt_mv (.tmp 14) (Value.bool true) ?h0_7_6 ?h1_7_6
        case h0_7_6 => rfl
        case h1_7_6 => exact e14
      · intro A u hu hpu hsz hout hdeps
        have f57 : (fun v _ => v = Value.bool true) (A.eval (.tmp 57)) u := by have h := depL hdeps 5 (by kernel_rfl) 57 (by kernel_rfl); exact h
        have e57 := (f57 : _ = Value.bool true)
        have e12 : A.eval (.tmp 12) = (.bool true) := (hout 12 (by kernel_rfl)).trans rfl
        refine ifw_want 5 true 57 rfl rfl e57 ?_
        with_reducible refine shown_q (Value.bool true) ?qq_7_7 (fun _ _ => ?qr_7_7)
        case qr_7_7 => exact (rfl : (Value.bool true) = (Value.bool true))
        with_reducible refine quietAt_mv (.tmp 12) (Value.bool true) ?h0_7_7 ?h1_7_7
        case h0_7_7 => rfl
        case h1_7_7 => exact e12
      · intro A u hu hpu hsz hout hdeps
        have f57 : (fun v _ => v = Value.bool true) (A.eval (.tmp 57)) u := by have h := depL hdeps 5 (by kernel_rfl) 57 (by kernel_rfl); exact h
        have e57 := (f57 : _ = Value.bool true)
        have e59 : A.eval (.tmp 59) = (.bool true) := by have h := depL hdeps 7 (by kernel_rfl) 59 (by kernel_rfl); exact h
        refine ifw_want 5 true 57 rfl rfl e57 ?_
        with_reducible refine shown_q (Value.bool true) ?qq_7_8 (fun _ _ => ?qr_7_8)
        case qr_7_8 => exact (rfl : (Value.bool true) = (Value.bool true))
        with_reducible refine quietAt_mv (.tmp 59) (Value.bool true) ?h0_7_8 ?h1_7_8
        case h0_7_8 => rfl
        case h1_7_8 => exact e59
      · intro A u hu hpu hsz hout hdeps
        have e60 : A.eval (.tmp 60) = (.bool true) := by have h := depL hdeps 8 (by kernel_rfl) 60 (by kernel_rfl); exact h
        refine ifw_pass 8 false true 60 rfl rfl e60 (by decide) ?_
        exact rfl
      · intro A u hu hpu hsz hout hdeps
        have e60 : A.eval (.tmp 60) = (.bool true) := by have h := depL hdeps 8 (by kernel_rfl) 60 (by kernel_rfl); exact h
        refine ifw_pass 8 false true 60 rfl rfl e60 (by decide) ?_
        exact rfl
      · intro A u hu hpu hsz hout hdeps
        have f57 : (fun v _ => v = Value.bool true) (A.eval (.tmp 57)) u := by have h := depL hdeps 5 (by kernel_rfl) 57 (by kernel_rfl); exact h
        have e57 := (f57 : _ = Value.bool true)
        have e60 : A.eval (.tmp 60) = (.bool true) := by have h := depL hdeps 8 (by kernel_rfl) 60 (by kernel_rfl); exact h
        refine ifw_want 5 true 57 rfl rfl e57 ?_
        with_reducible refine shown_q (Value.bool true) ?qq_7_11 (fun _ _ => ?qr_7_11)
        case qr_7_11 => exact (rfl : (Value.bool true) = (Value.bool true))
        with_reducible refine quietAt_pick (.tmp 60) (.const (.bool true)) (.tmp 62) true (Value.bool true) ?h0_7_11 ?h1_7_11 ?h2_7_11
        case h0_7_11 => rfl
        case h1_7_11 => exact e60
        case h2_7_11 => rw [if_pos rfl]; exact rfl
      · intro A u hu hpu hsz hout hdeps
        have f57 : (fun v _ => v = Value.bool true) (A.eval (.tmp 57)) u := by have h := depL hdeps 5 (by kernel_rfl) 57 (by kernel_rfl); exact h
        have e57 := (f57 : _ = Value.bool true)
        have e58 : A.eval (.tmp 58) = (.bool true) := by have h := depL hdeps 6 (by kernel_rfl) 58 (by kernel_rfl); exact h
        have e63 : A.eval (.tmp 63) = (.bool true) := by have h := depL hdeps 11 (by kernel_rfl) 63 (by kernel_rfl); exact h
        refine ifw_want 5 true 57 rfl rfl e57 ?_
        with_reducible refine shown_q (Value.bool true) ?qq_7_12 (fun _ _ => ?qr_7_12)
        case qr_7_12 => exact (rfl : (Value.bool true) = (Value.bool true))
        with_reducible refine quietAt_bin .eql 4 (.tmp 58) (.tmp 63) 4 (Value.bool true) (Value.bool true) (Value.bool true) ?h0_7_12 ?h1_7_12 ?h2_7_12 ?h3_7_12
        case h0_7_12 => rfl
        case h1_7_12 => exact e58
        case h2_7_12 => exact e63
        case h3_7_12 => exact rfl
      · intro A u hu hpu hsz hout hdeps
        have f57 : (fun v _ => v = Value.bool true) (A.eval (.tmp 57)) u := by have h := depL hdeps 5 (by kernel_rfl) 57 (by kernel_rfl); exact h
        have e57 := (f57 : _ = Value.bool true)
        have e64 : A.eval (.tmp 64) = (.bool true) := by have h := depL hdeps 12 (by kernel_rfl) 64 (by kernel_rfl); exact h
        refine ifw_none rfl ?_
        with_reducible refine shown_q (Value.bool true) ?qq_7_13 (fun _ _ => ?qr_7_13)
        case qr_7_13 => exact (rfl : (Value.bool true) = (Value.bool true))
        with_reducible refine quietAt_pick (.tmp 57) (.tmp 64) (.const (.bool false)) true (Value.bool true) ?h0_7_13 ?h1_7_13 ?h2_7_13
        case h0_7_13 => rfl
        case h1_7_13 => exact e57
        case h2_7_13 => rw [if_pos rfl]; exact e64
      · intro A u hu hpu hsz hout hdeps
        have e65 : A.eval (.tmp 65) = (.bool true) := by have h := depL hdeps 13 (by kernel_rfl) 65 (by kernel_rfl); exact h
        refine ifw_none rfl ?_
        with_reducible refine shown_q (Value.bool true) ?qq_7_14 (fun _ _ => ?qr_7_14)
        case qr_7_14 => exact (rfl : (Value.bool true) = (Value.bool true))
        with_reducible refine quietAt_mv (.tmp 65) (Value.bool true) ?h0_7_14 ?h1_7_14
        case h0_7_14 => rfl
        case h1_7_14 => exact e65
      · intro A u hu hpu hsz hout hdeps
        have e66 : A.eval (.tmp 66) = (.bool true) := by have h := depL hdeps 14 (by kernel_rfl) 66 (by kernel_rfl); exact h
        have e13 : A.eval (.tmp 13) = (.slice na nn nc) := (hout 13 (by kernel_rfl)).trans rfl
        refine ifw_want 14 true 66 rfl rfl e66 ?_
        with_reducible refine shown_q (Value.slice na nn nc) ?qq_7_15 (fun _ _ => ?qr_7_15)
        case qr_7_15 => exact (rfl : (Value.slice na nn nc) = (Value.slice na nn nc))
        with_reducible refine quietAt_mv (.tmp 13) (Value.slice na nn nc) ?h0_7_15 ?h1_7_15
        case h0_7_15 => rfl
        case h1_7_15 => exact e13
      · intro A u hu hpu hsz hout hdeps
        have e66 : A.eval (.tmp 66) = (.bool true) := by have h := depL hdeps 14 (by kernel_rfl) 66 (by kernel_rfl); exact h
        have e67 : A.eval (.tmp 67) = (.slice na nn nc) := by have h := depL hdeps 15 (by kernel_rfl) 67 (by kernel_rfl); exact h
        refine ifw_want 14 true 66 rfl rfl e66 ?_
        with_reducible refine shown_q (Value.string (So ++ Sb)) ?qq_7_16 (fun _ _ => ?qr_7_16)
        case qr_7_16 => exact (rfl : (Value.string (So ++ Sb)) = (Value.string (So ++ Sb)))
        with_reducible refine quietAt_cv 33 9 (.tmp 67) (Value.slice na nn nc) (Value.string (So ++ Sb)) ?h0_7_16 ?h1_7_16 ?h2_7_16
        case h0_7_16 => rfl
        case h1_7_16 => exact e67
        case h2_7_16 => exact (HCn.out u hu)
      · intro A u hu hpu hsz hout hdeps
        have e66 : A.eval (.tmp 66) = (.bool true) := by have h := depL hdeps 14 (by kernel_rfl) 66 (by kernel_rfl); exact h
        have e11 : A.eval (.tmp 11) = (.slice oa on' oc) := (hout 11 (by kernel_rfl)).trans rfl
        refine ifw_want 14 true 66 rfl rfl e66 ?_
        with_reducible refine shown_q (Value.slice oa on' oc) ?qq_7_17 (fun _ _ => ?qr_7_17)
        case qr_7_17 => exact (rfl : (Value.slice oa on' oc) = (Value.slice oa on' oc))
        with_reducible refine quietAt_mv (.tmp 11) (Value.slice oa on' oc) ?h0_7_17 ?h1_7_17
        case h0_7_17 => rfl
        case h1_7_17 => exact e11
      · intro A u hu hpu hsz hout hdeps
        have e66 : A.eval (.tmp 66) = (.bool true) := by have h := depL hdeps 14 (by kernel_rfl) 66 (by kernel_rfl); exact h
        have e69 : A.eval (.tmp 69) = (.slice oa on' oc) := by have h := depL hdeps 17 (by kernel_rfl) 69 (by kernel_rfl); exact h
        refine ifw_want 14 true 66 rfl rfl e66 ?_
        with_reducible refine shown_q (Value.string So) ?qq_7_18 (fun _ _ => ?qr_7_18)
        case qr_7_18 => exact (rfl : (Value.string So) = (Value.string So))
        with_reducible refine quietAt_cv 33 9 (.tmp 69) (Value.slice oa on' oc) (Value.string So) ?h0_7_18 ?h1_7_18 ?h2_7_18
        case h0_7_18 => rfl
        case h1_7_18 => exact e69
        case h2_7_18 => exact (HCo.out u hu)
      · intro A u hu hpu hsz hout hdeps
        have e66 : A.eval (.tmp 66) = (.bool true) := by have h := depL hdeps 14 (by kernel_rfl) 66 (by kernel_rfl); exact h
        have e8 : A.eval (.tmp 8) = (.pointer (some ⟨p8, 0, none⟩)) := (hout 8 (by kernel_rfl)).trans rfl
        refine ifw_want 14 true 66 rfl rfl e66 ?_
        with_reducible refine shown_q (Value.pointer (some ⟨p8, 4, none⟩)) ?qq_7_19 (fun _ _ => ?qr_7_19)
        case qr_7_19 => exact (rfl : (Value.pointer (some ⟨p8, 4, none⟩)) = (Value.pointer (some ⟨p8, 4, none⟩)))
        with_reducible refine quietAt_field 36 (.tmp 8) 4 ?h0_7_19 ⟨p8, 0, none⟩ ⟨p8, 4, none⟩ ?h1_7_19 ?h2_7_19
        case h0_7_19 => rfl
        case h1_7_19 => exact e8
        case h2_7_19 => kernel_rfl
      · intro A u hu hpu hsz hout hdeps
        have e66 : A.eval (.tmp 66) = (.bool true) := by have h := depL hdeps 14 (by kernel_rfl) 66 (by kernel_rfl); exact h
        have e71 : A.eval (.tmp 71) = (.pointer (some ⟨p8, 4, none⟩)) := by have h := depL hdeps 19 (by kernel_rfl) 71 (by kernel_rfl); exact h
        refine ifw_want 14 true 66 rfl rfl e66 ?_
        with_reducible refine shown_q (Value.slice ba zz bc) ?qq_7_20 (fun _ _ => ?qr_7_20)
        case qr_7_20 => exact (rfl : (Value.slice ba zz bc) = (Value.slice ba zz bc))
        with_reducible refine quietAt_ld 33 (.tmp 71) (Value.pointer (some ⟨p8, 4, none⟩)) (Value.slice ba zz bc) ?h0_7_20 ?h1_7_20 ?h2_7_20
        case h0_7_20 => rfl
        case h1_7_20 => exact e71
        case h2_7_20 => exact ld33 p8 4 zz bc ba u ((HB1.out.keep hu).cell 4)
      · intro A u hu hpu hsz hout hdeps
        have e66 : A.eval (.tmp 66) = (.bool true) := by have h := depL hdeps 14 (by kernel_rfl) 66 (by kernel_rfl); exact h
        have e15 : A.eval (.tmp 15) = (.int .i64 (zz : Nat)) := (hout 15 (by kernel_rfl)).trans rfl
        refine ifw_want 14 true 66 rfl rfl e66 ?_
        with_reducible refine shown_q (Value.int .i64 (zz : Nat)) ?qq_7_21 (fun _ _ => ?qr_7_21)
        case qr_7_21 => exact (rfl : (Value.int .i64 (zz : Nat)) = (Value.int .i64 (zz : Nat)))
        with_reducible refine quietAt_mv (.tmp 15) (Value.int .i64 (zz : Nat)) ?h0_7_21 ?h1_7_21
        case h0_7_21 => rfl
        case h1_7_21 => exact e15
      · intro A u hu hpu hsz hout hdeps
        have e66 : A.eval (.tmp 66) = (.bool true) := by have h := depL hdeps 14 (by kernel_rfl) 66 (by kernel_rfl); exact h
        have e72 : A.eval (.tmp 72) = (.slice ba zz bc) := by have h := depL hdeps 20 (by kernel_rfl) 72 (by kernel_rfl); exact h
        have e73 : A.eval (.tmp 73) = (.int .i64 (zz : Nat)) := by have h := depL hdeps 21 (by kernel_rfl) 73 (by kernel_rfl); exact h
        refine ifw_want 14 true 66 rfl rfl e66 ?_
        with_reducible refine shown_q (Value.slice ba zz bc) ?qq_7_22 (fun _ _ => ?qr_7_22)
        case qr_7_22 => exact (rfl : (Value.slice ba zz bc) = (Value.slice ba zz bc))
        with_reducible refine quietAt_sliceh 33 (.tmp 72) (.tmp 73) (Value.slice ba zz bc) (Value.int .i64 (zz : Nat)) (Value.slice ba zz bc) ?h0_7_22 ?h1_7_22 ?h2_7_22 ?h3_7_22
        case h0_7_22 => rfl
        case h1_7_22 => exact e72
        case h2_7_22 => exact e73
        case h3_7_22 => exact HSl.out u
      · intro A u hu hpu hsz hout hdeps
        have e66 : A.eval (.tmp 66) = (.bool true) := by have h := depL hdeps 14 (by kernel_rfl) 66 (by kernel_rfl); exact h
        have e74 : A.eval (.tmp 74) = (.slice ba zz bc) := by have h := depL hdeps 22 (by kernel_rfl) 74 (by kernel_rfl); exact h
        refine ifw_want 14 true 66 rfl rfl e66 ?_
        with_reducible refine shown_q (Value.string Sb) ?qq_7_23 (fun _ _ => ?qr_7_23)
        case qr_7_23 => exact (rfl : (Value.string Sb) = (Value.string Sb))
        with_reducible refine quietAt_cv 33 9 (.tmp 74) (Value.slice ba zz bc) (Value.string Sb) ?h0_7_23 ?h1_7_23 ?h2_7_23
        case h0_7_23 => rfl
        case h1_7_23 => exact e74
        case h2_7_23 => exact (HCb.out u hu)
      · intro A u hu hpu hsz hout hdeps
        have e66 : A.eval (.tmp 66) = (.bool true) := by have h := depL hdeps 14 (by kernel_rfl) 66 (by kernel_rfl); exact h
        have e70 : A.eval (.tmp 70) = (.string So) := by have h := depL hdeps 18 (by kernel_rfl) 70 (by kernel_rfl); exact h
        have e75 : A.eval (.tmp 75) = (.string Sb) := by have h := depL hdeps 23 (by kernel_rfl) 75 (by kernel_rfl); exact h
        refine ifw_want 14 true 66 rfl rfl e66 ?_
        with_reducible refine shown_q (Value.string (So ++ Sb)) ?qq_7_24 (fun _ _ => ?qr_7_24)
        case qr_7_24 => exact (rfl : (Value.string (So ++ Sb)) = (Value.string (So ++ Sb)))
        with_reducible refine quietAt_bin .add 9 (.tmp 70) (.tmp 75) 9 (Value.string So) (Value.string Sb) (Value.string (So ++ Sb)) ?h0_7_24 ?h1_7_24 ?h2_7_24 ?h3_7_24
        case h0_7_24 => rfl
        case h1_7_24 => exact e70
        case h2_7_24 => exact e75
        case h3_7_24 => exact HAd.out _ _ u
      · intro A u hu hpu hsz hout hdeps
        have e66 : A.eval (.tmp 66) = (.bool true) := by have h := depL hdeps 14 (by kernel_rfl) 66 (by kernel_rfl); exact h
        have e68 : A.eval (.tmp 68) = (.string (So ++ Sb)) := by have h := depL hdeps 16 (by kernel_rfl) 68 (by kernel_rfl); exact h
        have e76 : A.eval (.tmp 76) = (.string (So ++ Sb)) := by have h := depL hdeps 24 (by kernel_rfl) 76 (by kernel_rfl); exact h
        refine ifw_want 14 true 66 rfl rfl e66 ?_
        with_reducible refine shown_q (Value.bool true) ?qq_7_25 (fun _ _ => ?qr_7_25)
        case qr_7_25 => exact (rfl : (Value.bool true) = (Value.bool true))
        with_reducible refine quietAt_bin .eql 9 (.tmp 68) (.tmp 76) 9 (Value.string (So ++ Sb)) (Value.string (So ++ Sb)) (Value.bool true) ?h0_7_25 ?h1_7_25 ?h2_7_25 ?h3_7_25
        case h0_7_25 => rfl
        case h1_7_25 => exact e68
        case h2_7_25 => exact e76
        case h3_7_25 => exact HEq.out _ _ u
      · intro A u hu hpu hsz hout hdeps
        have e66 : A.eval (.tmp 66) = (.bool true) := by have h := depL hdeps 14 (by kernel_rfl) 66 (by kernel_rfl); exact h
        have e77 : A.eval (.tmp 77) = (.bool true) := by have h := depL hdeps 25 (by kernel_rfl) 77 (by kernel_rfl); exact h
        refine ifw_none rfl ?_
        with_reducible refine shown_q (Value.bool true) ?qq_7_26 (fun _ _ => ?qr_7_26)
        case qr_7_26 => exact (rfl : (Value.bool true) = (Value.bool true))
        with_reducible refine quietAt_pick (.tmp 66) (.tmp 77) (.const (.bool false)) true (Value.bool true) ?h0_7_26 ?h1_7_26 ?h2_7_26
        case h0_7_26 => rfl
        case h1_7_26 => exact e66
        case h2_7_26 => rw [if_pos rfl]; exact e77
      · intro A u hu hpu hsz hout hdeps
        have e78 : A.eval (.tmp 78) = (.bool true) := by have h := depL hdeps 26 (by kernel_rfl) 78 (by kernel_rfl); exact h
        refine ifw_none rfl ?_
        with_reducible refine shown_q (Value.bool true) ?qq_7_27 (fun _ _ => ?qr_7_27)
        case qr_7_27 => exact (rfl : (Value.bool true) = (Value.bool true))
        with_reducible refine quietAt_as (.tmp 78) (Value.bool true) ?h0_7_27 ?h1_7_27
        case h0_7_27 => rfl
        case h1_7_27 => exact e78
      · intro A u8 listed hh hall
        have hA := hh.frame
        have HU := hid hh.grown
        obtain ⟨x52, hx52⟩ : ∃ x, A.eval (.tmp 52) = x := ⟨_, rfl⟩
        have f52 : (fun v _ => v = (Value.slice a0 n0 c0)) x52 u8 := by rw [← hx52]; exact hh.got 0 _ 52 rfl rfl (hall 0 (by decide))
        obtain ⟨x53, hx53⟩ : ∃ x, A.eval (.tmp 53) = x := ⟨_, rfl⟩
        have f53 : (fun v _ => v = (Value.slice a2 n2 c2)) x53 u8 := by rw [← hx53]; exact hh.got 1 _ 53 rfl rfl (hall 1 (by decide))
        obtain ⟨x54, hx54⟩ : ∃ x, A.eval (.tmp 54) = x := ⟨_, rfl⟩
        have f54 : (fun v _ => v = (Value.pointer (some ⟨p8, 2, none⟩))) x54 u8 := by rw [← hx54]; exact hh.got 2 _ 54 rfl rfl (hall 2 (by decide))
        obtain ⟨x55, hx55⟩ : ∃ x, A.eval (.tmp 55) = x := ⟨_, rfl⟩
        have f55 : (fun v _ => v = (Value.string nm)) x55 u8 := by rw [← hx55]; exact hh.got 3 _ 55 rfl rfl (hall 3 (by decide))
        obtain ⟨x56, hx56⟩ : ∃ x, A.eval (.tmp 56) = x := ⟨_, rfl⟩
        have f56 : (fun v _ => v = Value.bool true) x56 u8 := by rw [← hx56]; exact hh.got 4 _ 56 rfl rfl (hall 4 (by decide))
        obtain ⟨x57, hx57⟩ : ∃ x, A.eval (.tmp 57) = x := ⟨_, rfl⟩
        have f57 : (fun v _ => v = Value.bool true) x57 u8 := by rw [← hx57]; exact hh.got 5 _ 57 rfl rfl (hall 5 (by decide))
        obtain ⟨x58, hx58⟩ : ∃ x, A.eval (.tmp 58) = x := ⟨_, rfl⟩
        have f58 : (fun v _ => v = (Value.bool true)) x58 u8 := by rw [← hx58]; exact hh.got 6 _ 58 rfl rfl (hall 6 (by decide))
        obtain ⟨x59, hx59⟩ : ∃ x, A.eval (.tmp 59) = x := ⟨_, rfl⟩
        have f59 : (fun v _ => v = (Value.bool true)) x59 u8 := by rw [← hx59]; exact hh.got 7 _ 59 rfl rfl (hall 7 (by decide))
        obtain ⟨x60, hx60⟩ : ∃ x, A.eval (.tmp 60) = x := ⟨_, rfl⟩
        have f60 : (fun v _ => v = (Value.bool true)) x60 u8 := by rw [← hx60]; exact hh.got 8 _ 60 rfl rfl (hall 8 (by decide))
        obtain ⟨x61, hx61⟩ : ∃ x, A.eval (.tmp 61) = x := ⟨_, rfl⟩
        have f61 : (fun v _ => v = undef) x61 u8 := by rw [← hx61]; exact hh.got 9 _ 61 rfl rfl (hall 9 (by decide))
        obtain ⟨x62, hx62⟩ : ∃ x, A.eval (.tmp 62) = x := ⟨_, rfl⟩
        have f62 : (fun v _ => v = undef) x62 u8 := by rw [← hx62]; exact hh.got 10 _ 62 rfl rfl (hall 10 (by decide))
        obtain ⟨x63, hx63⟩ : ∃ x, A.eval (.tmp 63) = x := ⟨_, rfl⟩
        have f63 : (fun v _ => v = (Value.bool true)) x63 u8 := by rw [← hx63]; exact hh.got 11 _ 63 rfl rfl (hall 11 (by decide))
        obtain ⟨x64, hx64⟩ : ∃ x, A.eval (.tmp 64) = x := ⟨_, rfl⟩
        have f64 : (fun v _ => v = (Value.bool true)) x64 u8 := by rw [← hx64]; exact hh.got 12 _ 64 rfl rfl (hall 12 (by decide))
        obtain ⟨x65, hx65⟩ : ∃ x, A.eval (.tmp 65) = x := ⟨_, rfl⟩
        have f65 : (fun v _ => v = (Value.bool true)) x65 u8 := by rw [← hx65]; exact hh.got 13 _ 65 rfl rfl (hall 13 (by decide))
        obtain ⟨x66, hx66⟩ : ∃ x, A.eval (.tmp 66) = x := ⟨_, rfl⟩
        have f66 : (fun v _ => v = (Value.bool true)) x66 u8 := by rw [← hx66]; exact hh.got 14 _ 66 rfl rfl (hall 14 (by decide))
        obtain ⟨x67, hx67⟩ : ∃ x, A.eval (.tmp 67) = x := ⟨_, rfl⟩
        have f67 : (fun v _ => v = (Value.slice na nn nc)) x67 u8 := by rw [← hx67]; exact hh.got 15 _ 67 rfl rfl (hall 15 (by decide))
        obtain ⟨x68, hx68⟩ : ∃ x, A.eval (.tmp 68) = x := ⟨_, rfl⟩
        have f68 : (fun v _ => v = (Value.string (So ++ Sb))) x68 u8 := by rw [← hx68]; exact hh.got 16 _ 68 rfl rfl (hall 16 (by decide))
        obtain ⟨x69, hx69⟩ : ∃ x, A.eval (.tmp 69) = x := ⟨_, rfl⟩
        have f69 : (fun v _ => v = (Value.slice oa on' oc)) x69 u8 := by rw [← hx69]; exact hh.got 17 _ 69 rfl rfl (hall 17 (by decide))
        obtain ⟨x70, hx70⟩ : ∃ x, A.eval (.tmp 70) = x := ⟨_, rfl⟩
        have f70 : (fun v _ => v = (Value.string So)) x70 u8 := by rw [← hx70]; exact hh.got 18 _ 70 rfl rfl (hall 18 (by decide))
        obtain ⟨x71, hx71⟩ : ∃ x, A.eval (.tmp 71) = x := ⟨_, rfl⟩
        have f71 : (fun v _ => v = (Value.pointer (some ⟨p8, 4, none⟩))) x71 u8 := by rw [← hx71]; exact hh.got 19 _ 71 rfl rfl (hall 19 (by decide))
        obtain ⟨x72, hx72⟩ : ∃ x, A.eval (.tmp 72) = x := ⟨_, rfl⟩
        have f72 : (fun v _ => v = (Value.slice ba zz bc)) x72 u8 := by rw [← hx72]; exact hh.got 20 _ 72 rfl rfl (hall 20 (by decide))
        obtain ⟨x73, hx73⟩ : ∃ x, A.eval (.tmp 73) = x := ⟨_, rfl⟩
        have f73 : (fun v _ => v = (Value.int .i64 (zz : Nat))) x73 u8 := by rw [← hx73]; exact hh.got 21 _ 73 rfl rfl (hall 21 (by decide))
        obtain ⟨x74, hx74⟩ : ∃ x, A.eval (.tmp 74) = x := ⟨_, rfl⟩
        have f74 : (fun v _ => v = (Value.slice ba zz bc)) x74 u8 := by rw [← hx74]; exact hh.got 22 _ 74 rfl rfl (hall 22 (by decide))
        obtain ⟨x75, hx75⟩ : ∃ x, A.eval (.tmp 75) = x := ⟨_, rfl⟩
        have f75 : (fun v _ => v = (Value.string Sb)) x75 u8 := by rw [← hx75]; exact hh.got 23 _ 75 rfl rfl (hall 23 (by decide))
        obtain ⟨x76, hx76⟩ : ∃ x, A.eval (.tmp 76) = x := ⟨_, rfl⟩
        have f76 : (fun v _ => v = (Value.string (So ++ Sb))) x76 u8 := by rw [← hx76]; exact hh.got 24 _ 76 rfl rfl (hall 24 (by decide))
        obtain ⟨x77, hx77⟩ : ∃ x, A.eval (.tmp 77) = x := ⟨_, rfl⟩
        have f77 : (fun v _ => v = (Value.bool true)) x77 u8 := by rw [← hx77]; exact hh.got 25 _ 77 rfl rfl (hall 25 (by decide))
        obtain ⟨x78, hx78⟩ : ∃ x, A.eval (.tmp 78) = x := ⟨_, rfl⟩
        have f78 : (fun v _ => v = (Value.bool true)) x78 u8 := by rw [← hx78]; exact hh.got 26 _ 78 rfl rfl (hall 26 (by decide))
        obtain ⟨x10, hx10⟩ : ∃ x, A.eval (.tmp 10) = x := ⟨_, rfl⟩
        have f10 : (fun v _ => v = (Value.bool true)) x10 u8 := by rw [← hx10]; exact hh.got 27 _ 10 rfl rfl (hall 27 (by decide))
        dsimp only [wrote, List.foldl] at hA
        rw [hx52, hx53, hx54, hx55, hx56, hx57, hx58, hx59, hx60, hx61, hx62, hx63, hx64, hx65, hx66, hx67, hx68, hx69, hx70, hx71, hx72, hx73, hx74, hx75, hx76, hx77, hx78, hx10] at hA
        clear hh hall hx52 hx53 hx54 hx55 hx56 hx57 hx58 hx59 hx60 hx61 hx62 hx63 hx64 hx65 hx66 hx67 hx68 hx69 hx70 hx71 hx72 hx73 hx74 hx75 hx76 hx77 hx78 hx10
        replace f52 := (f52 : x52 = (.slice a0 n0 c0))
        subst f52
        replace f53 := (f53 : x53 = (.slice a2 n2 c2))
        subst f53
        replace f54 := (f54 : x54 = (.pointer (some ⟨p8, 2, none⟩)))
        subst f54
        replace f55 := (f55 : x55 = (.string nm))
        subst f55
        have e56 := (f56 : _ = Value.bool true)
        subst e56
        have e57 := (f57 : _ = Value.bool true)
        subst e57
        replace f58 := (f58 : x58 = (.bool true))
        subst f58
        replace f59 := (f59 : x59 = (.bool true))
        subst f59
        replace f60 := (f60 : x60 = (.bool true))
        subst f60
        replace f61 := (f61 : x61 = undef)
        subst f61
        replace f62 := (f62 : x62 = undef)
        subst f62
        replace f63 := (f63 : x63 = (.bool true))
        subst f63
        replace f64 := (f64 : x64 = (.bool true))
        subst f64
        replace f65 := (f65 : x65 = (.bool true))
        subst f65
        replace f66 := (f66 : x66 = (.bool true))
        subst f66
        replace f67 := (f67 : x67 = (.slice na nn nc))
        subst f67
        replace f68 := (f68 : x68 = (.string (So ++ Sb)))
        subst f68
        replace f69 := (f69 : x69 = (.slice oa on' oc))
        subst f69
        replace f70 := (f70 : x70 = (.string So))
        subst f70
        replace f71 := (f71 : x71 = (.pointer (some ⟨p8, 4, none⟩)))
        subst f71
        replace f72 := (f72 : x72 = (.slice ba zz bc))
        subst f72
        replace f73 := (f73 : x73 = (.int .i64 (zz : Nat)))
        subst f73
        replace f74 := (f74 : x74 = (.slice ba zz bc))
        subst f74
        replace f75 := (f75 : x75 = (.string Sb))
        subst f75
        replace f76 := (f76 : x76 = (.string (So ++ Sb)))
        subst f76
        replace f77 := (f77 : x77 = (.bool true))
        subst f77
        replace f78 := (f78 : x78 = (.bool true))
        subst f78
        replace f10 := (f10 : x10 = (.bool true))
        subst f10
        subst hA
        show wpList _ _ _ [] _ _
        unfold wpList
        simp only [Act.put, List.setIfInBounds_toArray, List.set_cons_succ, List.set_cons_zero]
        go_wp2_with fail
        go_ret
        exact ⟨rfl, gtrans HG1.out HU.out⟩
    | false =>
      rw [show (false || decide (0 < kp)) = true from by simp; omega]
      as_aux_lemma =>
      have HKp : Hid (∀ (x y : Operand) (u : World), (do eqGuard .gtr 3 x y (.int .i64 kp) (.int .i64 0); binOp .gtr 3 (.int .i64 kp) (.int .i64 0) : Sem Value).run Try.prog u = .ok (.bool true) u) := hid (fun x y u => by have e : (0 : Int) < kp := (by omega); go_simp)
      go_upto_region 12 with fail
      refine wp_region_listX (by kernel_rfl) [fun v _ => v = (Value.slice a0 n0 c0), fun v _ => v = (Value.slice a2 n2 c2), fun v _ => v = (Value.pointer (some ⟨p8, 2, none⟩)), fun v _ => v = (Value.string nm), fun v _ => v = Value.bool true, fun v _ => v = Value.bool true, fun v _ => v = (Value.bool true), fun v _ => v = (Value.bool false), fun v _ => v = (Value.bool false), fun v _ => v = (Value.int .i64 kp), fun v _ => v = (Value.bool true), fun v _ => v = (Value.bool true), fun v _ => v = (Value.bool true), fun v _ => v = (Value.bool true), fun v _ => v = (Value.bool true), fun v _ => v = (Value.slice na nn nc), fun v _ => v = (Value.string (So ++ Sb)), fun v _ => v = (Value.slice oa on' oc), fun v _ => v = (Value.string So), fun v _ => v = (Value.pointer (some ⟨p8, 4, none⟩)), fun v _ => v = (Value.slice ba zz bc), fun v _ => v = (Value.int .i64 (zz : Nat)), fun v _ => v = (Value.slice ba zz bc), fun v _ => v = (Value.string Sb), fun v _ => v = (Value.string (So ++ Sb)), fun v _ => v = (Value.bool true), fun v _ => v = (Value.bool true), fun v _ => v = (Value.bool true)] (none) (fun _ => none) 28 (by kernel_rfl) (by kernel_rfl) (by kernel_rfl) (by kernel_rfl) (by decide) noRow_one (fun _ => .inl rfl) ⟨fun i v u u' hki h hg => h, fun i v u u' hki h hg => h, fun i v u u' hki h hg => h, fun i v u u' hki h hg => h, fun i v u u' hki h hg => h, fun i v u u' hki h hg => h, fun i v u u' hki h hg => h, fun i v u u' hki h hg => h, fun i v u u' hki h hg => h, fun i v u u' hki h hg => h, fun i v u u' hki h hg => h, fun i v u u' hki h hg => h, fun i v u u' hki h hg => h, fun i v u u' hki h hg => h, fun i v u u' hki h hg => h, fun i v u u' hki h hg => h, fun i v u u' hki h hg => h, fun i v u u' hki h hg => h, fun i v u u' hki h hg => h, fun i v u u' hki h hg => h, fun i v u u' hki h hg => h, fun i v u u' hki h hg => h, fun i v u u' hki h hg => h, fun i v u u' hki h hg => h, fun i v u u' hki h hg => h, fun i v u u' hki h hg => h, fun i v u u' hki h hg => h, fun i v u u' hki h hg => h, trivial⟩ ⟨?_, ?_, ?_, ?_, ?_, ?_, ?_, ?_, ?_, ?_, ?_, ?_, ?_, ?_, ?_, ?_, ?_, ?_, ?_, ?_, ?_, ?_, ?_, ?_, ?_, ?_, ?_, ?_, trivial⟩ ?_
      · intro A u hu hpu hsz hout hdeps
        have e0 : A.eval (.tmp 0) = (.slice a0 n0 c0) := (hout 0 (by kernel_rfl)).trans rfl
        refine ifw_none rfl ?_
        with_reducible refine shown_q (Value.slice a0 n0 c0) ?qq_8_0 (fun _ _ => ?qr_8_0)
        case qr_8_0 => exact (rfl : (Value.slice a0 n0 c0) = (Value.slice a0 n0 c0))
        with_reducible refine quietAt_mv (.tmp 0) (Value.slice a0 n0 c0) ?h0_8_0 ?h1_8_0
        case h0_8_0 => rfl
        case h1_8_0 => exact e0
      · intro A u hu hpu hsz hout hdeps
        have e2 : A.eval (.tmp 2) = (.slice a2 n2 c2) := (hout 2 (by kernel_rfl)).trans rfl
        refine ifw_none rfl ?_
        with_reducible refine shown_q (Value.slice a2 n2 c2) ?qq_8_1 (fun _ _ => ?qr_8_1)
        case qr_8_1 => exact (rfl : (Value.slice a2 n2 c2) = (Value.slice a2 n2 c2))
        with_reducible refine quietAt_mv (.tmp 2) (Value.slice a2 n2 c2) ?h0_8_1 ?h1_8_1
        case h0_8_1 => rfl
        case h1_8_1 => exact e2
      · intro A u hu hpu hsz hout hdeps
        have e8 : A.eval (.tmp 8) = (.pointer (some ⟨p8, 0, none⟩)) := (hout 8 (by kernel_rfl)).trans rfl
        refine ifw_none rfl ?_
        with_reducible refine shown_q (Value.pointer (some ⟨p8, 2, none⟩)) ?qq_8_2 (fun _ _ => ?qr_8_2)
        case qr_8_2 => exact (rfl : (Value.pointer (some ⟨p8, 2, none⟩)) = (Value.pointer (some ⟨p8, 2, none⟩)))
        with_reducible refine quietAt_field 36 (.tmp 8) 2 ?h0_8_2 ⟨p8, 0, none⟩ ⟨p8, 2, none⟩ ?h1_8_2 ?h2_8_2
        case h0_8_2 => rfl
        case h1_8_2 => exact e8
        case h2_8_2 => kernel_rfl
      · intro A u hu hpu hsz hout hdeps
        have e54 : A.eval (.tmp 54) = (.pointer (some ⟨p8, 2, none⟩)) := by have h := depL hdeps 2 (by kernel_rfl) 54 (by kernel_rfl); exact h
        refine ifw_none rfl ?_
        with_reducible refine shown_q (Value.string nm) ?qq_8_3 (fun _ _ => ?qr_8_3)
        case qr_8_3 => exact (rfl : (Value.string nm) = (Value.string nm))
        with_reducible refine quietAt_ld 9 (.tmp 54) (Value.pointer (some ⟨p8, 2, none⟩)) (Value.string nm) ?h0_8_3 ?h1_8_3 ?h2_8_3
        case h0_8_3 => rfl
        case h1_8_3 => exact e54
        case h2_8_3 => exact ld9 p8 2 nm u ((HB1.out.keep hu).cell 2)
      · intro A u hu hpu hsz hout hdeps
        have e52 : A.eval (.tmp 52) = (.slice a0 n0 c0) := by have h := depL hdeps 0 (by kernel_rfl) 52 (by kernel_rfl); exact h
        have e53 : A.eval (.tmp 53) = (.slice a2 n2 c2) := by have h := depL hdeps 1 (by kernel_rfl) 53 (by kernel_rfl); exact h
        have e55 : A.eval (.tmp 55) = (.string nm) := by have h := depL hdeps 3 (by kernel_rfl) 55 (by kernel_rfl); exact h
        refine ifw_none rfl ?_
        with_reducible refine shown_call 21 Try.f21 ?h0_8_4 ?h1_8_4 ?h2_8_4 #[.tmp 52, .tmp 53, .tmp 55] #[34, 34, 9] ?h3_8_4 #[(Value.slice a0 n0 c0), (Value.slice a2 n2 c2), (Value.string nm)] ?h4_8_4 ?h5_8_4
        case h0_8_4 => exact Try.func21
        case h1_8_4 => kernel_rfl
        case h2_8_4 => kernel_rfl
        case h3_8_4 => rfl
        case h4_8_4 => exact map3 _ _ _ _ _ _ _ e52 e53 e55
        case h5_8_4 => exact HOt.out u hu
      · intro A u hu hpu hsz hout hdeps
        have f56 : (fun v _ => v = Value.bool true) (A.eval (.tmp 56)) u := by have h := depL hdeps 4 (by kernel_rfl) 56 (by kernel_rfl); exact h
        have e56 := (f56 : _ = Value.bool true)
        refine ifw_none rfl ?_
        exact shown_q _ (quietAt_mv (.tmp 56) _ rfl e56) (fun u' hg => rfl)
      · intro A u hu hpu hsz hout hdeps
        have f57 : (fun v _ => v = Value.bool true) (A.eval (.tmp 57)) u := by have h := depL hdeps 5 (by kernel_rfl) 57 (by kernel_rfl); exact h
        have e57 := (f57 : _ = Value.bool true)
        have e14 : A.eval (.tmp 14) = (.bool true) := (hout 14 (by kernel_rfl)).trans rfl
        refine ifw_want 5 true 57 rfl rfl e57 ?_
        with_reducible refine shown_q (Value.bool true) ?qq_8_6 (fun _ _ => ?qr_8_6)
        case qr_8_6 => exact (rfl : (Value.bool true) = (Value.bool true))
        with_reducible refine quietAt_mv (.tmp 14) (Value.bool true) ?h0_8_6 ?h1_8_6
        case h0_8_6 => rfl
        case h1_8_6 => exact e14
      · intro A u hu hpu hsz hout hdeps
        have f57 : (fun v _ => v = Value.bool true) (A.eval (.tmp 57)) u := by have h := depL hdeps 5 (by kernel_rfl) 57 (by kernel_rfl); exact h
        have e57 := (f57 : _ = Value.bool true)
        have e12 : A.eval (.tmp 12) = (.bool false) := (hout 12 (by kernel_rfl)).trans rfl
        refine ifw_want 5 true 57 rfl rfl e57 ?_
        with_reducible refine shown_q (Value.bool false) ?qq_8_7 (fun _ _ => ?qr_8_7)
        case qr_8_7 => exact (rfl : (Value.bool false) = (Value.bool false))
        with_reducible refine quietAt_mv (.tmp 12) (Value.bool false) ?h0_8_7 ?h1_8_7
        case h0_8_7 => rfl
        case h1_8_7 => exact e12
      · intro A u hu hpu hsz hout hdeps
        have f57 : (fun v _ => v = Value.bool true) (A.eval (.tmp 57)) u := by have h := depL hdeps 5 (by kernel_rfl) 57 (by kernel_rfl); exact h
        have e57 := (f57 : _ = Value.bool true)
        have e59 : A.eval (.tmp 59) = (.bool false) := by have h := depL hdeps 7 (by kernel_rfl) 59 (by kernel_rfl); exact h
        refine ifw_want 5 true 57 rfl rfl e57 ?_
        with_reducible refine shown_q (Value.bool false) ?qq_8_8 (fun _ _ => ?qr_8_8)
        case qr_8_8 => exact (rfl : (Value.bool false) = (Value.bool false))
        with_reducible refine quietAt_mv (.tmp 59) (Value.bool false) ?h0_8_8 ?h1_8_8
        case h0_8_8 => rfl
        case h1_8_8 => exact e59
      · intro A u hu hpu hsz hout hdeps
        have e60 : A.eval (.tmp 60) = (.bool false) := by have h := depL hdeps 8 (by kernel_rfl) 60 (by kernel_rfl); exact h
        have e4 : A.eval (.tmp 4) = (.int .i64 kp) := (hout 4 (by kernel_rfl)).trans rfl
        refine ifw_want 8 false 60 rfl rfl e60 ?_
        with_reducible refine shown_q (Value.int .i64 kp) ?qq_8_9 (fun _ _ => ?qr_8_9)
        case qr_8_9 => exact (rfl : (Value.int .i64 kp) = (Value.int .i64 kp))
        with_reducible refine quietAt_mv (.tmp 4) (Value.int .i64 kp) ?h0_8_9 ?h1_8_9
        case h0_8_9 => rfl
        case h1_8_9 => exact e4
      · intro A u hu hpu hsz hout hdeps
        have e60 : A.eval (.tmp 60) = (.bool false) := by have h := depL hdeps 8 (by kernel_rfl) 60 (by kernel_rfl); exact h
        have e61 : A.eval (.tmp 61) = (.int .i64 kp) := by have h := depL hdeps 9 (by kernel_rfl) 61 (by kernel_rfl); exact h
        refine ifw_want 8 false 60 rfl rfl e60 ?_
        with_reducible refine shown_q (Value.bool true) ?qq_8_10 (fun _ _ => ?qr_8_10)
        case qr_8_10 => exact (rfl : (Value.bool true) = (Value.bool true))
        with_reducible refine quietAt_bin .gtr 3 (.tmp 61) (.const (.int .i64 0)) 3 (Value.int .i64 kp) (Value.int .i64 0) (Value.bool true) ?h0_8_10 ?h1_8_10 ?h2_8_10 ?h3_8_10
        case h0_8_10 => rfl
        case h1_8_10 => exact e61
        case h2_8_10 => exact rfl
        case h3_8_10 => exact HKp.out _ _ u
      · intro A u hu hpu hsz hout hdeps
        have f57 : (fun v _ => v = Value.bool true) (A.eval (.tmp 57)) u := by have h := depL hdeps 5 (by kernel_rfl) 57 (by kernel_rfl); exact h
        have e57 := (f57 : _ = Value.bool true)
        have e60 : A.eval (.tmp 60) = (.bool false) := by have h := depL hdeps 8 (by kernel_rfl) 60 (by kernel_rfl); exact h
        have e62 : A.eval (.tmp 62) = (.bool true) := by have h := depL hdeps 10 (by kernel_rfl) 62 (by kernel_rfl); exact h
        refine ifw_want 5 true 57 rfl rfl e57 ?_
        with_reducible refine shown_q (Value.bool true) ?qq_8_11 (fun _ _ => ?qr_8_11)
        case qr_8_11 => exact (rfl : (Value.bool true) = (Value.bool true))
        with_reducible refine quietAt_pick (.tmp 60) (.const (.bool true)) (.tmp 62) false (Value.bool true) ?h0_8_11 ?h1_8_11 ?h2_8_11
        case h0_8_11 => rfl
        case h1_8_11 => exact e60
        case h2_8_11 => rw [if_neg (by decide)]; exact e62
      · intro A u hu hpu hsz hout hdeps
        have f57 : (fun v _ => v = Value.bool true) (A.eval (.tmp 57)) u := by have h := depL hdeps 5 (by kernel_rfl) 57 (by kernel_rfl); exact h
        have e57 := (f57 : _ = Value.bool true)
        have e58 : A.eval (.tmp 58) = (.bool true) := by have h := depL hdeps 6 (by kernel_rfl) 58 (by kernel_rfl); exact h
        have e63 : A.eval (.tmp 63) = (.bool true) := by have h := depL hdeps 11 (by kernel_rfl) 63 (by kernel_rfl); exact h
        refine ifw_want 5 true 57 rfl rfl e57 ?_
        with_reducible refine shown_q (Value.bool true) ?qq_8_12 (fun _ _ => ?qr_8_12)
        case qr_8_12 => exact (rfl : (Value.bool true) = (Value.bool true))
        with_reducible refine quietAt_bin .eql 4 (.tmp 58) (.tmp 63) 4 (Value.bool true) (Value.bool true) (Value.bool true) ?h0_8_12 ?h1_8_12 ?h2_8_12 ?h3_8_12
        case h0_8_12 => rfl
        case h1_8_12 => exact e58
        case h2_8_12 => exact e63
        case h3_8_12 => exact rfl
      · intro A u hu hpu hsz hout hdeps
        have f57 : (fun v _ => v = Value.bool true) (A.eval (.tmp 57)) u := by have h := depL hdeps 5 (by kernel_rfl) 57 (by kernel_rfl); exact h
        have e57 := (f57 : _ = Value.bool true)
        have e64 : A.eval (.tmp 64) = (.bool true) := by have h := depL hdeps 12 (by kernel_rfl) 64 (by kernel_rfl); exact h
        refine ifw_none rfl ?_
        with_reducible refine shown_q (Value.bool true) ?qq_8_13 (fun _ _ => ?qr_8_13)
        case qr_8_13 => exact (rfl : (Value.bool true) = (Value.bool true))
        with_reducible refine quietAt_pick (.tmp 57) (.tmp 64) (.const (.bool false)) true (Value.bool true) ?h0_8_13 ?h1_8_13 ?h2_8_13
        case h0_8_13 => rfl
        case h1_8_13 => exact e57
        case h2_8_13 => rw [if_pos rfl]; exact e64
      · intro A u hu hpu hsz hout hdeps
        have e65 : A.eval (.tmp 65) = (.bool true) := by have h := depL hdeps 13 (by kernel_rfl) 65 (by kernel_rfl); exact h
        refine ifw_none rfl ?_
        with_reducible refine shown_q (Value.bool true) ?qq_8_14 (fun _ _ => ?qr_8_14)
        case qr_8_14 => exact (rfl : (Value.bool true) = (Value.bool true))
        with_reducible refine quietAt_mv (.tmp 65) (Value.bool true) ?h0_8_14 ?h1_8_14
        case h0_8_14 => rfl
        case h1_8_14 => exact e65
      · intro A u hu hpu hsz hout hdeps
        have e66 : A.eval (.tmp 66) = (.bool true) := by have h := depL hdeps 14 (by kernel_rfl) 66 (by kernel_rfl); exact h
        have e13 : A.eval (.tmp 13) = (.slice na nn nc) := (hout 13 (by kernel_rfl)).trans rfl
        refine ifw_want 14 true 66 rfl rfl e66 ?_
        with_reducible refine shown_q (Value.slice na nn nc) ?qq_8_15 (fun _ _ => ?qr_8_15)
        case qr_8_15 => exact (rfl : (Value.slice na nn nc) = (Value.slice na nn nc))
        with_reducible refine quietAt_mv (.tmp 13) (Value.slice na nn nc) ?h0_8_15 ?h1_8_15
        case h0_8_15 => rfl
        case h1_8_15 => exact e13
      · intro A u hu hpu hsz hout hdeps
        have e66 : A.eval (.tmp 66) = (.bool true) := by have h := depL hdeps 14 (by kernel_rfl) 66 (by kernel_rfl); exact h
        have e67 : A.eval (.tmp 67) = (.slice na nn nc) := by have h := depL hdeps 15 (by kernel_rfl) 67 (by kernel_rfl); exact h
        refine ifw_want 14 true 66 rfl rfl e66 ?_
        with_reducible refine shown_q (Value.string (So ++ Sb)) ?qq_8_16 (fun _ _ => ?qr_8_16)
        case qr_8_16 => exact (rfl : (Value.string (So ++ Sb)) = (Value.string (So ++ Sb)))
        with_reducible refine quietAt_cv 33 9 (.tmp 67) (Value.slice na nn nc) (Value.string (So ++ Sb)) ?h0_8_16 ?h1_8_16 ?h2_8_16
        case h0_8_16 => rfl
        case h1_8_16 => exact e67
        case h2_8_16 => exact (HCn.out u hu)
      · intro A u hu hpu hsz hout hdeps
        have e66 : A.eval (.tmp 66) = (.bool true) := by have h := depL hdeps 14 (by kernel_rfl) 66 (by kernel_rfl); exact h
        have e11 : A.eval (.tmp 11) = (.slice oa on' oc) := (hout 11 (by kernel_rfl)).trans rfl
        refine ifw_want 14 true 66 rfl rfl e66 ?_
        with_reducible refine shown_q (Value.slice oa on' oc) ?qq_8_17 (fun _ _ => ?qr_8_17)
        case qr_8_17 => exact (rfl : (Value.slice oa on' oc) = (Value.slice oa on' oc))
        with_reducible refine quietAt_mv (.tmp 11) (Value.slice oa on' oc) ?h0_8_17 ?h1_8_17
        case h0_8_17 => rfl
        case h1_8_17 => exact e11
      · intro A u hu hpu hsz hout hdeps
        have e66 : A.eval (.tmp 66) = (.bool true) := by have h := depL hdeps 14 (by kernel_rfl) 66 (by kernel_rfl); exact h
        have e69 : A.eval (.tmp 69) = (.slice oa on' oc) := by have h := depL hdeps 17 (by kernel_rfl) 69 (by kernel_rfl); exact h
        refine ifw_want 14 true 66 rfl rfl e66 ?_
        with_reducible refine shown_q (Value.string So) ?qq_8_18 (fun _ _ => ?qr_8_18)
        case qr_8_18 => exact (rfl : (Value.string So) = (Value.string So))
        with_reducible refine quietAt_cv 33 9 (.tmp 69) (Value.slice oa on' oc) (Value.string So) ?h0_8_18 ?h1_8_18 ?h2_8_18
        case h0_8_18 => rfl
        case h1_8_18 => exact e69
        case h2_8_18 => exact (HCo.out u hu)
      · intro A u hu hpu hsz hout hdeps
        have e66 : A.eval (.tmp 66) = (.bool true) := by have h := depL hdeps 14 (by kernel_rfl) 66 (by kernel_rfl); exact h
        have e8 : A.eval (.tmp 8) = (.pointer (some ⟨p8, 0, none⟩)) := (hout 8 (by kernel_rfl)).trans rfl
        refine ifw_want 14 true 66 rfl rfl e66 ?_
        with_reducible refine shown_q (Value.pointer (some ⟨p8, 4, none⟩)) ?qq_8_19 (fun _ _ => ?qr_8_19)
        case qr_8_19 => exact (rfl : (Value.pointer (some ⟨p8, 4, none⟩)) = (Value.pointer (some ⟨p8, 4, none⟩)))
        with_reducible refine quietAt_field 36 (.tmp 8) 4 ?h0_8_19 ⟨p8, 0, none⟩ ⟨p8, 4, none⟩ ?h1_8_19 ?h2_8_19
        case h0_8_19 => rfl
        case h1_8_19 => exact e8
        case h2_8_19 => kernel_rfl
      · intro A u hu hpu hsz hout hdeps
        have e66 : A.eval (.tmp 66) = (.bool true) := by have h := depL hdeps 14 (by kernel_rfl) 66 (by kernel_rfl); exact h
        have e71 : A.eval (.tmp 71) = (.pointer (some ⟨p8, 4, none⟩)) := by have h := depL hdeps 19 (by kernel_rfl) 71 (by kernel_rfl); exact h
        refine ifw_want 14 true 66 rfl rfl e66 ?_
        with_reducible refine shown_q (Value.slice ba zz bc) ?qq_8_20 (fun _ _ => ?qr_8_20)
        case qr_8_20 => exact (rfl : (Value.slice ba zz bc) = (Value.slice ba zz bc))
        with_reducible refine quietAt_ld 33 (.tmp 71) (Value.pointer (some ⟨p8, 4, none⟩)) (Value.slice ba zz bc) ?h0_8_20 ?h1_8_20 ?h2_8_20
        case h0_8_20 => rfl
        case h1_8_20 => exact e71
        case h2_8_20 => exact ld33 p8 4 zz bc ba u ((HB1.out.keep hu).cell 4)
      · intro A u hu hpu hsz hout hdeps
        have e66 : A.eval (.tmp 66) = (.bool true) := by have h := depL hdeps 14 (by kernel_rfl) 66 (by kernel_rfl); exact h
        have e15 : A.eval (.tmp 15) = (.int .i64 (zz : Nat)) := (hout 15 (by kernel_rfl)).trans rfl
        refine ifw_want 14 true 66 rfl rfl e66 ?_
        with_reducible refine shown_q (Value.int .i64 (zz : Nat)) ?qq_8_21 (fun _ _ => ?qr_8_21)
        case qr_8_21 => exact (rfl : (Value.int .i64 (zz : Nat)) = (Value.int .i64 (zz : Nat)))
        with_reducible refine quietAt_mv (.tmp 15) (Value.int .i64 (zz : Nat)) ?h0_8_21 ?h1_8_21
        case h0_8_21 => rfl
        case h1_8_21 => exact e15
      · intro A u hu hpu hsz hout hdeps
        have e66 : A.eval (.tmp 66) = (.bool true) := by have h := depL hdeps 14 (by kernel_rfl) 66 (by kernel_rfl); exact h
        have e72 : A.eval (.tmp 72) = (.slice ba zz bc) := by have h := depL hdeps 20 (by kernel_rfl) 72 (by kernel_rfl); exact h
        have e73 : A.eval (.tmp 73) = (.int .i64 (zz : Nat)) := by have h := depL hdeps 21 (by kernel_rfl) 73 (by kernel_rfl); exact h
        refine ifw_want 14 true 66 rfl rfl e66 ?_
        with_reducible refine shown_q (Value.slice ba zz bc) ?qq_8_22 (fun _ _ => ?qr_8_22)
        case qr_8_22 => exact (rfl : (Value.slice ba zz bc) = (Value.slice ba zz bc))
        with_reducible refine quietAt_sliceh 33 (.tmp 72) (.tmp 73) (Value.slice ba zz bc) (Value.int .i64 (zz : Nat)) (Value.slice ba zz bc) ?h0_8_22 ?h1_8_22 ?h2_8_22 ?h3_8_22
        case h0_8_22 => rfl
        case h1_8_22 => exact e72
        case h2_8_22 => exact e73
        case h3_8_22 => exact HSl.out u
      · intro A u hu hpu hsz hout hdeps
        have e66 : A.eval (.tmp 66) = (.bool true) := by have h := depL hdeps 14 (by kernel_rfl) 66 (by kernel_rfl); exact h
        have e74 : A.eval (.tmp 74) = (.slice ba zz bc) := by have h := depL hdeps 22 (by kernel_rfl) 74 (by kernel_rfl); exact h
        refine ifw_want 14 true 66 rfl rfl e66 ?_
        with_reducible refine shown_q (Value.string Sb) ?qq_8_23 (fun _ _ => ?qr_8_23)
        case qr_8_23 => exact (rfl : (Value.string Sb) = (Value.string Sb))
        with_reducible refine quietAt_cv 33 9 (.tmp 74) (Value.slice ba zz bc) (Value.string Sb) ?h0_8_23 ?h1_8_23 ?h2_8_23
        case h0_8_23 => rfl
        case h1_8_23 => exact e74
        case h2_8_23 => exact (HCb.out u hu)
      · intro A u hu hpu hsz hout hdeps
        have e66 : A.eval (.tmp 66) = (.bool true) := by have h := depL hdeps 14 (by kernel_rfl) 66 (by kernel_rfl); exact h
        have e70 : A.eval (.tmp 70) = (.string So) := by have h := depL hdeps 18 (by kernel_rfl) 70 (by kernel_rfl); exact h
        have e75 : A.eval (.tmp 75) = (.string Sb) := by have h := depL hdeps 23 (by kernel_rfl) 75 (by kernel_rfl); exact h
        refine ifw_want 14 true 66 rfl rfl e66 ?_
        with_reducible refine shown_q (Value.string (So ++ Sb)) ?qq_8_24 (fun _ _ => ?qr_8_24)
        case qr_8_24 => exact (rfl : (Value.string (So ++ Sb)) = (Value.string (So ++ Sb)))
        with_reducible refine quietAt_bin .add 9 (.tmp 70) (.tmp 75) 9 (Value.string So) (Value.string Sb) (Value.string (So ++ Sb)) ?h0_8_24 ?h1_8_24 ?h2_8_24 ?h3_8_24
        case h0_8_24 => rfl
        case h1_8_24 => exact e70
        case h2_8_24 => exact e75
        case h3_8_24 => exact HAd.out _ _ u
      · intro A u hu hpu hsz hout hdeps
        have e66 : A.eval (.tmp 66) = (.bool true) := by have h := depL hdeps 14 (by kernel_rfl) 66 (by kernel_rfl); exact h
        have e68 : A.eval (.tmp 68) = (.string (So ++ Sb)) := by have h := depL hdeps 16 (by kernel_rfl) 68 (by kernel_rfl); exact h
        have e76 : A.eval (.tmp 76) = (.string (So ++ Sb)) := by have h := depL hdeps 24 (by kernel_rfl) 76 (by kernel_rfl); exact h
        refine ifw_want 14 true 66 rfl rfl e66 ?_
        with_reducible refine shown_q (Value.bool true) ?qq_8_25 (fun _ _ => ?qr_8_25)
        case qr_8_25 => exact (rfl : (Value.bool true) = (Value.bool true))
        with_reducible refine quietAt_bin .eql 9 (.tmp 68) (.tmp 76) 9 (Value.string (So ++ Sb)) (Value.string (So ++ Sb)) (Value.bool true) ?h0_8_25 ?h1_8_25 ?h2_8_25 ?h3_8_25
        case h0_8_25 => rfl
        case h1_8_25 => exact e68
        case h2_8_25 => exact e76
        case h3_8_25 => exact HEq.out _ _ u
      · intro A u hu hpu hsz hout hdeps
        have e66 : A.eval (.tmp 66) = (.bool true) := by have h := depL hdeps 14 (by kernel_rfl) 66 (by kernel_rfl); exact h
        have e77 : A.eval (.tmp 77) = (.bool true) := by have h := depL hdeps 25 (by kernel_rfl) 77 (by kernel_rfl); exact h
        refine ifw_none rfl ?_
        with_reducible refine shown_q (Value.bool true) ?qq_8_26 (fun _ _ => ?qr_8_26)
        case qr_8_26 => exact (rfl : (Value.bool true) = (Value.bool true))
        with_reducible refine quietAt_pick (.tmp 66) (.tmp 77) (.const (.bool false)) true (Value.bool true) ?h0_8_26 ?h1_8_26 ?h2_8_26
        case h0_8_26 => rfl
        case h1_8_26 => exact e66
        case h2_8_26 => rw [if_pos rfl]; exact e77
      · intro A u hu hpu hsz hout hdeps
        have e78 : A.eval (.tmp 78) = (.bool true) := by have h := depL hdeps 26 (by kernel_rfl) 78 (by kernel_rfl); exact h
        refine ifw_none rfl ?_
        with_reducible refine shown_q (Value.bool true) ?qq_8_27 (fun _ _ => ?qr_8_27)
        case qr_8_27 => exact (rfl : (Value.bool true) = (Value.bool true))
        with_reducible refine quietAt_as (.tmp 78) (Value.bool true) ?h0_8_27 ?h1_8_27
        case h0_8_27 => rfl
        case h1_8_27 => exact e78
      · intro A u8 listed hh hall
        have hA := hh.frame
        have HU := hid hh.grown
        obtain ⟨x52, hx52⟩ : ∃ x, A.eval (.tmp 52) = x := ⟨_, rfl⟩
        have f52 : (fun v _ => v = (Value.slice a0 n0 c0)) x52 u8 := by rw [← hx52]; exact hh.got 0 _ 52 rfl rfl (hall 0 (by decide))
        obtain ⟨x53, hx53⟩ : ∃ x, A.eval (.tmp 53) = x := ⟨_, rfl⟩
        have f53 : (fun v _ => v = (Value.slice a2 n2 c2)) x53 u8 := by rw [← hx53]; exact hh.got 1 _ 53 rfl rfl (hall 1 (by decide))
        obtain ⟨x54, hx54⟩ : ∃ x, A.eval (.tmp 54) = x := ⟨_, rfl⟩
        have f54 : (fun v _ => v = (Value.pointer (some ⟨p8, 2, none⟩))) x54 u8 := by rw [← hx54]; exact hh.got 2 _ 54 rfl rfl (hall 2 (by decide))
        obtain ⟨x55, hx55⟩ : ∃ x, A.eval (.tmp 55) = x := ⟨_, rfl⟩
        have f55 : (fun v _ => v = (Value.string nm)) x55 u8 := by rw [← hx55]; exact hh.got 3 _ 55 rfl rfl (hall 3 (by decide))
        obtain ⟨x56, hx56⟩ : ∃ x, A.eval (.tmp 56) = x := ⟨_, rfl⟩
        have f56 : (fun v _ => v = Value.bool true) x56 u8 := by rw [← hx56]; exact hh.got 4 _ 56 rfl rfl (hall 4 (by decide))
        obtain ⟨x57, hx57⟩ : ∃ x, A.eval (.tmp 57) = x := ⟨_, rfl⟩
        have f57 : (fun v _ => v = Value.bool true) x57 u8 := by rw [← hx57]; exact hh.got 5 _ 57 rfl rfl (hall 5 (by decide))
        obtain ⟨x58, hx58⟩ : ∃ x, A.eval (.tmp 58) = x := ⟨_, rfl⟩
        have f58 : (fun v _ => v = (Value.bool true)) x58 u8 := by rw [← hx58]; exact hh.got 6 _ 58 rfl rfl (hall 6 (by decide))
        obtain ⟨x59, hx59⟩ : ∃ x, A.eval (.tmp 59) = x := ⟨_, rfl⟩
        have f59 : (fun v _ => v = (Value.bool false)) x59 u8 := by rw [← hx59]; exact hh.got 7 _ 59 rfl rfl (hall 7 (by decide))
        obtain ⟨x60, hx60⟩ : ∃ x, A.eval (.tmp 60) = x := ⟨_, rfl⟩
        have f60 : (fun v _ => v = (Value.bool false)) x60 u8 := by rw [← hx60]; exact hh.got 8 _ 60 rfl rfl (hall 8 (by decide))
        obtain ⟨x61, hx61⟩ : ∃ x, A.eval (.tmp 61) = x := ⟨_, rfl⟩
        have f61 : (fun v _ => v = (Value.int .i64 kp)) x61 u8 := by rw [← hx61]; exact hh.got 9 _ 61 rfl rfl (hall 9 (by decide))
        obtain ⟨x62, hx62⟩ : ∃ x, A.eval (.tmp 62) = x := ⟨_, rfl⟩
        have f62 : (fun v _ => v = (Value.bool true)) x62 u8 := by rw [← hx62]; exact hh.got 10 _ 62 rfl rfl (hall 10 (by decide))
        obtain ⟨x63, hx63⟩ : ∃ x, A.eval (.tmp 63) = x := ⟨_, rfl⟩
        have f63 : (fun v _ => v = (Value.bool true)) x63 u8 := by rw [← hx63]; exact hh.got 11 _ 63 rfl rfl (hall 11 (by decide))
        obtain ⟨x64, hx64⟩ : ∃ x, A.eval (.tmp 64) = x := ⟨_, rfl⟩
        have f64 : (fun v _ => v = (Value.bool true)) x64 u8 := by rw [← hx64]; exact hh.got 12 _ 64 rfl rfl (hall 12 (by decide))
        obtain ⟨x65, hx65⟩ : ∃ x, A.eval (.tmp 65) = x := ⟨_, rfl⟩
        have f65 : (fun v _ => v = (Value.bool true)) x65 u8 := by rw [← hx65]; exact hh.got 13 _ 65 rfl rfl (hall 13 (by decide))
        obtain ⟨x66, hx66⟩ : ∃ x, A.eval (.tmp 66) = x := ⟨_, rfl⟩
        have f66 : (fun v _ => v = (Value.bool true)) x66 u8 := by rw [← hx66]; exact hh.got 14 _ 66 rfl rfl (hall 14 (by decide))
        obtain ⟨x67, hx67⟩ : ∃ x, A.eval (.tmp 67) = x := ⟨_, rfl⟩
        have f67 : (fun v _ => v = (Value.slice na nn nc)) x67 u8 := by rw [← hx67]; exact hh.got 15 _ 67 rfl rfl (hall 15 (by decide))
        obtain ⟨x68, hx68⟩ : ∃ x, A.eval (.tmp 68) = x := ⟨_, rfl⟩
        have f68 : (fun v _ => v = (Value.string (So ++ Sb))) x68 u8 := by rw [← hx68]; exact hh.got 16 _ 68 rfl rfl (hall 16 (by decide))
        obtain ⟨x69, hx69⟩ : ∃ x, A.eval (.tmp 69) = x := ⟨_, rfl⟩
        have f69 : (fun v _ => v = (Value.slice oa on' oc)) x69 u8 := by rw [← hx69]; exact hh.got 17 _ 69 rfl rfl (hall 17 (by decide))
        obtain ⟨x70, hx70⟩ : ∃ x, A.eval (.tmp 70) = x := ⟨_, rfl⟩
        have f70 : (fun v _ => v = (Value.string So)) x70 u8 := by rw [← hx70]; exact hh.got 18 _ 70 rfl rfl (hall 18 (by decide))
        obtain ⟨x71, hx71⟩ : ∃ x, A.eval (.tmp 71) = x := ⟨_, rfl⟩
        have f71 : (fun v _ => v = (Value.pointer (some ⟨p8, 4, none⟩))) x71 u8 := by rw [← hx71]; exact hh.got 19 _ 71 rfl rfl (hall 19 (by decide))
        obtain ⟨x72, hx72⟩ : ∃ x, A.eval (.tmp 72) = x := ⟨_, rfl⟩
        have f72 : (fun v _ => v = (Value.slice ba zz bc)) x72 u8 := by rw [← hx72]; exact hh.got 20 _ 72 rfl rfl (hall 20 (by decide))
        obtain ⟨x73, hx73⟩ : ∃ x, A.eval (.tmp 73) = x := ⟨_, rfl⟩
        have f73 : (fun v _ => v = (Value.int .i64 (zz : Nat))) x73 u8 := by rw [← hx73]; exact hh.got 21 _ 73 rfl rfl (hall 21 (by decide))
        obtain ⟨x74, hx74⟩ : ∃ x, A.eval (.tmp 74) = x := ⟨_, rfl⟩
        have f74 : (fun v _ => v = (Value.slice ba zz bc)) x74 u8 := by rw [← hx74]; exact hh.got 22 _ 74 rfl rfl (hall 22 (by decide))
        obtain ⟨x75, hx75⟩ : ∃ x, A.eval (.tmp 75) = x := ⟨_, rfl⟩
        have f75 : (fun v _ => v = (Value.string Sb)) x75 u8 := by rw [← hx75]; exact hh.got 23 _ 75 rfl rfl (hall 23 (by decide))
        obtain ⟨x76, hx76⟩ : ∃ x, A.eval (.tmp 76) = x := ⟨_, rfl⟩
        have f76 : (fun v _ => v = (Value.string (So ++ Sb))) x76 u8 := by rw [← hx76]; exact hh.got 24 _ 76 rfl rfl (hall 24 (by decide))
        obtain ⟨x77, hx77⟩ : ∃ x, A.eval (.tmp 77) = x := ⟨_, rfl⟩
        have f77 : (fun v _ => v = (Value.bool true)) x77 u8 := by rw [← hx77]; exact hh.got 25 _ 77 rfl rfl (hall 25 (by decide))
        obtain ⟨x78, hx78⟩ : ∃ x, A.eval (.tmp 78) = x := ⟨_, rfl⟩
        have f78 : (fun v _ => v = (Value.bool true)) x78 u8 := by rw [← hx78]; exact hh.got 26 _ 78 rfl rfl (hall 26 (by decide))
        obtain ⟨x10, hx10⟩ : ∃ x, A.eval (.tmp 10) = x := ⟨_, rfl⟩
        have f10 : (fun v _ => v = (Value.bool true)) x10 u8 := by rw [← hx10]; exact hh.got 27 _ 10 rfl rfl (hall 27 (by decide))
        dsimp only [wrote, List.foldl] at hA
        rw [hx52, hx53, hx54, hx55, hx56, hx57, hx58, hx59, hx60, hx61, hx62, hx63, hx64, hx65, hx66, hx67, hx68, hx69, hx70, hx71, hx72, hx73, hx74, hx75, hx76, hx77, hx78, hx10] at hA
        clear hh hall hx52 hx53 hx54 hx55 hx56 hx57 hx58 hx59 hx60 hx61 hx62 hx63 hx64 hx65 hx66 hx67 hx68 hx69 hx70 hx71 hx72 hx73 hx74 hx75 hx76 hx77 hx78 hx10
        replace f52 := (f52 : x52 = (.slice a0 n0 c0))
        subst f52
        replace f53 := (f53 : x53 = (.slice a2 n2 c2))
        subst f53
        replace f54 := (f54 : x54 = (.pointer (some ⟨p8, 2, none⟩)))
        subst f54
        replace f55 := (f55 : x55 = (.string nm))
        subst f55
        have e56 := (f56 : _ = Value.bool true)
        subst e56
        have e57 := (f57 : _ = Value.bool true)
        subst e57
        replace f58 := (f58 : x58 = (.bool true))
        subst f58
        replace f59 := (f59 : x59 = (.bool false))
        subst f59
        replace f60 := (f60 : x60 = (.bool false))
        subst f60
        replace f61 := (f61 : x61 = (.int .i64 kp))
        subst f61
        replace f62 := (f62 : x62 = (.bool true))
        subst f62
        replace f63 := (f63 : x63 = (.bool true))
        subst f63
        replace f64 := (f64 : x64 = (.bool true))
        subst f64
        replace f65 := (f65 : x65 = (.bool true))
        subst f65
        replace f66 := (f66 : x66 = (.bool true))
        subst f66
        replace f67 := (f67 : x67 = (.slice na nn nc))
        subst f67
        replace f68 := (f68 : x68 = (.string (So ++ Sb)))
        subst f68
        replace f69 := (f69 : x69 = (.slice oa on' oc))
        subst f69
        replace f70 := (f70 : x70 = (.string So))
        subst f70
        replace f71 := (f71 : x71 = (.pointer (some ⟨p8, 4, none⟩)))
        subst f71
        replace f72 := (f72 : x72 = (.slice ba zz bc))
        subst f72
        replace f73 := (f73 : x73 = (.int .i64 (zz : Nat)))
        subst f73
        replace f74 := (f74 : x74 = (.slice ba zz bc))
        subst f74
        replace f75 := (f75 : x75 = (.string Sb))
        subst f75
        replace f76 := (f76 : x76 = (.string (So ++ Sb)))
        subst f76
        replace f77 := (f77 : x77 = (.bool true))
        subst f77
        replace f78 := (f78 : x78 = (.bool true))
        subst f78
        replace f10 := (f10 : x10 = (.bool true))
        subst f10
        subst hA
        show wpList _ _ _ [] _ _
        unfold wpList
        simp only [Act.put, List.setIfInBounds_toArray, List.set_cons_succ, List.set_cons_zero]
        go_wp2_with fail
        go_ret
        exact ⟨rfl, gtrans HG1.out HU.out⟩
end Go.Proofs.Ytlgjmdianmijeaa
