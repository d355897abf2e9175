/- Append of the reference's disk. -/
import Derived.Test.YtpbiofnncdneoaaGreatDoorX14
namespace Go.Proofs.YtpbiofnncdneoaaGreatDoor
open Go Go.RowKit Go.MapKept Go.MuLone
open Go.RowKit (wrap32 wrap64)

theorem refE_cases (o : Bool) (s : ByteArray) : (o = true ∧ refE o s = 94) ∨ (o = false ∧ goodN s = true ∧ refE o s = 0) ∨ (o = false ∧ goodN s = false ∧ refE o s = 91) := by
 unfold refE
 cases o with
 | true => exact .inl ⟨rfl, rfl⟩
 | false =>
  cases h : goodN s with
  | true => exact .inr (.inl ⟨rfl, rfl, rfl⟩)
  | false => exact .inr (.inr ⟨rfl, rfl, rfl⟩)
variable {w w' w2 : World} {B b : Nat} {A A' : Ab} {P : Nat → Prop} {sv sv' : Value} {E E' : List Fl}
theorem ld66 (b i n c : Nat) (a : Option Addr) (u : World) (h : u.cell? ⟨b, i, none⟩ = some (.slice a n c)) : (Instr.loadAt 110 (.pointer (some ⟨b, i, none⟩))).run Tryz.prog u = .ok (.slice a n c) u := by go_simp
theorem set_same : ∀ {C : Cn} {s : ByteArray} {l : List UInt8}, getC C s = some l → setC C s l = C
 | [], s, l, h => by cases h
 | p :: C, s, l, h => by
  unfold getC at h
  unfold setC
  by_cases e : p.1 = s
  ·rw [if_pos e] at h ⊢
   injection h with h
   rw [← h, ← e]
  ·rw [if_neg e] at h ⊢
   rw [set_same h]
theorem step_build_of {P : Program} {w : World} {ops : Array Oper} {o : Oper} {a : Act} {K : Act → World → Prop} {Q : Exit → Act → World → Prop} {X : Prop} (hgd : o.guard = none) (t : TypeId) (xs : Array (Nat × Operand)) (ho : o.op = .build t xs) (vs : List (Nat × Value)) (hx : (xs.map fun (i, x) => (i, a.eval x)).toList = vs) (z : List Value) (hz : P.built t vs = some z.toArray)
  (h : K (a.put o.dst (.agg z.toArray)) w) : if Region.wanted o (yielded ops a.tmps) = true then Oper.wp P o a w K Q else X := by
 have hw : Region.wanted o (yielded ops a.tmps) = true := by simp [Region.wanted, hgd]
 rw [if_pos hw]
 have e : P.built t (xs.map fun (i, x) => (i, a.eval x)).toList = some z.toArray := by rw [hx]; exact hz
 refine wp_build t xs ho (by rw [e]; rfl) ?_
 rw [e]
 exact h
set_option maxRecDepth 100000 in
set_option maxHeartbeats 8000000 in
theorem rapp_any (h : Rk w B b A sv E) (s : ByteArray) (F : Nat → Prop) (ba : Option Addr) (bn bc : Nat) (l : List UInt8) (hl : Rd w F (.slice ba bn bc) l) (hF : ∀ k, F k → k ≠ b) (hbl : l.length ≤ 140737488355328) (hs : s.size ≤ 140737488355328) (hw : A.wr ≤ 4611686018427387904) :
  Calls Tryz.prog 59 #[.pointer (some ⟨b, 0, none⟩), .string s, .slice ba bn bc] w fun e w' => e = .returned (.int .i64 (A.appE s l)) ∧ REnd w w' B b sv E (A.app s l).sr := by
 have HRf := hid (refused_any h s hs)
 have HPl := hid (place_any h s)
 have HR : Hid (∀ u, w.grownBy u none → Rk u B b A sv E) := hid (fun u hu => h.keep hu)
 have hln : l.length = bn := by obtain ⟨_, _, _, _, e, _⟩ := hl; injection e with _ e _; exact e.symm
 by_cases hr : refE A.off s = 0
 rotate_left
 ·as_aux_lemma =>
  have hE : A.appE s l = refE A.off s := by unfold Ab.appE; rw [if_neg hr]
  have hA : (A.app s l).sr = A := by unfold Ab.app; rw [if_neg (fun q => hr q.1)]; exact sr_self h.srt
  rw [hE, hA]
  obtain ⟨x, hx⟩ : ∃ x, refE A.off s = x := ⟨_, rfl⟩
  rw [hx] at HRf hr ⊢
  have hb : (x == 0) = false := beq_eq_false_iff_ne.2 hr
  clear hx hA hE h
  go_enter Tryz.func59, Tryz.ntmps59
  go_wp2_with (go_at_call 120; (with_reducible refine HRf.out.mono ?_); rintro e w8 ⟨rfl, hw8⟩; have hw8' := hw8.symm; clear hw8; subst hw8')
  go_ret
  exact ⟨rfl, REnd.of (HR.out _ (grefl _ _)) (grefl _ _)⟩
 have hoff : A.off = false := by
  rcases refE_cases A.off s with ⟨_, q⟩ | ⟨q, _⟩ | ⟨q, _⟩
  ·rw [hr] at q; cases q
  ·exact q
  ·exact q
 rw [hr] at HRf
 obtain ⟨p, Hp⟩ : ∃ p, Hid (plc A.C s = p) := ⟨_, hid rfl⟩
 obtain ⟨D, HD⟩ : ∃ D, Hid (isAt A.C s = D) := ⟨_, hid rfl⟩
 have hDs : (getC A.C s).isSome = D := by rw [← isAt_get h.srt s]; exact HD.out
 rw [Hp.out, HD.out] at HPl
 obtain ⟨sa, sg, sc, hsv, -⟩ := h.row.ar
 rw [h.con] at hsv
 have HUs : Hid (∀ u, w.grownBy u none → Calls Tryz.prog 43 #[.pointer (some ⟨b, 0, none⟩)] u fun e w' => ∃ v, e = .returned v ∧ u.grownBy w' none ∧ v = Value.int .i64 (usedC A.C : Nat)) := hid (fun u hu => (rused_any (h.keep hu)).mono fun e w' ⟨q1, q2⟩ => ⟨_, q1, by rw [q2]; exact grefl _ _, rfl⟩)
 have hU := h.ok.used
 have hRm := h.ok.room
 have hLn := h.ok.len
 have HBy : Hid (∀ u X, Rk u B b X sv E → X.C = A.C → Calls Tryz.prog 114 #[.pointer (some ⟨b, 0, none⟩), .string s] u fun e w' => ∃ v, e = .returned v ∧ u.grownBy w' none ∧ ∃ va vc, v = Value.slice va (A.old s).length vc ∧ Out B w' (Value.slice va (A.old s).length vc) (A.old s)) := hid (fun u X hu hX => (rbytes_any hu s).mono fun e w' ⟨v, q1, q2, q3, q4⟩ => by
  rw [hX] at q2
  have q2' : Out B w' v (A.old s) := q2
  obtain ⟨va, vc, rfl⟩ := q2'.len
  exact ⟨_, q1, q4, va, vc, rfl, q2'⟩)
 have hold := rold_le h s
 replace hold : (A.old s).length ≤ 268435456 := hold
 have HTo : Hid (∀ u, w.grownBy u none → Calls Tryz.prog 116 #[.pointer (some ⟨b, 0, none⟩)] u fun e w' => e = .returned (.bool (decide (A.ar = 1))) ∧ Rk w' B b A.tore sv E ∧ u.grownBy w' (some b)) := hid (fun u hu => torn_any (h.keep hu) hoff hw)
 have HRl : Hid (∀ u, w.grownBy u (some b) → Rd u F (.slice ba bn bc) l) := hid (fun u hu => hl.on hu (fun k hk hFk => hF k hFk (by injection hk with hk; exact hk.symm)))
 have HBw : Hid (B ≤ w.heap.size) := hid (by have := h.low; have := h.blk.lt; omega)
 have hbc : bn ≤ bc := by obtain ⟨_, _, _, _, e, ec, _⟩ := hl; injection e with _ e1 e2; omega
 have hbN : ba = none → bc = 0 ∧ bn = 0 := by
  obtain ⟨_, _, _, _, e, ec, en, _⟩ := hl
  injection e with e0 e1 e2
  intro q
  have := en (by rw [← e0]; exact q)
  omega
 have hE0 : A.appE s l = if A.fits s bn = true then wE A.ar else 93 := by unfold Ab.appE; rw [if_pos hr, hln]
 have hA0 : A.app s l = if A.fits s bn = true then A.did (A.appC s l) else A := by
  unfold Ab.app
  rw [hln]
  by_cases q : A.fits s bn = true
  ·rw [if_pos ⟨hr, q⟩, if_pos q]
  ·rw [if_neg (fun z => q z.2), if_neg q]
 have hfit : A.fits s bn = ((D || decide (A.C.length < 64)) && decide ((bn : Int) ≤ A.room - (usedC A.C : Nat))) := by unfold Ab.fits; rw [hDs]
 have HLy : Hid (A.fits s bn = true → ∀ (k : Nat), (0 < wK A.ar A.kp ∧ (min (wK A.ar A.kp) (bn : Int)).toNat = k ∨ wK A.ar A.kp ≤ 0 ∧ D = true ∧ k = 0) → ∀ u fa fn fc, w.grownBy u (some b) → Rk u B b A.tore sv E → Out B u (.slice fa fn fc) (A.old s ++ l.take k) → (∀ k, (Value.slice fa fn fc).ownBlock = some k → w.heap.size ≤ k) → Calls Tryz.prog 44 #[.pointer (some ⟨b, 0, none⟩), .agg [Value.string s, .slice fa fn fc].toArray] u fun e w2 => e = .returned (.tuple #[]) ∧ REnd w w2 B b sv E (A.app s l).sr) := hid (fun hft k hk u fa fn fc hg hR ho hb => by
  have hAe : (A.app s l).sr = A.tore.con (srtC (setC A.C s (A.old s ++ l.take k))) := by
   rw [hA0, if_pos hft, did_sr]
   unfold Ab.appC
   rcases hk with ⟨h1, h2⟩ | ⟨h1, h2, rfl⟩
   ·rw [if_pos h1, hln, h2]; rfl
   ·rw [if_neg (show ¬ 0 < wK A.ar A.kp by omega), List.take_zero, List.append_nil]
    have h3 : getC A.C s = some (A.old s) := by
     unfold Ab.old
     cases hx : getC A.C s with
     | some x => rfl
     | none => rw [hx, h2] at hDs; cases hDs
    rw [set_same h3]
    rfl
  have hok : (A.app s l).sr.ok := by
   have q := appC_ok h.ok (s := s) (l := l) hr (by rw [hln]; exact hft)
   refine ok_sr ?_ ?_
   ·rw [hA0, if_pos hft]; exact h.ok.did q.1 q.2.1 q.2.2
   ·rw [hA0, if_pos hft]
    show NdC (A.appC s l)
    unfold Ab.appC
    split
    ·exact set_nd h.srt.nd _ _
    ·exact h.srt.nd
  rw [hAe] at hok ⊢
  exact lay_end hR s fa fn fc _ ho hok (fun k hk => .inr (hb k hk)) hg)
 have HNo : Hid (A.fits s bn = true → wK A.ar A.kp ≤ 0 → (A.app s l).sr = A.tore) := hid (fun hft hk => by
  rw [hA0, if_pos hft, did_sr]
  unfold Ab.appC
  rw [if_neg (show ¬ 0 < wK A.ar A.kp by omega), srt_self h.srt]
  rfl)
 have HNf : Hid (A.fits s bn = false → (A.app s l).sr = A) := hid (fun hft => by rw [hA0, if_neg (by rw [hft]; decide)]; exact sr_self h.srt)
 obtain ⟨ft, hft⟩ : ∃ x, A.fits s bn = x := ⟨_, rfl⟩
 rw [hft] at HLy HNo HNf hfit hE0
 rw [hE0]
 obtain ⟨ee, hee⟩ : ∃ x, (if ft = true then wE A.ar else 93) = x := ⟨_, rfl⟩
 rw [hee]
 have HE1 : Hid (ft = true → ee = wE A.ar) := hid (fun q => by rw [← hee, if_pos q])
 have HE2 : Hid (ft = false → ee = 93) := hid (fun q => by rw [← hee, q]; rfl)
 clear hee
 have HKp : Hid (∀ u, Rk u B b A.tore sv E → u.cell? ⟨b, 3, none⟩ = some (.int .i64 A.kp)) := hid (fun u hu => hu.blk.cell 3)
 have HY : Hid (∀ u, w.grownBy u none → u.cell? ⟨b, 0, none⟩ = some (.int .i64 A.room) ∧ u.cell? ⟨b, 1, none⟩ = some (.slice sa A.C.length sc)) := hid (fun u hu => ⟨(h.keep hu).blk.cell 0, by have q := (h.keep hu).blk.cell 1; rw [q]; show some sv = _; rw [hsv]⟩)
 obtain ⟨N, hN⟩ : ∃ x, (A.app s l).sr = x := ⟨_, rfl⟩
 rw [hN] at HLy HNo HNf ⊢
 obtain ⟨X, hX⟩ : ∃ x, A.tore = x := ⟨_, rfl⟩
 have HXC : Hid (X.C = A.C) := hid (by rw [← hX]; rfl)
 rw [hX] at HTo HLy HNo HKp
 obtain ⟨rm, hrm⟩ : ∃ x, A.room = x := ⟨_, rfl⟩
 obtain ⟨us, hus⟩ : ∃ x, usedC A.C = x := ⟨_, rfl⟩
 obtain ⟨sn, hsn⟩ : ∃ x, A.C.length = x := ⟨_, rfl⟩
 obtain ⟨ar, har⟩ : ∃ x, A.ar = x := ⟨_, rfl⟩
 obtain ⟨kp, hkp⟩ : ∃ x, A.kp = x := ⟨_, rfl⟩
 obtain ⟨ol, hol⟩ : ∃ x, A.old s = x := ⟨_, rfl⟩
 obtain ⟨on, hon⟩ : ∃ x, ol.length = x := ⟨_, rfl⟩
 rw [hol] at HBy HLy hold
 rw [hon] at HBy hold
 rw [hrm] at hU hRm HY hfit
 rw [hus] at HUs hU hfit
 rw [hsn] at HY hLn hfit
 rw [har] at HTo HLy HNo HE1
 rw [hkp] at HLy HNo HKp
 clear h hX hrm hus hsn har hkp hol hN hft hE0 hA0 hsv hDs hr hw hs hF hl hoff HD Hp
 have HOnl : Hid (ol.length = on ∧ l.length = bn) := hid ⟨hon, hln⟩
 clear hon hln hbl
 have HSub : Hid (∀ (x y : Operand) (u : World), (do eqGuard .sub 3 x y (.int .i64 rm) (.int .i64 (us : Nat)); binOp .sub 3 (.int .i64 rm) (.int .i64 (us : Nat)) : Sem Value).run Tryz.prog u = .ok (.int .i64 (rm - (us : Int))) u) := hid (fun x y u => by
  have e : IntKind.i64.wrap (rm - (us : Int)) = rm - (us : Int) := by rw [IntKind.wrap_i64]; omega
  go_simp)
 go_enter Tryz.func59, Tryz.ntmps59
 go_upto_region 4 with (go_at_call 120; (with_reducible refine HRf.out.mono ?_); rintro e w8 ⟨rfl, hw8⟩; have hw8' := hw8.symm; clear hw8; subst hw8')
 go_upto_region 5 with (go_at_call 41; (with_reducible refine HPl.out.mono ?_); rintro e w5 ⟨rfl, hg⟩; have HG5 := hid hg; clear hg)
 by_cases hov : (bn : Int) ≤ rm - (us : Int)
 ·have HGt : Hid (∀ (x y : Operand) (u : World), (do eqGuard .gtr 3 x y (.int .i64 (bn : Nat)) (.int .i64 (rm - (us : Int))); binOp .gtr 3 (.int .i64 (bn : Nat)) (.int .i64 (rm - (us : Int))) : Sem Value).run Tryz.prog u = .ok (.bool false) u) := hid (fun x y u => by
   have e : ¬ (rm - (us : Int)) < (bn : Int) := by omega
   go_simp)
  cases D with
  | true =>
   have hft : ft = true := by rw [hfit, decide_eq_true hov]; rfl
   subst hft
   clear hfit
   refine wp_region_listX (by kernel_rfl) [fun v _ => v = (Value.bool true), fun v _ => v = (Value.bool false), fun v _ => v = (Value.bool false), fun v _ => v = undef, fun v _ => v = undef, fun v _ => v = undef, fun v _ => v = undef, fun v _ => v = undef, fun v _ => v = undef, fun v _ => v = (Value.bool false), fun v _ => v = (Value.bool false), fun v _ => v = (Value.slice ba bn bc), fun v _ => v = (Value.int .i64 (bn : Nat)), fun v _ => v = (Value.pointer (some ⟨b, 0, none⟩)), fun v _ => v = (Value.pointer (some ⟨b, 0, none⟩)), fun v _ => v = (Value.pointer (some ⟨b, 0, none⟩)), fun v _ => v = (Value.int .i64 rm), fun v _ => v = (Value.pointer (some ⟨b, 0, none⟩)), fun v _ => v = Value.int .i64 (us : Nat), fun v _ => v = (Value.int .i64 (rm - (us : Int))), fun v _ => v = (Value.bool false), fun v _ => v = (Value.bool false)] (none) (fun _ => none) 22 (by kernel_rfl) (by kernel_rfl) (by kernel_rfl) (by kernel_rfl) (by decide) noRow_one (fun _ => .inl rfl) ⟨fun i v u u' hki h hg => h, fun i v u u' hki h hg => h, fun i v u u' hki h hg => h, fun i v u u' hki h hg => h, fun i v u u' hki h hg => h, fun i v u u' hki h hg => h, fun i v u u' hki h hg => h, fun i v u u' hki h hg => h, fun i v u u' hki h hg => h, fun i v u u' hki h hg => h, fun i v u u' hki h hg => h, fun i v u u' hki h hg => h, fun i v u u' hki h hg => h, fun i v u u' hki h hg => h, fun i v u u' hki h hg => h, fun i v u u' hki h hg => h, fun i v u u' hki h hg => h, fun i v u u' hki h hg => h, fun i v u u' hki h hg => h, fun i v u u' hki h hg => h, fun i v u u' hki h hg => h, fun i v u u' hki h hg => h, trivial⟩ ⟨?_, ?_, ?_, ?_, ?_, ?_, ?_, ?_, ?_, ?_, ?_, ?_, ?_, ?_, ?_, ?_, ?_, ?_, ?_, ?_, ?_, ?_, trivial⟩ ?_
   ·intro A u hu hpu hsz hout hdeps
    have e9 : A.eval (.tmp 9) = (.bool true) := (hout 9 (by kernel_rfl)).trans rfl
    refine ifw_none rfl ?_
    with_reducible refine shown_q (Value.bool true) ?qq_1_0 (fun _ _ => ?qr_1_0)
    case qr_1_0 => exact (rfl : (Value.bool true) = (Value.bool true))
    with_reducible refine quietAt_mv (.tmp 9) (Value.bool true) ?h0_1_0 ?h1_1_0
    case h0_1_0 => rfl
    case h1_1_0 => exact e9
   ·intro A u hu hpu hsz hout hdeps
    have e23 : A.eval (.tmp 23) = (.bool true) := by have h := depL hdeps 0 (by kernel_rfl) 23 (by kernel_rfl); exact h
    refine ifw_none rfl ?_
    with_reducible refine shown_q (Value.bool false) ?qq_1_1 (fun _ _ => ?qr_1_1)
    case qr_1_1 => exact (rfl : (Value.bool false) = (Value.bool false))
    with_reducible refine quietAt_un .not 4 (.tmp 23) (Value.bool true) (Value.bool false) ?h0_1_1 ?h1_1_1 ?h2_1_1
    case h0_1_1 => rfl
    case h1_1_1 => exact e23
    case h2_1_1 => rfl
   ·intro A u hu hpu hsz hout hdeps
    have e24 : A.eval (.tmp 24) = (.bool false) := by have h := depL hdeps 1 (by kernel_rfl) 24 (by kernel_rfl); exact h
    refine ifw_none rfl ?_
    with_reducible refine shown_q (Value.bool false) ?qq_1_2 (fun _ _ => ?qr_1_2)
    case qr_1_2 => exact (rfl : (Value.bool false) = (Value.bool false))
    with_reducible refine quietAt_mv (.tmp 24) (Value.bool false) ?h0_1_2 ?h1_1_2
    case h0_1_2 => rfl
    case h1_1_2 => exact e24
   ·intro A u hu hpu hsz hout hdeps
    have e25 : A.eval (.tmp 25) = (.bool false) := by have h := depL hdeps 2 (by kernel_rfl) 25 (by kernel_rfl); exact h
    refine ifw_pass 2 true false 25 rfl rfl e25 (by decide) ?_
    exact rfl
   ·intro A u hu hpu hsz hout hdeps
    have e25 : A.eval (.tmp 25) = (.bool false) := by have h := depL hdeps 2 (by kernel_rfl) 25 (by kernel_rfl); exact h
    refine ifw_pass 2 true false 25 rfl rfl e25 (by decide) ?_
    exact rfl
   ·intro A u hu hpu hsz hout hdeps
    have e25 : A.eval (.tmp 25) = (.bool false) := by have h := depL hdeps 2 (by kernel_rfl) 25 (by kernel_rfl); exact h
    refine ifw_pass 2 true false 25 rfl rfl e25 (by decide) ?_
    exact rfl
   ·intro A u hu hpu hsz hout hdeps
    have e25 : A.eval (.tmp 25) = (.bool false) := by have h := depL hdeps 2 (by kernel_rfl) 25 (by kernel_rfl); exact h
    refine ifw_pass 2 true false 25 rfl rfl e25 (by decide) ?_
    exact rfl
   ·intro A u hu hpu hsz hout hdeps
    have e25 : A.eval (.tmp 25) = (.bool false) := by have h := depL hdeps 2 (by kernel_rfl) 25 (by kernel_rfl); exact h
    refine ifw_pass 2 true false 25 rfl rfl e25 (by decide) ?_
    exact rfl
   ·intro A u hu hpu hsz hout hdeps
    have e25 : A.eval (.tmp 25) = (.bool false) := by have h := depL hdeps 2 (by kernel_rfl) 25 (by kernel_rfl); exact h
    refine ifw_pass 2 true false 25 rfl rfl e25 (by decide) ?_
    exact rfl
   ·intro A u hu hpu hsz hout hdeps
    have e25 : A.eval (.tmp 25) = (.bool false) := by have h := depL hdeps 2 (by kernel_rfl) 25 (by kernel_rfl); exact h
    refine ifw_none rfl ?_
    with_reducible refine shown_q (Value.bool false) ?qq_1_9 (fun _ _ => ?qr_1_9)
    case qr_1_9 => exact (rfl : (Value.bool false) = (Value.bool false))
    with_reducible refine quietAt_pick (.tmp 25) (.tmp 31) (.const (.bool false)) false (Value.bool false) ?h0_1_9 ?h1_1_9 ?h2_1_9
    case h0_1_9 => rfl
    case h1_1_9 => exact e25
    case h2_1_9 => rw [if_neg (by decide)]; exact rfl
   ·intro A u hu hpu hsz hout hdeps
    have e32 : A.eval (.tmp 32) = (.bool false) := by have h := depL hdeps 9 (by kernel_rfl) 32 (by kernel_rfl); exact h
    refine ifw_none rfl ?_
    with_reducible refine shown_q (Value.bool false) ?qq_1_10 (fun _ _ => ?qr_1_10)
    case qr_1_10 => exact (rfl : (Value.bool false) = (Value.bool false))
    with_reducible refine quietAt_mv (.tmp 32) (Value.bool false) ?h0_1_10 ?h1_1_10
    case h0_1_10 => rfl
    case h1_1_10 => exact e32
   ·intro A u hu hpu hsz hout hdeps
    have e33 : A.eval (.tmp 33) = (.bool false) := by have h := depL hdeps 10 (by kernel_rfl) 33 (by kernel_rfl); exact h
    have e2 : A.eval (.tmp 2) = (.slice ba bn bc) := (hout 2 (by kernel_rfl)).trans rfl
    refine ifw_want 10 false 33 rfl rfl e33 ?_
    with_reducible refine shown_q (Value.slice ba bn bc) ?qq_1_11 (fun _ _ => ?qr_1_11)
    case qr_1_11 => exact (rfl : (Value.slice ba bn bc) = (Value.slice ba bn bc))
    with_reducible refine quietAt_mv (.tmp 2) (Value.slice ba bn bc) ?h0_1_11 ?h1_1_11
    case h0_1_11 => rfl
    case h1_1_11 => exact e2
   ·intro A u hu hpu hsz hout hdeps
    have e33 : A.eval (.tmp 33) = (.bool false) := by have h := depL hdeps 10 (by kernel_rfl) 33 (by kernel_rfl); exact h
    have e34 : A.eval (.tmp 34) = (.slice ba bn bc) := by have h := depL hdeps 11 (by kernel_rfl) 34 (by kernel_rfl); exact h
    refine ifw_want 10 false 33 rfl rfl e33 ?_
    with_reducible refine shown_q (Value.int .i64 (bn : Nat)) ?qq_1_12 (fun _ _ => ?qr_1_12)
    case qr_1_12 => exact (rfl : (Value.int .i64 (bn : Nat)) = (Value.int .i64 (bn : Nat)))
    with_reducible refine quietAt_len (.tmp 34) 74 ?h0_1_12 ba bn bc ?h1_1_12 ?h2_1_12
    case h0_1_12 => rfl
    case h1_1_12 => exact e34
    case h2_1_12 => kernel_rfl
   ·intro A u hu hpu hsz hout hdeps
    have e33 : A.eval (.tmp 33) = (.bool false) := by have h := depL hdeps 10 (by kernel_rfl) 33 (by kernel_rfl); exact h
    have e0 : A.eval (.tmp 0) = (.pointer (some ⟨b, 0, none⟩)) := (hout 0 (by kernel_rfl)).trans rfl
    refine ifw_want 10 false 33 rfl rfl e33 ?_
    with_reducible refine shown_q (Value.pointer (some ⟨b, 0, none⟩)) ?qq_1_13 (fun _ _ => ?qr_1_13)
    case qr_1_13 => exact (rfl : (Value.pointer (some ⟨b, 0, none⟩)) = (Value.pointer (some ⟨b, 0, none⟩)))
    with_reducible refine quietAt_mv (.tmp 0) (Value.pointer (some ⟨b, 0, none⟩)) ?h0_1_13 ?h1_1_13
    case h0_1_13 => rfl
    case h1_1_13 => exact e0
   ·intro A u hu hpu hsz hout hdeps
    have e33 : A.eval (.tmp 33) = (.bool false) := by have h := depL hdeps 10 (by kernel_rfl) 33 (by kernel_rfl); exact h
    have e36 : A.eval (.tmp 36) = (.pointer (some ⟨b, 0, none⟩)) := by have h := depL hdeps 13 (by kernel_rfl) 36 (by kernel_rfl); exact h
    refine ifw_want 10 false 33 rfl rfl e33 ?_
    with_reducible refine shown_q (Value.pointer (some ⟨b, 0, none⟩)) ?qq_1_14 (fun _ _ => ?qr_1_14)
    case qr_1_14 => exact (rfl : (Value.pointer (some ⟨b, 0, none⟩)) = (Value.pointer (some ⟨b, 0, none⟩)))
    with_reducible refine quietAt_nil (.tmp 36) ?h0_1_14 ⟨b, 0, none⟩ ?h1_1_14
    case h0_1_14 => rfl
    case h1_1_14 => exact e36
   ·intro A u hu hpu hsz hout hdeps
    have e33 : A.eval (.tmp 33) = (.bool false) := by have h := depL hdeps 10 (by kernel_rfl) 33 (by kernel_rfl); exact h
    have e37 : A.eval (.tmp 37) = (.pointer (some ⟨b, 0, none⟩)) := by have h := depL hdeps 14 (by kernel_rfl) 37 (by kernel_rfl); exact h
    refine ifw_want 10 false 33 rfl rfl e33 ?_
    with_reducible refine shown_q (Value.pointer (some ⟨b, 0, none⟩)) ?qq_1_15 (fun _ _ => ?qr_1_15)
    case qr_1_15 => exact (rfl : (Value.pointer (some ⟨b, 0, none⟩)) = (Value.pointer (some ⟨b, 0, none⟩)))
    with_reducible refine quietAt_field 113 (.tmp 37) 0 ?h0_1_15 ⟨b, 0, none⟩ ⟨b, 0, none⟩ ?h1_1_15 ?h2_1_15
    case h0_1_15 => rfl
    case h1_1_15 => exact e37
    case h2_1_15 => kernel_rfl
   ·intro A u hu hpu hsz hout hdeps
    have e33 : A.eval (.tmp 33) = (.bool false) := by have h := depL hdeps 10 (by kernel_rfl) 33 (by kernel_rfl); exact h
    have e38 : A.eval (.tmp 38) = (.pointer (some ⟨b, 0, none⟩)) := by have h := depL hdeps 15 (by kernel_rfl) 38 (by kernel_rfl); exact h
    refine ifw_want 10 false 33 rfl rfl e33 ?_
    with_reducible refine shown_q (Value.int .i64 rm) ?qq_1_16 (fun _ _ => ?qr_1_16)
    case qr_1_16 => exact (rfl : (Value.int .i64 rm) = (Value.int .i64 rm))
    with_reducible refine quietAt_ld 3 (.tmp 38) (Value.pointer (some ⟨b, 0, none⟩)) (Value.int .i64 rm) ?h0_1_16 ?h1_1_16 ?h2_1_16
    case h0_1_16 => rfl
    case h1_1_16 => exact e38
    case h2_1_16 => exact ld3 b 0 rm u (HY.out u (gtrans HG5.out hu)).1
   ·intro A u hu hpu hsz hout hdeps
    have e33 : A.eval (.tmp 33) = (.bool false) := by have h := depL hdeps 10 (by kernel_rfl) 33 (by kernel_rfl); exact h
    have e0 : A.eval (.tmp 0) = (.pointer (some ⟨b, 0, none⟩)) := (hout 0 (by kernel_rfl)).trans rfl
    refine ifw_want 10 false 33 rfl rfl e33 ?_
    with_reducible refine shown_q (Value.pointer (some ⟨b, 0, none⟩)) ?qq_1_17 (fun _ _ => ?qr_1_17)
    case qr_1_17 => exact (rfl : (Value.pointer (some ⟨b, 0, none⟩)) = (Value.pointer (some ⟨b, 0, none⟩)))
    with_reducible refine quietAt_mv (.tmp 0) (Value.pointer (some ⟨b, 0, none⟩)) ?h0_1_17 ?h1_1_17
    case h0_1_17 => rfl
    case h1_1_17 => exact e0
   ·intro A u hu hpu hsz hout hdeps
    have e33 : A.eval (.tmp 33) = (.bool false) := by have h := depL hdeps 10 (by kernel_rfl) 33 (by kernel_rfl); exact h
    have e40 : A.eval (.tmp 40) = (.pointer (some ⟨b, 0, none⟩)) := by have h := depL hdeps 17 (by kernel_rfl) 40 (by kernel_rfl); exact h
    refine ifw_want 10 false 33 rfl rfl e33 ?_
    with_reducible refine shown_call 43 Tryz.f43 ?h0_1_18 ?h1_1_18 ?h2_1_18 #[.tmp 40] #[30] ?h3_1_18 #[(Value.pointer (some ⟨b, 0, none⟩))] ?h4_1_18 ?h5_1_18
    case h0_1_18 => exact Tryz.func43
    case h1_1_18 => kernel_rfl
    case h2_1_18 => kernel_rfl
    case h3_1_18 => rfl
    case h4_1_18 => exact map1 _ _ _ e40
    case h5_1_18 => exact HUs.out u (gtrans HG5.out hu)
   ·intro A u hu hpu hsz hout hdeps
    have e33 : A.eval (.tmp 33) = (.bool false) := by have h := depL hdeps 10 (by kernel_rfl) 33 (by kernel_rfl); exact h
    have e39 : A.eval (.tmp 39) = (.int .i64 rm) := by have h := depL hdeps 16 (by kernel_rfl) 39 (by kernel_rfl); exact h
    have f41 : (fun v _ => v = Value.int .i64 (us : Nat)) (A.eval (.tmp 41)) u := by have h := depL hdeps 18 (by kernel_rfl) 41 (by kernel_rfl); exact h
    have e41 := (f41 : _ = Value.int .i64 (us : Nat))
    refine ifw_want 10 false 33 rfl rfl e33 ?_
    with_reducible refine shown_q (Value.int .i64 (rm - (us : Int))) ?qq_1_19 (fun _ _ => ?qr_1_19)
    case qr_1_19 => exact (rfl : (Value.int .i64 (rm - (us : Int))) = (Value.int .i64 (rm - (us : Int))))
    with_reducible refine quietAt_bin .sub 3 (.tmp 39) (.tmp 41) 3 (Value.int .i64 rm) (Value.int .i64 (us : Nat)) (Value.int .i64 (rm - (us : Int))) ?h0_1_19 ?h1_1_19 ?h2_1_19 ?h3_1_19
    case h0_1_19 => rfl
    case h1_1_19 => exact e39
    case h2_1_19 => exact e41
    case h3_1_19 => exact HSub.out _ _ u
   ·intro A u hu hpu hsz hout hdeps
    have e33 : A.eval (.tmp 33) = (.bool false) := by have h := depL hdeps 10 (by kernel_rfl) 33 (by kernel_rfl); exact h
    have e35 : A.eval (.tmp 35) = (.int .i64 (bn : Nat)) := by have h := depL hdeps 12 (by kernel_rfl) 35 (by kernel_rfl); exact h
    have e42 : A.eval (.tmp 42) = (.int .i64 (rm - (us : Int))) := by have h := depL hdeps 19 (by kernel_rfl) 42 (by kernel_rfl); exact h
    refine ifw_want 10 false 33 rfl rfl e33 ?_
    with_reducible refine shown_q (Value.bool false) ?qq_1_20 (fun _ _ => ?qr_1_20)
    case qr_1_20 => exact (rfl : (Value.bool false) = (Value.bool false))
    with_reducible refine quietAt_bin .gtr 3 (.tmp 35) (.tmp 42) 3 (Value.int .i64 (bn : Nat)) (Value.int .i64 (rm - (us : Int))) (Value.bool false) ?h0_1_20 ?h1_1_20 ?h2_1_20 ?h3_1_20
    case h0_1_20 => rfl
    case h1_1_20 => exact e35
    case h2_1_20 => exact e42
    case h3_1_20 => exact HGt.out _ _ u
   ·intro A u hu hpu hsz hout hdeps
    have e33 : A.eval (.tmp 33) = (.bool false) := by have h := depL hdeps 10 (by kernel_rfl) 33 (by kernel_rfl); exact h
    have e43 : A.eval (.tmp 43) = (.bool false) := by have h := depL hdeps 20 (by kernel_rfl) 43 (by kernel_rfl); exact h
    refine ifw_none rfl ?_
    with_reducible refine shown_q (Value.bool false) ?qq_1_21 (fun _ _ => ?qr_1_21)
    case qr_1_21 => exact (rfl : (Value.bool false) = (Value.bool false))
    with_reducible refine quietAt_pick (.tmp 33) (.const (.bool true)) (.tmp 43) false (Value.bool false) ?h0_1_21 ?h1_1_21 ?h2_1_21
    case h0_1_21 => rfl
    case h1_1_21 => exact e33
    case h2_1_21 => rw [if_neg (by decide)]; exact e43
   ·intro A u8 listed hh hall
    have hA := hh.frame
    have HU := hid hh.grown
    obtain ⟨x23, hx23⟩ : ∃ x, A.eval (.tmp 23) = x := ⟨_, rfl⟩
    have f23 : (fun v _ => v = (Value.bool true)) x23 u8 := by rw [← hx23]; exact hh.got 0 _ 23 rfl rfl (hall 0 (by decide))
    obtain ⟨x24, hx24⟩ : ∃ x, A.eval (.tmp 24) = x := ⟨_, rfl⟩
    have f24 : (fun v _ => v = (Value.bool false)) x24 u8 := by rw [← hx24]; exact hh.got 1 _ 24 rfl rfl (hall 1 (by decide))
    obtain ⟨x25, hx25⟩ : ∃ x, A.eval (.tmp 25) = x := ⟨_, rfl⟩
    have f25 : (fun v _ => v = (Value.bool false)) x25 u8 := by rw [← hx25]; exact hh.got 2 _ 25 rfl rfl (hall 2 (by decide))
    obtain ⟨x26, hx26⟩ : ∃ x, A.eval (.tmp 26) = x := ⟨_, rfl⟩
    have f26 : (fun v _ => v = undef) x26 u8 := by rw [← hx26]; exact hh.got 3 _ 26 rfl rfl (hall 3 (by decide))
    obtain ⟨x27, hx27⟩ : ∃ x, A.eval (.tmp 27) = x := ⟨_, rfl⟩
    have f27 : (fun v _ => v = undef) x27 u8 := by rw [← hx27]; exact hh.got 4 _ 27 rfl rfl (hall 4 (by decide))
    obtain ⟨x28, hx28⟩ : ∃ x, A.eval (.tmp 28) = x := ⟨_, rfl⟩
    have f28 : (fun v _ => v = undef) x28 u8 := by rw [← hx28]; exact hh.got 5 _ 28 rfl rfl (hall 5 (by decide))
    obtain ⟨x29, hx29⟩ : ∃ x, A.eval (.tmp 29) = x := ⟨_, rfl⟩
    have f29 : (fun v _ => v = undef) x29 u8 := by rw [← hx29]; exact hh.got 6 _ 29 rfl rfl (hall 6 (by decide))
    obtain ⟨x30, hx30⟩ : ∃ x, A.eval (.tmp 30) = x := ⟨_, rfl⟩
    have f30 : (fun v _ => v = undef) x30 u8 := by rw [← hx30]; exact hh.got 7 _ 30 rfl rfl (hall 7 (by decide))
    obtain ⟨x31, hx31⟩ : ∃ x, A.eval (.tmp 31) = x := ⟨_, rfl⟩
    have f31 : (fun v _ => v = undef) x31 u8 := by rw [← hx31]; exact hh.got 8 _ 31 rfl rfl (hall 8 (by decide))
    obtain ⟨x32, hx32⟩ : ∃ x, A.eval (.tmp 32) = x := ⟨_, rfl⟩
    have f32 : (fun v _ => v = (Value.bool false)) x32 u8 := by rw [← hx32]; exact hh.got 9 _ 32 rfl rfl (hall 9 (by decide))
    obtain ⟨x33, hx33⟩ : ∃ x, A.eval (.tmp 33) = x := ⟨_, rfl⟩
    have f33 : (fun v _ => v = (Value.bool false)) x33 u8 := by rw [← hx33]; exact hh.got 10 _ 33 rfl rfl (hall 10 (by decide))
    obtain ⟨x34, hx34⟩ : ∃ x, A.eval (.tmp 34) = x := ⟨_, rfl⟩
    have f34 : (fun v _ => v = (Value.slice ba bn bc)) x34 u8 := by rw [← hx34]; exact hh.got 11 _ 34 rfl rfl (hall 11 (by decide))
    obtain ⟨x35, hx35⟩ : ∃ x, A.eval (.tmp 35) = x := ⟨_, rfl⟩
    have f35 : (fun v _ => v = (Value.int .i64 (bn : Nat))) x35 u8 := by rw [← hx35]; exact hh.got 12 _ 35 rfl rfl (hall 12 (by decide))
    obtain ⟨x36, hx36⟩ : ∃ x, A.eval (.tmp 36) = x := ⟨_, rfl⟩
    have f36 : (fun v _ => v = (Value.pointer (some ⟨b, 0, none⟩))) x36 u8 := by rw [← hx36]; exact hh.got 13 _ 36 rfl rfl (hall 13 (by decide))
    obtain ⟨x37, hx37⟩ : ∃ x, A.eval (.tmp 37) = x := ⟨_, rfl⟩
    have f37 : (fun v _ => v = (Value.pointer (some ⟨b, 0, none⟩))) x37 u8 := by rw [← hx37]; exact hh.got 14 _ 37 rfl rfl (hall 14 (by decide))
    obtain ⟨x38, hx38⟩ : ∃ x, A.eval (.tmp 38) = x := ⟨_, rfl⟩
    have f38 : (fun v _ => v = (Value.pointer (some ⟨b, 0, none⟩))) x38 u8 := by rw [← hx38]; exact hh.got 15 _ 38 rfl rfl (hall 15 (by decide))
    obtain ⟨x39, hx39⟩ : ∃ x, A.eval (.tmp 39) = x := ⟨_, rfl⟩
    have f39 : (fun v _ => v = (Value.int .i64 rm)) x39 u8 := by rw [← hx39]; exact hh.got 16 _ 39 rfl rfl (hall 16 (by decide))
    obtain ⟨x40, hx40⟩ : ∃ x, A.eval (.tmp 40) = x := ⟨_, rfl⟩
    have f40 : (fun v _ => v = (Value.pointer (some ⟨b, 0, none⟩))) x40 u8 := by rw [← hx40]; exact hh.got 17 _ 40 rfl rfl (hall 17 (by decide))
    obtain ⟨x41, hx41⟩ : ∃ x, A.eval (.tmp 41) = x := ⟨_, rfl⟩
    have f41 : (fun v _ => v = Value.int .i64 (us : Nat)) x41 u8 := by rw [← hx41]; exact hh.got 18 _ 41 rfl rfl (hall 18 (by decide))
    obtain ⟨x42, hx42⟩ : ∃ x, A.eval (.tmp 42) = x := ⟨_, rfl⟩
    have f42 : (fun v _ => v = (Value.int .i64 (rm - (us : Int)))) x42 u8 := by rw [← hx42]; exact hh.got 19 _ 42 rfl rfl (hall 19 (by decide))
    obtain ⟨x43, hx43⟩ : ∃ x, A.eval (.tmp 43) = x := ⟨_, rfl⟩
    have f43 : (fun v _ => v = (Value.bool false)) x43 u8 := by rw [← hx43]; exact hh.got 20 _ 43 rfl rfl (hall 20 (by decide))
    obtain ⟨x44, hx44⟩ : ∃ x, A.eval (.tmp 44) = x := ⟨_, rfl⟩
    have f44 : (fun v _ => v = (Value.bool false)) x44 u8 := by rw [← hx44]; exact hh.got 21 _ 44 rfl rfl (hall 21 (by decide))
    dsimp only [wrote, List.foldl] at hA
    rw [hx23, hx24, hx25, hx26, hx27, hx28, hx29, hx30, hx31, hx32, hx33, hx34, hx35, hx36, hx37, hx38, hx39, hx40, hx41, hx42, hx43, hx44] at hA
    clear hh hall hx23 hx24 hx25 hx26 hx27 hx28 hx29 hx30 hx31 hx32 hx33 hx34 hx35 hx36 hx37 hx38 hx39 hx40 hx41 hx42 hx43 hx44
    replace f23 := (f23 : x23 = (.bool true))
    subst f23
    replace f24 := (f24 : x24 = (.bool false))
    subst f24
    replace f25 := (f25 : x25 = (.bool false))
    subst f25
    replace f26 := (f26 : x26 = undef)
    subst f26
    replace f27 := (f27 : x27 = undef)
    subst f27
    replace f28 := (f28 : x28 = undef)
    subst f28
    replace f29 := (f29 : x29 = undef)
    subst f29
    replace f30 := (f30 : x30 = undef)
    subst f30
    replace f31 := (f31 : x31 = undef)
    subst f31
    replace f32 := (f32 : x32 = (.bool false))
    subst f32
    replace f33 := (f33 : x33 = (.bool false))
    subst f33
    replace f34 := (f34 : x34 = (.slice ba bn bc))
    subst f34
    replace f35 := (f35 : x35 = (.int .i64 (bn : Nat)))
    subst f35
    replace f36 := (f36 : x36 = (.pointer (some ⟨b, 0, none⟩)))
    subst f36
    replace f37 := (f37 : x37 = (.pointer (some ⟨b, 0, none⟩)))
    subst f37
    replace f38 := (f38 : x38 = (.pointer (some ⟨b, 0, none⟩)))
    subst f38
    replace f39 := (f39 : x39 = (.int .i64 rm))
    subst f39
    replace f40 := (f40 : x40 = (.pointer (some ⟨b, 0, none⟩)))
    subst f40
    have e41 := (f41 : _ = Value.int .i64 (us : Nat))
    subst e41
    replace f42 := (f42 : x42 = (.int .i64 (rm - (us : Int))))
    subst f42
    replace f43 := (f43 : x43 = (.bool false))
    subst f43
    replace f44 := (f44 : x44 = (.bool false))
    subst f44
    subst hA
    show wpList _ _ _ [] _ _
    unfold wpList
    simp only [Act.put, List.setIfInBounds_toArray, List.set_cons_succ, List.set_cons_zero]
    have HG6 : Hid (w.grownBy u8 none) := hid (gtrans HG5.out HU.out)
    by_cases h1 : ar = 1
    rotate_left
    ·as_aux_lemma =>
     have e1 : wK ar kp = 9223372036854775807 := by unfold wK; rw [if_neg h1]
     have e2 : wE ar = 0 := by unfold wE; rw [if_neg h1]
     have HEe : Hid (ee = 0) := hid (by rw [HE1.out rfl, e2])
     rw [decide_eq_false h1] at HTo
     have HLk := hid (HLy.out rfl bn (.inl ⟨by rw [e1]; decide, by rw [e1]; omega⟩))
     have HTk : Hid (l.take bn = l) := hid (List.take_of_length_le (by have := HOnl.out.2; omega))
     rw [HTk.out] at HLk
     go_upto_region 8 with (go_at_call 116; (with_reducible refine (HTo.out _ HG6.out).mono ?_); rintro e w7 ⟨rfl, hr, hg⟩; have HR7 := hid hr; have HG7 := hid (gtrans (gany HG6.out _) hg); have y3 := HKp.out w7 hr; clear hr hg)
     go_wp2_with (first
      | (go_at_call 114; (with_reducible refine (HBy.out _ _ HR7.out HXC.out).mono ?_); rintro e w8 ⟨v8, rfl, hg, va, vc, rfl, ho⟩; have HO8 := hid ho; have HG8 := hid (gtrans HG7.out (gany hg _)); have HR8 := hid (HR7.out.keep hg); clear ho hg)
      | (go_at_call 100; (with_reducible refine (copyR_any _ _ _ _ HO8.out.rd (by have := HOnl.out.1; omega)).mono ?_); rintro e w9 ⟨v9, rfl, ho, hg⟩; obtain ⟨a9, c9, rfl⟩ := ho.len; have HO9 := hid ho; have HG9 := hid hg; clear ho hg)
      | (at_builtin; (refine wpList_append_at rfl _ _ rfl w8.heap.size F ol l HO9.out (HRl.out _ (gtrans HG8.out (gany HG9.out _))) (by have := HOnl.out; omega) HG9.out.size ?_); intro v10 w10 ho hg hb; obtain ⟨a10, c10, hv10⟩ := ho.len; obtain ⟨n10, Hn10⟩ : ∃ x, Hid ((ol ++ l).length = x) := ⟨_, hid rfl⟩; rw [Hn10.out] at hv10; subst hv10; have HO10 := hid ho; have HG10 : Hid (w8.grownBy w10 none) := hid (HG9.out.andThen hg (fun j hj => .inl (HO9.out.block j hj))); clear ho hg hb)
      | (with_reducible refine wpList_build_of (by with_unfolding_all rfl) 117 _ (by with_unfolding_all rfl) [(0, .string s), (1, .slice a10 n10 c10)] (by with_unfolding_all rfl) [Value.string s, .slice a10 n10 c10] (built130 s a10 n10 c10) ?_)
      | (go_at_call 44; (with_reducible refine (HLk.out _ _ _ _ (gtrans HG8.out (gany HG10.out _)) (HR8.out.keep HG10.out) (HO10.out.below (by have h1 := HBw.out; have h2 := HG8.out.size; omega)) (fun k hk => by have h1 := HO10.out.block k hk; have h2 := HG8.out.size; omega)).mono ?_); rintro e w11 ⟨rfl, hr⟩; have HR11 := hid hr; clear hr))
     go_ret
     exact ⟨by rw [HEe.out]; rfl, HR11.out⟩
    subst h1
    have e1 : wK 1 kp = kp := rfl
    have HEe : Hid (ee = 94) := hid (HE1.out rfl)
    rw [e1] at HLy HNo
    have hd : decide ((1 : Int) = 1) = true := rfl
    rw [hd] at HTo
    by_cases hkn : kp < 0
    ·as_aux_lemma =>
     have hk1 : ¬ (bn : Int) < kp := by omega
     have hk0 : kp < 0 := hkn
     have hk3 : ¬ (0 : Int) < kp := by omega
     have HLk := hid (HLy.out rfl 0 (.inr ⟨by omega, rfl, rfl⟩))
     go_upto_region 16 with (go_at_call 116; (with_reducible refine (HTo.out _ HG6.out).mono ?_); rintro e w7 ⟨rfl, hr, hg⟩; have HR7 := hid hr; have HG7 := hid (gtrans (gany HG6.out _) hg); have y3 := HKp.out w7 hr; clear hr hg)
     have HSl : ∀ u : World, (Instr.sliceAt 74 (.slice ba bn bc) none (some (.int .i64 (0 : Nat))) none).run Tryz.prog u = .ok (.slice ba 0 bc) u := fun u => sliceh_run ba bn bc 0 (by omega) u
     obtain ⟨x7, hx7⟩ : ∃ x, w7.drew = x := ⟨_, rfl⟩
     have HD7 : Hid (w7.grownBy x7 none) := hid (by rw [← hx7]; exact gdrew1 _ _)
     have HRx := hid (HR7.out.keep HD7.out)
     refine wp_calm ?_
     refine wp_region_held_drew (S := (fun _ => True)) (by kernel_rfl) ?_ (fun hHeld => ?_)
     ·exact trivial
     rw [hx7]
     clear hx7
     have hS8 : True := trivial
     refine wpAnyH_take (i := 0) (oi := { dst := some 78, op := Op.move (Operand.tmp 0), type := 30, pos := "posternref9.go:152", after := #[], guard := none }) (v := (.pointer (some ⟨b, 0, none⟩))) rfl (by kernel_rfl) (by kernel_rfl) (by kernel_rfl) (fun _ _ _ h => by cases h.1) (Or.inl ⟨by rfl, by intro u hSu; go_simp⟩) (by assumption) ?_
     (try simp only [Act.put, List.setIfInBounds_toArray, List.set_cons_zero, List.set_cons_succ])
     refine wpAnyH_take (i := 1) (oi := { dst := some 79, op := Op.move (Operand.tmp 1), type := 9, pos := "posternref9.go:152", after := #[], guard := none }) (v := (.string s)) rfl (by kernel_rfl) (by kernel_rfl) (by kernel_rfl) (fun _ _ _ h => by cases h.1) (Or.inl ⟨by rfl, by intro u hSu; go_simp⟩) (by assumption) ?_
     (try simp only [Act.put, List.setIfInBounds_toArray, List.set_cons_zero, List.set_cons_succ])
     refine wpAnyH_take (i := 2) (oi := { dst := some 80, op := Op.move (Operand.tmp 0), type := 30, pos := "posternref9.go:152", after := #[], guard := none }) (v := (.pointer (some ⟨b, 0, none⟩))) rfl (by kernel_rfl) (by kernel_rfl) (by kernel_rfl) (fun _ _ _ h => by cases h.1) (Or.inl ⟨by rfl, by intro u hSu; go_simp⟩) (by assumption) ?_
     (try simp only [Act.put, List.setIfInBounds_toArray, List.set_cons_zero, List.set_cons_succ])
     refine wpAnyH_take (i := 3) (oi := { dst := some 81, op := Op.move (Operand.tmp 1), type := 9, pos := "posternref9.go:152", after := #[], guard := none }) (v := (.string s)) rfl (by kernel_rfl) (by kernel_rfl) (by kernel_rfl) (fun _ _ _ h => by cases h.1) (Or.inl ⟨by rfl, by intro u hSu; go_simp⟩) (by assumption) ?_
     (try simp only [Act.put, List.setIfInBounds_toArray, List.set_cons_zero, List.set_cons_succ])
     refine wpAnyH_take (i := 6) (oi := { dst := some 84, op := Op.move (Operand.tmp 2), type := 74, pos := "posternref9.go:152", after := #[], guard := none }) (v := (.slice ba bn bc)) rfl (by kernel_rfl) (by kernel_rfl) (by kernel_rfl) (fun _ _ _ h => by cases h.1) (Or.inl ⟨by rfl, by intro u hSu; go_simp⟩) (by assumption) ?_
     (try simp only [Act.put, List.setIfInBounds_toArray, List.set_cons_zero, List.set_cons_succ])
     refine wpAnyH_take (i := 7) (oi := { dst := some 85, op := Op.move (Operand.tmp 10), type := 3, pos := "posternref9.go:152", after := #[], guard := none }) (v := (.int .i64 (0 : Nat))) rfl (by kernel_rfl) (by kernel_rfl) (by kernel_rfl) (fun _ _ _ h => by cases h.1) (Or.inl ⟨by rfl, by intro u hSu; go_simp⟩) (by assumption) ?_
     (try simp only [Act.put, List.setIfInBounds_toArray, List.set_cons_zero, List.set_cons_succ])
     refine wpAnyH_take (i := 8) (oi := { dst := some 86, op := Op.slice 74 (Operand.tmp 84) none (some (Operand.tmp 85)) none, type := 74, pos := "posternref9.go:152", after := #[{ on := 6, ground := Ground.data }, { on := 7, ground := Ground.data }], guard := none }) (v := (.slice ba 0 bc)) rfl (by kernel_rfl) (by kernel_rfl) (by kernel_rfl) (fun _ _ _ h => by cases h.1) (yieldsIf_sliceh rfl 74 (.tmp 84) (.tmp 85) rfl _ _ _ rfl rfl (fun u => HSl u)) (by assumption) ?_
     (try simp only [Act.put, List.setIfInBounds_toArray, List.set_cons_zero, List.set_cons_succ])
     refine wpAnyH_ready (rs := [4]) (by kernel_rfl) (by simp) ?_
     refine AllReadyH.cons (o := { dst := some 82, op := Op.call { callee := Callee.value (Operand.func 114), args := #[Operand.tmp 80, Operand.tmp 81], argTypes := #[30, 9] }, type := 74, pos := "posternref9.go:152", after := #[{ on := 2, ground := Ground.data }, { on := 3, ground := Ground.data }], guard := none }) rfl (fun K hK => ?_) AllReadyH.nil
     go_simp
     go_wp2_with (go_at_call 114; (with_reducible refine (HBy.out _ _ HRx.out HXC.out).mono ?_); rintro e w8 ⟨v8, rfl, hg, va, vc, rfl, ho⟩; have HO8 := hid ho; have HG8 := hid (gtrans HD7.out hg); have HR8 := hid (HRx.out.keep hg); clear ho hg)
     refine hK.out _ _ ?_ (fun hHeld => ?_)
     ·exact trivial
     clear hK K
     (try simp only [Act.put, List.setIfInBounds_toArray, List.set_cons_zero, List.set_cons_succ])
     refine wpAnyH_ready (rs := [5]) (by kernel_rfl) (by simp) ?_
     refine AllReadyH.cons (o := { dst := some 83, op := Op.call { callee := Callee.value (Operand.func 100), args := #[Operand.tmp 82], argTypes := #[74] }, type := 74, pos := "posternref9.go:152", after := #[{ on := 4, ground := Ground.data }, { on := 4, ground := Ground.chain }], guard := none }) rfl (fun K hK => ?_) AllReadyH.nil
     go_simp
     go_wp2_with (go_at_call 100; (with_reducible refine (copyR_any _ _ _ _ HO8.out.rd (by have := HOnl.out.1; omega)).mono ?_); rintro e w9 ⟨v9, rfl, ho, hg⟩; obtain ⟨a9, c9, rfl⟩ := ho.len; have HO9 := hid ho; have HG9 := hid hg; clear ho hg)
     refine hK.out _ _ ?_ (fun hHeld => ?_)
     ·exact trivial
     clear hK K
     (try simp only [Act.put, List.setIfInBounds_toArray, List.set_cons_zero, List.set_cons_succ])
     refine wpAnyH_ready (rs := [9]) (by kernel_rfl) (by simp) ?_
     refine AllReadyH.cons (o := { dst := some 87, op := Op.call { callee := Callee.builtin Builtin.append, args := #[Operand.tmp 83, Operand.tmp 86], argTypes := #[74, 74] }, type := 74, pos := "posternref9.go:152", after := #[{ on := 5, ground := Ground.data }, { on := 8, ground := Ground.data }, { on := 5, ground := Ground.chain }], guard := none }) rfl (fun K hK => ?_) AllReadyH.nil
     refine step_append_at rfl (.tmp 83) (.tmp 86) rfl w8.heap.size F ol (l.take 0) HO9.out ((HRl.out _ (gtrans (gtrans HG7.out (gany HG8.out _)) (gany HG9.out _))).take (by omega)) (by rw [List.length_take]; have := HOnl.out; omega) HG9.out.size ?_
     intro v10 w10 ho hg hb
     obtain ⟨a10, c10, hv10⟩ := ho.len
     obtain ⟨n10, Hn10⟩ : ∃ x, Hid ((ol ++ l.take 0).length = x) := ⟨_, hid rfl⟩
     rw [Hn10.out] at hv10
     subst hv10
     have HO10 := hid ho
     have HG10 : Hid (w8.grownBy w10 none) := hid (HG9.out.andThen hg (fun j hj => .inl (HO9.out.block j hj)))
     clear ho hg hb
     refine hK.out _ _ ?_ (fun hHeld => ?_)
     ·exact trivial
     clear hK K
     (try simp only [Act.put, List.setIfInBounds_toArray, List.set_cons_zero, List.set_cons_succ])
     refine wpAnyH_ready (rs := [10]) (by kernel_rfl) (by simp) ?_
     refine AllReadyH.cons (o := { dst := some 88, op := Op.build 117 #[(0, Operand.tmp 79), (1, Operand.tmp 87)], type := 117, pos := "posternref9.go:152", after := #[{ on := 1, ground := Ground.data }, { on := 9, ground := Ground.data }], guard := none }) rfl (fun K hK => ?_) AllReadyH.nil
     refine step_build_of rfl 117 #[(0, .tmp 79), (1, .tmp 87)] rfl [(0, .string s), (1, .slice a10 n10 c10)] (by with_unfolding_all rfl) [Value.string s, .slice a10 n10 c10] (built130 s a10 n10 c10) ?_
     refine hK.out _ _ ?_ (fun hHeld => ?_)
     ·exact trivial
     clear hK K
     (try simp only [Act.put, List.setIfInBounds_toArray, List.set_cons_zero, List.set_cons_succ])
     refine wpAnyH_ready (rs := [11]) (by kernel_rfl) (by simp) ?_
     refine AllReadyH.cons (o := { dst := some 89, op := Op.call { callee := Callee.value (Operand.func 44), args := #[Operand.tmp 78, Operand.tmp 88], argTypes := #[30, 117] }, type := 0, pos := "posternref9.go:152", after := #[{ on := 0, ground := Ground.data }, { on := 10, ground := Ground.data }, { on := 9, ground := Ground.chain }], guard := none }) rfl (fun K hK => ?_) AllReadyH.nil
     go_simp
     go_wp2_with (go_at_call 44; (with_reducible refine (HLk.out _ _ _ _ (gtrans (gtrans HG7.out (gany HG8.out _)) (gany HG10.out _)) (HR8.out.keep HG10.out) (HO10.out.below (by have h1 := HBw.out; have h2 := HG7.out.size; have h3 := HG8.out.size; omega)) (fun k hk => by have h1 := HO10.out.block k hk; have h2 := HG7.out.size; have h3 := HG8.out.size; omega)).mono ?_); rintro e w11 ⟨rfl, hr⟩; have HR11 := hid hr; clear hr)
     refine hK.out _ _ ?_ (fun hHeld => ?_)
     ·exact trivial
     clear hK K
     (try simp only [Act.put, List.setIfInBounds_toArray, List.set_cons_zero, List.set_cons_succ])
     refine wpAnyH_done (by kernel_rfl) ?_ _
     refine ⟨rfl, ?_⟩
     go_wp2_with fail
     go_ret
     exact ⟨by rw [HEe.out]; rfl, HR11.out⟩
    by_cases hkz : kp = 0
    ·as_aux_lemma =>
     subst hkz
     have hk1 : ¬ (bn : Int) < 0 := by omega
     have hk3 : ¬ (0 : Int) < 0 := by omega
     have HLk := hid (HLy.out rfl 0 (.inr ⟨by omega, rfl, rfl⟩))
     go_upto_region 16 with (go_at_call 116; (with_reducible refine (HTo.out _ HG6.out).mono ?_); rintro e w7 ⟨rfl, hr, hg⟩; have HR7 := hid hr; have HG7 := hid (gtrans (gany HG6.out _) hg); have y3 := HKp.out w7 hr; clear hr hg)
     have HSl : ∀ u : World, (Instr.sliceAt 74 (.slice ba bn bc) none (some (.int .i64 (0 : Nat))) none).run Tryz.prog u = .ok (.slice ba 0 bc) u := fun u => sliceh_run ba bn bc 0 (by omega) u
     obtain ⟨x7, hx7⟩ : ∃ x, w7.drew = x := ⟨_, rfl⟩
     have HD7 : Hid (w7.grownBy x7 none) := hid (by rw [← hx7]; exact gdrew1 _ _)
     have HRx := hid (HR7.out.keep HD7.out)
     refine wp_calm ?_
     refine wp_region_held_drew (S := (fun _ => True)) (by kernel_rfl) ?_ (fun hHeld => ?_)
     ·exact trivial
     rw [hx7]
     clear hx7
     have hS8 : True := trivial
     refine wpAnyH_take (i := 0) (oi := { dst := some 78, op := Op.move (Operand.tmp 0), type := 30, pos := "posternref9.go:152", after := #[], guard := none }) (v := (.pointer (some ⟨b, 0, none⟩))) rfl (by kernel_rfl) (by kernel_rfl) (by kernel_rfl) (fun _ _ _ h => by cases h.1) (Or.inl ⟨by rfl, by intro u hSu; go_simp⟩) (by assumption) ?_
     (try simp only [Act.put, List.setIfInBounds_toArray, List.set_cons_zero, List.set_cons_succ])
     refine wpAnyH_take (i := 1) (oi := { dst := some 79, op := Op.move (Operand.tmp 1), type := 9, pos := "posternref9.go:152", after := #[], guard := none }) (v := (.string s)) rfl (by kernel_rfl) (by kernel_rfl) (by kernel_rfl) (fun _ _ _ h => by cases h.1) (Or.inl ⟨by rfl, by intro u hSu; go_simp⟩) (by assumption) ?_
     (try simp only [Act.put, List.setIfInBounds_toArray, List.set_cons_zero, List.set_cons_succ])
     refine wpAnyH_take (i := 2) (oi := { dst := some 80, op := Op.move (Operand.tmp 0), type := 30, pos := "posternref9.go:152", after := #[], guard := none }) (v := (.pointer (some ⟨b, 0, none⟩))) rfl (by kernel_rfl) (by kernel_rfl) (by kernel_rfl) (fun _ _ _ h => by cases h.1) (Or.inl ⟨by rfl, by intro u hSu; go_simp⟩) (by assumption) ?_
     (try simp only [Act.put, List.setIfInBounds_toArray, List.set_cons_zero, List.set_cons_succ])
     refine wpAnyH_take (i := 3) (oi := { dst := some 81, op := Op.move (Operand.tmp 1), type := 9, pos := "posternref9.go:152", after := #[], guard := none }) (v := (.string s)) rfl (by kernel_rfl) (by kernel_rfl) (by kernel_rfl) (fun _ _ _ h => by cases h.1) (Or.inl ⟨by rfl, by intro u hSu; go_simp⟩) (by assumption) ?_
     (try simp only [Act.put, List.setIfInBounds_toArray, List.set_cons_zero, List.set_cons_succ])
     refine wpAnyH_take (i := 6) (oi := { dst := some 84, op := Op.move (Operand.tmp 2), type := 74, pos := "posternref9.go:152", after := #[], guard := none }) (v := (.slice ba bn bc)) rfl (by kernel_rfl) (by kernel_rfl) (by kernel_rfl) (fun _ _ _ h => by cases h.1) (Or.inl ⟨by rfl, by intro u hSu; go_simp⟩) (by assumption) ?_
     (try simp only [Act.put, List.setIfInBounds_toArray, List.set_cons_zero, List.set_cons_succ])
     refine wpAnyH_take (i := 7) (oi := { dst := some 85, op := Op.move (Operand.tmp 10), type := 3, pos := "posternref9.go:152", after := #[], guard := none }) (v := (.int .i64 (0 : Nat))) rfl (by kernel_rfl) (by kernel_rfl) (by kernel_rfl) (fun _ _ _ h => by cases h.1) (Or.inl ⟨by rfl, by intro u hSu; go_simp⟩) (by assumption) ?_
     (try simp only [Act.put, List.setIfInBounds_toArray, List.set_cons_zero, List.set_cons_succ])
     refine wpAnyH_take (i := 8) (oi := { dst := some 86, op := Op.slice 74 (Operand.tmp 84) none (some (Operand.tmp 85)) none, type := 74, pos := "posternref9.go:152", after := #[{ on := 6, ground := Ground.data }, { on := 7, ground := Ground.data }], guard := none }) (v := (.slice ba 0 bc)) rfl (by kernel_rfl) (by kernel_rfl) (by kernel_rfl) (fun _ _ _ h => by cases h.1) (yieldsIf_sliceh rfl 74 (.tmp 84) (.tmp 85) rfl _ _ _ rfl rfl (fun u => HSl u)) (by assumption) ?_
     (try simp only [Act.put, List.setIfInBounds_toArray, List.set_cons_zero, List.set_cons_succ])
     refine wpAnyH_ready (rs := [4]) (by kernel_rfl) (by simp) ?_
     refine AllReadyH.cons (o := { dst := some 82, op := Op.call { callee := Callee.value (Operand.func 114), args := #[Operand.tmp 80, Operand.tmp 81], argTypes := #[30, 9] }, type := 74, pos := "posternref9.go:152", after := #[{ on := 2, ground := Ground.data }, { on := 3, ground := Ground.data }], guard := none }) rfl (fun K hK => ?_) AllReadyH.nil
     go_simp
     go_wp2_with (go_at_call 114; (with_reducible refine (HBy.out _ _ HRx.out HXC.out).mono ?_); rintro e w8 ⟨v8, rfl, hg, va, vc, rfl, ho⟩; have HO8 := hid ho; have HG8 := hid (gtrans HD7.out hg); have HR8 := hid (HRx.out.keep hg); clear ho hg)
     refine hK.out _ _ ?_ (fun hHeld => ?_)
     ·exact trivial
     clear hK K
     (try simp only [Act.put, List.setIfInBounds_toArray, List.set_cons_zero, List.set_cons_succ])
     refine wpAnyH_ready (rs := [5]) (by kernel_rfl) (by simp) ?_
     refine AllReadyH.cons (o := { dst := some 83, op := Op.call { callee := Callee.value (Operand.func 100), args := #[Operand.tmp 82], argTypes := #[74] }, type := 74, pos := "posternref9.go:152", after := #[{ on := 4, ground := Ground.data }, { on := 4, ground := Ground.chain }], guard := none }) rfl (fun K hK => ?_) AllReadyH.nil
     go_simp
     go_wp2_with (go_at_call 100; (with_reducible refine (copyR_any _ _ _ _ HO8.out.rd (by have := HOnl.out.1; omega)).mono ?_); rintro e w9 ⟨v9, rfl, ho, hg⟩; obtain ⟨a9, c9, rfl⟩ := ho.len; have HO9 := hid ho; have HG9 := hid hg; clear ho hg)
     refine hK.out _ _ ?_ (fun hHeld => ?_)
     ·exact trivial
     clear hK K
     (try simp only [Act.put, List.setIfInBounds_toArray, List.set_cons_zero, List.set_cons_succ])
     refine wpAnyH_ready (rs := [9]) (by kernel_rfl) (by simp) ?_
     refine AllReadyH.cons (o := { dst := some 87, op := Op.call { callee := Callee.builtin Builtin.append, args := #[Operand.tmp 83, Operand.tmp 86], argTypes := #[74, 74] }, type := 74, pos := "posternref9.go:152", after := #[{ on := 5, ground := Ground.data }, { on := 8, ground := Ground.data }, { on := 5, ground := Ground.chain }], guard := none }) rfl (fun K hK => ?_) AllReadyH.nil
     refine step_append_at rfl (.tmp 83) (.tmp 86) rfl w8.heap.size F ol (l.take 0) HO9.out ((HRl.out _ (gtrans (gtrans HG7.out (gany HG8.out _)) (gany HG9.out _))).take (by omega)) (by rw [List.length_take]; have := HOnl.out; omega) HG9.out.size ?_
     intro v10 w10 ho hg hb
     obtain ⟨a10, c10, hv10⟩ := ho.len
     obtain ⟨n10, Hn10⟩ : ∃ x, Hid ((ol ++ l.take 0).length = x) := ⟨_, hid rfl⟩
     rw [Hn10.out] at hv10
     subst hv10
     have HO10 := hid ho
     have HG10 : Hid (w8.grownBy w10 none) := hid (HG9.out.andThen hg (fun j hj => .inl (HO9.out.block j hj)))
     clear ho hg hb
     refine hK.out _ _ ?_ (fun hHeld => ?_)
     ·exact trivial
     clear hK K
     (try simp only [Act.put, List.setIfInBounds_toArray, List.set_cons_zero, List.set_cons_succ])
     refine wpAnyH_ready (rs := [10]) (by kernel_rfl) (by simp) ?_
     refine AllReadyH.cons (o := { dst := some 88, op := Op.build 117 #[(0, Operand.tmp 79), (1, Operand.tmp 87)], type := 117, pos := "posternref9.go:152", after := #[{ on := 1, ground := Ground.data }, { on := 9, ground := Ground.data }], guard := none }) rfl (fun K hK => ?_) AllReadyH.nil
     refine step_build_of rfl 117 #[(0, .tmp 79), (1, .tmp 87)] rfl [(0, .string s), (1, .slice a10 n10 c10)] (by with_unfolding_all rfl) [Value.string s, .slice a10 n10 c10] (built130 s a10 n10 c10) ?_
     refine hK.out _ _ ?_ (fun hHeld => ?_)
     ·exact trivial
     clear hK K
     (try simp only [Act.put, List.setIfInBounds_toArray, List.set_cons_zero, List.set_cons_succ])
     refine wpAnyH_ready (rs := [11]) (by kernel_rfl) (by simp) ?_
     refine AllReadyH.cons (o := { dst := some 89, op := Op.call { callee := Callee.value (Operand.func 44), args := #[Operand.tmp 78, Operand.tmp 88], argTypes := #[30, 117] }, type := 0, pos := "posternref9.go:152", after := #[{ on := 0, ground := Ground.data }, { on := 10, ground := Ground.data }, { on := 9, ground := Ground.chain }], guard := none }) rfl (fun K hK => ?_) AllReadyH.nil
     go_simp
     go_wp2_with (go_at_call 44; (with_reducible refine (HLk.out _ _ _ _ (gtrans (gtrans HG7.out (gany HG8.out _)) (gany HG10.out _)) (HR8.out.keep HG10.out) (HO10.out.below (by have h1 := HBw.out; have h2 := HG7.out.size; have h3 := HG8.out.size; omega)) (fun k hk => by have h1 := HO10.out.block k hk; have h2 := HG7.out.size; have h3 := HG8.out.size; omega)).mono ?_); rintro e w11 ⟨rfl, hr⟩; have HR11 := hid hr; clear hr)
     refine hK.out _ _ ?_ (fun hHeld => ?_)
     ·exact trivial
     clear hK K
     (try simp only [Act.put, List.setIfInBounds_toArray, List.set_cons_zero, List.set_cons_succ])
     refine wpAnyH_done (by kernel_rfl) ?_ _
     refine ⟨rfl, ?_⟩
     go_wp2_with fail
     go_ret
     exact ⟨by rw [HEe.out]; rfl, HR11.out⟩
    by_cases hkb : kp ≤ (bn : Int)
    ·as_aux_lemma =>
     obtain ⟨kk, rfl⟩ : ∃ kk : Nat, kp = (kk : Int) := ⟨kp.toNat, by omega⟩
     have hk1 : ¬ (bn : Int) < (kk : Int) := by omega
     have hk0 : ¬ (kk : Int) < 0 := by omega
     have hk3 : (0 : Int) < (kk : Int) := by omega
     have HLk := hid (HLy.out rfl kk (.inl ⟨hk3, by omega⟩))
     go_upto_region 16 with (go_at_call 116; (with_reducible refine (HTo.out _ HG6.out).mono ?_); rintro e w7 ⟨rfl, hr, hg⟩; have HR7 := hid hr; have HG7 := hid (gtrans (gany HG6.out _) hg); have y3 := HKp.out w7 hr; clear hr hg)
     have HSl : ∀ u : World, (Instr.sliceAt 74 (.slice ba bn bc) none (some (.int .i64 (kk : Nat))) none).run Tryz.prog u = .ok (.slice ba kk bc) u := fun u => sliceh_run ba bn bc kk (by omega) u
     obtain ⟨x7, hx7⟩ : ∃ x, w7.drew = x := ⟨_, rfl⟩
     have HD7 : Hid (w7.grownBy x7 none) := hid (by rw [← hx7]; exact gdrew1 _ _)
     have HRx := hid (HR7.out.keep HD7.out)
     refine wp_calm ?_
     refine wp_region_held_drew (S := (fun _ => True)) (by kernel_rfl) ?_ (fun hHeld => ?_)
     ·exact trivial
     rw [hx7]
     clear hx7
     have hS8 : True := trivial
     refine wpAnyH_take (i := 0) (oi := { dst := some 78, op := Op.move (Operand.tmp 0), type := 30, pos := "posternref9.go:152", after := #[], guard := none }) (v := (.pointer (some ⟨b, 0, none⟩))) rfl (by kernel_rfl) (by kernel_rfl) (by kernel_rfl) (fun _ _ _ h => by cases h.1) (Or.inl ⟨by rfl, by intro u hSu; go_simp⟩) (by assumption) ?_
     (try simp only [Act.put, List.setIfInBounds_toArray, List.set_cons_zero, List.set_cons_succ])
     refine wpAnyH_take (i := 1) (oi := { dst := some 79, op := Op.move (Operand.tmp 1), type := 9, pos := "posternref9.go:152", after := #[], guard := none }) (v := (.string s)) rfl (by kernel_rfl) (by kernel_rfl) (by kernel_rfl) (fun _ _ _ h => by cases h.1) (Or.inl ⟨by rfl, by intro u hSu; go_simp⟩) (by assumption) ?_
     (try simp only [Act.put, List.setIfInBounds_toArray, List.set_cons_zero, List.set_cons_succ])
     refine wpAnyH_take (i := 2) (oi := { dst := some 80, op := Op.move (Operand.tmp 0), type := 30, pos := "posternref9.go:152", after := #[], guard := none }) (v := (.pointer (some ⟨b, 0, none⟩))) rfl (by kernel_rfl) (by kernel_rfl) (by kernel_rfl) (fun _ _ _ h => by cases h.1) (Or.inl ⟨by rfl, by intro u hSu; go_simp⟩) (by assumption) ?_
     (try simp only [Act.put, List.setIfInBounds_toArray, List.set_cons_zero, List.set_cons_succ])
     refine wpAnyH_take (i := 3) (oi := { dst := some 81, op := Op.move (Operand.tmp 1), type := 9, pos := "posternref9.go:152", after := #[], guard := none }) (v := (.string s)) rfl (by kernel_rfl) (by kernel_rfl) (by kernel_rfl) (fun _ _ _ h => by cases h.1) (Or.inl ⟨by rfl, by intro u hSu; go_simp⟩) (by assumption) ?_
     (try simp only [Act.put, List.setIfInBounds_toArray, List.set_cons_zero, List.set_cons_succ])
     refine wpAnyH_take (i := 6) (oi := { dst := some 84, op := Op.move (Operand.tmp 2), type := 74, pos := "posternref9.go:152", after := #[], guard := none }) (v := (.slice ba bn bc)) rfl (by kernel_rfl) (by kernel_rfl) (by kernel_rfl) (fun _ _ _ h => by cases h.1) (Or.inl ⟨by rfl, by intro u hSu; go_simp⟩) (by assumption) ?_
     (try simp only [Act.put, List.setIfInBounds_toArray, List.set_cons_zero, List.set_cons_succ])
     refine wpAnyH_take (i := 7) (oi := { dst := some 85, op := Op.move (Operand.tmp 10), type := 3, pos := "posternref9.go:152", after := #[], guard := none }) (v := (.int .i64 (kk : Nat))) rfl (by kernel_rfl) (by kernel_rfl) (by kernel_rfl) (fun _ _ _ h => by cases h.1) (Or.inl ⟨by rfl, by intro u hSu; go_simp⟩) (by assumption) ?_
     (try simp only [Act.put, List.setIfInBounds_toArray, List.set_cons_zero, List.set_cons_succ])
     refine wpAnyH_take (i := 8) (oi := { dst := some 86, op := Op.slice 74 (Operand.tmp 84) none (some (Operand.tmp 85)) none, type := 74, pos := "posternref9.go:152", after := #[{ on := 6, ground := Ground.data }, { on := 7, ground := Ground.data }], guard := none }) (v := (.slice ba kk bc)) rfl (by kernel_rfl) (by kernel_rfl) (by kernel_rfl) (fun _ _ _ h => by cases h.1) (yieldsIf_sliceh rfl 74 (.tmp 84) (.tmp 85) rfl _ _ _ rfl rfl (fun u => HSl u)) (by assumption) ?_
     (try simp only [Act.put, List.setIfInBounds_toArray, List.set_cons_zero, List.set_cons_succ])
     refine wpAnyH_ready (rs := [4]) (by kernel_rfl) (by simp) ?_
     refine AllReadyH.cons (o := { dst := some 82, op := Op.call { callee := Callee.value (Operand.func 114), args := #[Operand.tmp 80, Operand.tmp 81], argTypes := #[30, 9] }, type := 74, pos := "posternref9.go:152", after := #[{ on := 2, ground := Ground.data }, { on := 3, ground := Ground.data }], guard := none }) rfl (fun K hK => ?_) AllReadyH.nil
     go_simp
     go_wp2_with (go_at_call 114; (with_reducible refine (HBy.out _ _ HRx.out HXC.out).mono ?_); rintro e w8 ⟨v8, rfl, hg, va, vc, rfl, ho⟩; have HO8 := hid ho; have HG8 := hid (gtrans HD7.out hg); have HR8 := hid (HRx.out.keep hg); clear ho hg)
     refine hK.out _ _ ?_ (fun hHeld => ?_)
     ·exact trivial
     clear hK K
     (try simp only [Act.put, List.setIfInBounds_toArray, List.set_cons_zero, List.set_cons_succ])
     refine wpAnyH_ready (rs := [5]) (by kernel_rfl) (by simp) ?_
     refine AllReadyH.cons (o := { dst := some 83, op := Op.call { callee := Callee.value (Operand.func 100), args := #[Operand.tmp 82], argTypes := #[74] }, type := 74, pos := "posternref9.go:152", after := #[{ on := 4, ground := Ground.data }, { on := 4, ground := Ground.chain }], guard := none }) rfl (fun K hK => ?_) AllReadyH.nil
     go_simp
     go_wp2_with (go_at_call 100; (with_reducible refine (copyR_any _ _ _ _ HO8.out.rd (by have := HOnl.out.1; omega)).mono ?_); rintro e w9 ⟨v9, rfl, ho, hg⟩; obtain ⟨a9, c9, rfl⟩ := ho.len; have HO9 := hid ho; have HG9 := hid hg; clear ho hg)
     refine hK.out _ _ ?_ (fun hHeld => ?_)
     ·exact trivial
     clear hK K
     (try simp only [Act.put, List.setIfInBounds_toArray, List.set_cons_zero, List.set_cons_succ])
     refine wpAnyH_ready (rs := [9]) (by kernel_rfl) (by simp) ?_
     refine AllReadyH.cons (o := { dst := some 87, op := Op.call { callee := Callee.builtin Builtin.append, args := #[Operand.tmp 83, Operand.tmp 86], argTypes := #[74, 74] }, type := 74, pos := "posternref9.go:152", after := #[{ on := 5, ground := Ground.data }, { on := 8, ground := Ground.data }, { on := 5, ground := Ground.chain }], guard := none }) rfl (fun K hK => ?_) AllReadyH.nil
     refine step_append_at rfl (.tmp 83) (.tmp 86) rfl w8.heap.size F ol (l.take kk) HO9.out ((HRl.out _ (gtrans (gtrans HG7.out (gany HG8.out _)) (gany HG9.out _))).take (by omega)) (by rw [List.length_take]; have := HOnl.out; omega) HG9.out.size ?_
     intro v10 w10 ho hg hb
     obtain ⟨a10, c10, hv10⟩ := ho.len
     obtain ⟨n10, Hn10⟩ : ∃ x, Hid ((ol ++ l.take kk).length = x) := ⟨_, hid rfl⟩
     rw [Hn10.out] at hv10
     subst hv10
     have HO10 := hid ho
     have HG10 : Hid (w8.grownBy w10 none) := hid (HG9.out.andThen hg (fun j hj => .inl (HO9.out.block j hj)))
     clear ho hg hb
     refine hK.out _ _ ?_ (fun hHeld => ?_)
     ·exact trivial
     clear hK K
     (try simp only [Act.put, List.setIfInBounds_toArray, List.set_cons_zero, List.set_cons_succ])
     refine wpAnyH_ready (rs := [10]) (by kernel_rfl) (by simp) ?_
     refine AllReadyH.cons (o := { dst := some 88, op := Op.build 117 #[(0, Operand.tmp 79), (1, Operand.tmp 87)], type := 117, pos := "posternref9.go:152", after := #[{ on := 1, ground := Ground.data }, { on := 9, ground := Ground.data }], guard := none }) rfl (fun K hK => ?_) AllReadyH.nil
     refine step_build_of rfl 117 #[(0, .tmp 79), (1, .tmp 87)] rfl [(0, .string s), (1, .slice a10 n10 c10)] (by with_unfolding_all rfl) [Value.string s, .slice a10 n10 c10] (built130 s a10 n10 c10) ?_
     refine hK.out _ _ ?_ (fun hHeld => ?_)
     ·exact trivial
     clear hK K
     (try simp only [Act.put, List.setIfInBounds_toArray, List.set_cons_zero, List.set_cons_succ])
     refine wpAnyH_ready (rs := [11]) (by kernel_rfl) (by simp) ?_
     refine AllReadyH.cons (o := { dst := some 89, op := Op.call { callee := Callee.value (Operand.func 44), args := #[Operand.tmp 78, Operand.tmp 88], argTypes := #[30, 117] }, type := 0, pos := "posternref9.go:152", after := #[{ on := 0, ground := Ground.data }, { on := 10, ground := Ground.data }, { on := 9, ground := Ground.chain }], guard := none }) rfl (fun K hK => ?_) AllReadyH.nil
     go_simp
     go_wp2_with (go_at_call 44; (with_reducible refine (HLk.out _ _ _ _ (gtrans (gtrans HG7.out (gany HG8.out _)) (gany HG10.out _)) (HR8.out.keep HG10.out) (HO10.out.below (by have h1 := HBw.out; have h2 := HG7.out.size; have h3 := HG8.out.size; omega)) (fun k hk => by have h1 := HO10.out.block k hk; have h2 := HG7.out.size; have h3 := HG8.out.size; omega)).mono ?_); rintro e w11 ⟨rfl, hr⟩; have HR11 := hid hr; clear hr)
     refine hK.out _ _ ?_ (fun hHeld => ?_)
     ·exact trivial
     clear hK K
     (try simp only [Act.put, List.setIfInBounds_toArray, List.set_cons_zero, List.set_cons_succ])
     refine wpAnyH_done (by kernel_rfl) ?_ _
     refine ⟨rfl, ?_⟩
     go_wp2_with fail
     go_ret
     exact ⟨by rw [HEe.out]; rfl, HR11.out⟩
    ·as_aux_lemma =>
     have hk1 : (bn : Int) < kp := by omega
     have hk0 : ¬ kp < 0 := by omega
     have hk2 : ¬ (bn : Int) < 0 := by omega
     have hk3 : (0 : Int) < kp := by omega
     have HLk := hid (HLy.out rfl bn (.inl ⟨hk3, by omega⟩))
     go_upto_region 16 with (go_at_call 116; (with_reducible refine (HTo.out _ HG6.out).mono ?_); rintro e w7 ⟨rfl, hr, hg⟩; have HR7 := hid hr; have HG7 := hid (gtrans (gany HG6.out _) hg); have y3 := HKp.out w7 hr; clear hr hg)
     have HSl : ∀ u : World, (Instr.sliceAt 74 (.slice ba bn bc) none (some (.int .i64 (bn : Nat))) none).run Tryz.prog u = .ok (.slice ba bn bc) u := fun u => sliceh_run ba bn bc bn (by omega) u
     obtain ⟨x7, hx7⟩ : ∃ x, w7.drew = x := ⟨_, rfl⟩
     have HD7 : Hid (w7.grownBy x7 none) := hid (by rw [← hx7]; exact gdrew1 _ _)
     have HRx := hid (HR7.out.keep HD7.out)
     refine wp_calm ?_
     refine wp_region_held_drew (S := (fun _ => True)) (by kernel_rfl) ?_ (fun hHeld => ?_)
     ·exact trivial
     rw [hx7]
     clear hx7
     have hS8 : True := trivial
     refine wpAnyH_take (i := 0) (oi := { dst := some 78, op := Op.move (Operand.tmp 0), type := 30, pos := "posternref9.go:152", after := #[], guard := none }) (v := (.pointer (some ⟨b, 0, none⟩))) rfl (by kernel_rfl) (by kernel_rfl) (by kernel_rfl) (fun _ _ _ h => by cases h.1) (Or.inl ⟨by rfl, by intro u hSu; go_simp⟩) (by assumption) ?_
     (try simp only [Act.put, List.setIfInBounds_toArray, List.set_cons_zero, List.set_cons_succ])
     refine wpAnyH_take (i := 1) (oi := { dst := some 79, op := Op.move (Operand.tmp 1), type := 9, pos := "posternref9.go:152", after := #[], guard := none }) (v := (.string s)) rfl (by kernel_rfl) (by kernel_rfl) (by kernel_rfl) (fun _ _ _ h => by cases h.1) (Or.inl ⟨by rfl, by intro u hSu; go_simp⟩) (by assumption) ?_
     (try simp only [Act.put, List.setIfInBounds_toArray, List.set_cons_zero, List.set_cons_succ])
     refine wpAnyH_take (i := 2) (oi := { dst := some 80, op := Op.move (Operand.tmp 0), type := 30, pos := "posternref9.go:152", after := #[], guard := none }) (v := (.pointer (some ⟨b, 0, none⟩))) rfl (by kernel_rfl) (by kernel_rfl) (by kernel_rfl) (fun _ _ _ h => by cases h.1) (Or.inl ⟨by rfl, by intro u hSu; go_simp⟩) (by assumption) ?_
     (try simp only [Act.put, List.setIfInBounds_toArray, List.set_cons_zero, List.set_cons_succ])
     refine wpAnyH_take (i := 3) (oi := { dst := some 81, op := Op.move (Operand.tmp 1), type := 9, pos := "posternref9.go:152", after := #[], guard := none }) (v := (.string s)) rfl (by kernel_rfl) (by kernel_rfl) (by kernel_rfl) (fun _ _ _ h => by cases h.1) (Or.inl ⟨by rfl, by intro u hSu; go_simp⟩) (by assumption) ?_
     (try simp only [Act.put, List.setIfInBounds_toArray, List.set_cons_zero, List.set_cons_succ])
     refine wpAnyH_take (i := 6) (oi := { dst := some 84, op := Op.move (Operand.tmp 2), type := 74, pos := "posternref9.go:152", after := #[], guard := none }) (v := (.slice ba bn bc)) rfl (by kernel_rfl) (by kernel_rfl) (by kernel_rfl) (fun _ _ _ h => by cases h.1) (Or.inl ⟨by rfl, by intro u hSu; go_simp⟩) (by assumption) ?_
     (try simp only [Act.put, List.setIfInBounds_toArray, List.set_cons_zero, List.set_cons_succ])
     refine wpAnyH_take (i := 7) (oi := { dst := some 85, op := Op.move (Operand.tmp 10), type := 3, pos := "posternref9.go:152", after := #[], guard := none }) (v := (.int .i64 (bn : Nat))) rfl (by kernel_rfl) (by kernel_rfl) (by kernel_rfl) (fun _ _ _ h => by cases h.1) (Or.inl ⟨by rfl, by intro u hSu; go_simp⟩) (by assumption) ?_
     (try simp only [Act.put, List.setIfInBounds_toArray, List.set_cons_zero, List.set_cons_succ])
     refine wpAnyH_take (i := 8) (oi := { dst := some 86, op := Op.slice 74 (Operand.tmp 84) none (some (Operand.tmp 85)) none, type := 74, pos := "posternref9.go:152", after := #[{ on := 6, ground := Ground.data }, { on := 7, ground := Ground.data }], guard := none }) (v := (.slice ba bn bc)) rfl (by kernel_rfl) (by kernel_rfl) (by kernel_rfl) (fun _ _ _ h => by cases h.1) (yieldsIf_sliceh rfl 74 (.tmp 84) (.tmp 85) rfl _ _ _ rfl rfl (fun u => HSl u)) (by assumption) ?_
     (try simp only [Act.put, List.setIfInBounds_toArray, List.set_cons_zero, List.set_cons_succ])
     refine wpAnyH_ready (rs := [4]) (by kernel_rfl) (by simp) ?_
     refine AllReadyH.cons (o := { dst := some 82, op := Op.call { callee := Callee.value (Operand.func 114), args := #[Operand.tmp 80, Operand.tmp 81], argTypes := #[30, 9] }, type := 74, pos := "posternref9.go:152", after := #[{ on := 2, ground := Ground.data }, { on := 3, ground := Ground.data }], guard := none }) rfl (fun K hK => ?_) AllReadyH.nil
     go_simp
     go_wp2_with (go_at_call 114; (with_reducible refine (HBy.out _ _ HRx.out HXC.out).mono ?_); rintro e w8 ⟨v8, rfl, hg, va, vc, rfl, ho⟩; have HO8 := hid ho; have HG8 := hid (gtrans HD7.out hg); have HR8 := hid (HRx.out.keep hg); clear ho hg)
     refine hK.out _ _ ?_ (fun hHeld => ?_)
     ·exact trivial
     clear hK K
     (try simp only [Act.put, List.setIfInBounds_toArray, List.set_cons_zero, List.set_cons_succ])
     refine wpAnyH_ready (rs := [5]) (by kernel_rfl) (by simp) ?_
     refine AllReadyH.cons (o := { dst := some 83, op := Op.call { callee := Callee.value (Operand.func 100), args := #[Operand.tmp 82], argTypes := #[74] }, type := 74, pos := "posternref9.go:152", after := #[{ on := 4, ground := Ground.data }, { on := 4, ground := Ground.chain }], guard := none }) rfl (fun K hK => ?_) AllReadyH.nil
     go_simp
     go_wp2_with (go_at_call 100; (with_reducible refine (copyR_any _ _ _ _ HO8.out.rd (by have := HOnl.out.1; omega)).mono ?_); rintro e w9 ⟨v9, rfl, ho, hg⟩; obtain ⟨a9, c9, rfl⟩ := ho.len; have HO9 := hid ho; have HG9 := hid hg; clear ho hg)
     refine hK.out _ _ ?_ (fun hHeld => ?_)
     ·exact trivial
     clear hK K
     (try simp only [Act.put, List.setIfInBounds_toArray, List.set_cons_zero, List.set_cons_succ])
     refine wpAnyH_ready (rs := [9]) (by kernel_rfl) (by simp) ?_
     refine AllReadyH.cons (o := { dst := some 87, op := Op.call { callee := Callee.builtin Builtin.append, args := #[Operand.tmp 83, Operand.tmp 86], argTypes := #[74, 74] }, type := 74, pos := "posternref9.go:152", after := #[{ on := 5, ground := Ground.data }, { on := 8, ground := Ground.data }, { on := 5, ground := Ground.chain }], guard := none }) rfl (fun K hK => ?_) AllReadyH.nil
     refine step_append_at rfl (.tmp 83) (.tmp 86) rfl w8.heap.size F ol (l.take bn) HO9.out ((HRl.out _ (gtrans (gtrans HG7.out (gany HG8.out _)) (gany HG9.out _))).take (by omega)) (by rw [List.length_take]; have := HOnl.out; omega) HG9.out.size ?_
     intro v10 w10 ho hg hb
     obtain ⟨a10, c10, hv10⟩ := ho.len
     obtain ⟨n10, Hn10⟩ : ∃ x, Hid ((ol ++ l.take bn).length = x) := ⟨_, hid rfl⟩
     rw [Hn10.out] at hv10
     subst hv10
     have HO10 := hid ho
     have HG10 : Hid (w8.grownBy w10 none) := hid (HG9.out.andThen hg (fun j hj => .inl (HO9.out.block j hj)))
     clear ho hg hb
     refine hK.out _ _ ?_ (fun hHeld => ?_)
     ·exact trivial
     clear hK K
     (try simp only [Act.put, List.setIfInBounds_toArray, List.set_cons_zero, List.set_cons_succ])
     refine wpAnyH_ready (rs := [10]) (by kernel_rfl) (by simp) ?_
     refine AllReadyH.cons (o := { dst := some 88, op := Op.build 117 #[(0, Operand.tmp 79), (1, Operand.tmp 87)], type := 117, pos := "posternref9.go:152", after := #[{ on := 1, ground := Ground.data }, { on := 9, ground := Ground.data }], guard := none }) rfl (fun K hK => ?_) AllReadyH.nil
     refine step_build_of rfl 117 #[(0, .tmp 79), (1, .tmp 87)] rfl [(0, .string s), (1, .slice a10 n10 c10)] (by with_unfolding_all rfl) [Value.string s, .slice a10 n10 c10] (built130 s a10 n10 c10) ?_
     refine hK.out _ _ ?_ (fun hHeld => ?_)
     ·exact trivial
     clear hK K
     (try simp only [Act.put, List.setIfInBounds_toArray, List.set_cons_zero, List.set_cons_succ])
     refine wpAnyH_ready (rs := [11]) (by kernel_rfl) (by simp) ?_
     refine AllReadyH.cons (o := { dst := some 89, op := Op.call { callee := Callee.value (Operand.func 44), args := #[Operand.tmp 78, Operand.tmp 88], argTypes := #[30, 117] }, type := 0, pos := "posternref9.go:152", after := #[{ on := 0, ground := Ground.data }, { on := 10, ground := Ground.data }, { on := 9, ground := Ground.chain }], guard := none }) rfl (fun K hK => ?_) AllReadyH.nil
     go_simp
     go_wp2_with (go_at_call 44; (with_reducible refine (HLk.out _ _ _ _ (gtrans (gtrans HG7.out (gany HG8.out _)) (gany HG10.out _)) (HR8.out.keep HG10.out) (HO10.out.below (by have h1 := HBw.out; have h2 := HG7.out.size; have h3 := HG8.out.size; omega)) (fun k hk => by have h1 := HO10.out.block k hk; have h2 := HG7.out.size; have h3 := HG8.out.size; omega)).mono ?_); rintro e w11 ⟨rfl, hr⟩; have HR11 := hid hr; clear hr)
     refine hK.out _ _ ?_ (fun hHeld => ?_)
     ·exact trivial
     clear hK K
     (try simp only [Act.put, List.setIfInBounds_toArray, List.set_cons_zero, List.set_cons_succ])
     refine wpAnyH_done (by kernel_rfl) ?_ _
     refine ⟨rfl, ?_⟩
     go_wp2_with fail
     go_ret
     exact ⟨by rw [HEe.out]; rfl, HR11.out⟩
  | false =>
   by_cases h64 : sn < 64
   ·have hft : ft = true := by rw [hfit, decide_eq_true hov, decide_eq_true h64]; rfl
    subst hft
    clear hfit
    have HGe : Hid (∀ (x y : Operand) (u : World), (do eqGuard .geq 3 x y (.int .i64 (sn : Nat)) (.int .i64 64); binOp .geq 3 (.int .i64 (sn : Nat)) (.int .i64 64) : Sem Value).run Tryz.prog u = .ok (.bool false) u) := hid (fun x y u => by
     have e : ¬ (64 : Int) ≤ (sn : Int) := by omega
     go_simp)
    refine wp_region_listX (by kernel_rfl) [fun v _ => v = (Value.bool false), fun v _ => v = (Value.bool true), fun v _ => v = (Value.bool true), fun v _ => v = (Value.pointer (some ⟨b, 0, none⟩)), fun v _ => v = (Value.pointer (some ⟨b, 0, none⟩)), fun v _ => v = (Value.pointer (some ⟨b, 1, none⟩)), fun v _ => v = (Value.slice sa sn sc), fun v _ => v = (Value.int .i64 (sn : Nat)), fun v _ => v = (Value.bool false), fun v _ => v = (Value.bool false), fun v _ => v = (Value.bool false), fun v _ => v = (Value.slice ba bn bc), fun v _ => v = (Value.int .i64 (bn : Nat)), fun v _ => v = (Value.pointer (some ⟨b, 0, none⟩)), fun v _ => v = (Value.pointer (some ⟨b, 0, none⟩)), fun v _ => v = (Value.pointer (some ⟨b, 0, none⟩)), fun v _ => v = (Value.int .i64 rm), fun v _ => v = (Value.pointer (some ⟨b, 0, none⟩)), fun v _ => v = Value.int .i64 (us : Nat), fun v _ => v = (Value.int .i64 (rm - (us : Int))), fun v _ => v = (Value.bool false), fun v _ => v = (Value.bool false)] (none) (fun _ => none) 22 (by kernel_rfl) (by kernel_rfl) (by kernel_rfl) (by kernel_rfl) (by decide) noRow_one (fun _ => .inl rfl) ⟨fun i v u u' hki h hg => h, fun i v u u' hki h hg => h, fun i v u u' hki h hg => h, fun i v u u' hki h hg => h, fun i v u u' hki h hg => h, fun i v u u' hki h hg => h, fun i v u u' hki h hg => h, fun i v u u' hki h hg => h, fun i v u u' hki h hg => h, fun i v u u' hki h hg => h, fun i v u u' hki h hg => h, fun i v u u' hki h hg => h, fun i v u u' hki h hg => h, fun i v u u' hki h hg => h, fun i v u u' hki h hg => h, fun i v u u' hki h hg => h, fun i v u u' hki h hg => h, fun i v u u' hki h hg => h, fun i v u u' hki h hg => h, fun i v u u' hki h hg => h, fun i v u u' hki h hg => h, fun i v u u' hki h hg => h, trivial⟩ ⟨?_, ?_, ?_, ?_, ?_, ?_, ?_, ?_, ?_, ?_, ?_, ?_, ?_, ?_, ?_, ?_, ?_, ?_, ?_, ?_, ?_, ?_, trivial⟩ ?_
    ·intro A u hu hpu hsz hout hdeps
     have e9 : A.eval (.tmp 9) = (.bool false) := (hout 9 (by kernel_rfl)).trans rfl
     refine ifw_none rfl ?_
     with_reducible refine shown_q (Value.bool false) ?qq_2_0 (fun _ _ => ?qr_2_0)
     case qr_2_0 => exact (rfl : (Value.bool false) = (Value.bool false))
     with_reducible refine quietAt_mv (.tmp 9) (Value.bool false) ?h0_2_0 ?h1_2_0
     case h0_2_0 => rfl
     case h1_2_0 => exact e9
    ·intro A u hu hpu hsz hout hdeps
     have e23 : A.eval (.tmp 23) = (.bool false) := by have h := depL hdeps 0 (by kernel_rfl) 23 (by kernel_rfl); exact h
     refine ifw_none rfl ?_
     with_reducible refine shown_q (Value.bool true) ?qq_2_1 (fun _ _ => ?qr_2_1)
     case qr_2_1 => exact (rfl : (Value.bool true) = (Value.bool true))
     with_reducible refine quietAt_un .not 4 (.tmp 23) (Value.bool false) (Value.bool true) ?h0_2_1 ?h1_2_1 ?h2_2_1
     case h0_2_1 => rfl
     case h1_2_1 => exact e23
     case h2_2_1 => rfl
    ·intro A u hu hpu hsz hout hdeps
     have e24 : A.eval (.tmp 24) = (.bool true) := by have h := depL hdeps 1 (by kernel_rfl) 24 (by kernel_rfl); exact h
     refine ifw_none rfl ?_
     with_reducible refine shown_q (Value.bool true) ?qq_2_2 (fun _ _ => ?qr_2_2)
     case qr_2_2 => exact (rfl : (Value.bool true) = (Value.bool true))
     with_reducible refine quietAt_mv (.tmp 24) (Value.bool true) ?h0_2_2 ?h1_2_2
     case h0_2_2 => rfl
     case h1_2_2 => exact e24
    ·intro A u hu hpu hsz hout hdeps
     have e25 : A.eval (.tmp 25) = (.bool true) := by have h := depL hdeps 2 (by kernel_rfl) 25 (by kernel_rfl); exact h
     have e0 : A.eval (.tmp 0) = (.pointer (some ⟨b, 0, none⟩)) := (hout 0 (by kernel_rfl)).trans rfl
     refine ifw_want 2 true 25 rfl rfl e25 ?_
     with_reducible refine shown_q (Value.pointer (some ⟨b, 0, none⟩)) ?qq_2_3 (fun _ _ => ?qr_2_3)
     case qr_2_3 => exact (rfl : (Value.pointer (some ⟨b, 0, none⟩)) = (Value.pointer (some ⟨b, 0, none⟩)))
     with_reducible refine quietAt_mv (.tmp 0) (Value.pointer (some ⟨b, 0, none⟩)) ?h0_2_3 ?h1_2_3
     case h0_2_3 => rfl
     case h1_2_3 => exact e0
    ·intro A u hu hpu hsz hout hdeps
     have e25 : A.eval (.tmp 25) = (.bool true) := by have h := depL hdeps 2 (by kernel_rfl) 25 (by kernel_rfl); exact h
     have e26 : A.eval (.tmp 26) = (.pointer (some ⟨b, 0, none⟩)) := by have h := depL hdeps 3 (by kernel_rfl) 26 (by kernel_rfl); exact h
     refine ifw_want 2 true 25 rfl rfl e25 ?_
     with_reducible refine shown_q (Value.pointer (some ⟨b, 0, none⟩)) ?qq_2_4 (fun _ _ => ?qr_2_4)
     case qr_2_4 => exact (rfl : (Value.pointer (some ⟨b, 0, none⟩)) = (Value.pointer (some ⟨b, 0, none⟩)))
     with_reducible refine quietAt_nil (.tmp 26) ?h0_2_4 ⟨b, 0, none⟩ ?h1_2_4
     case h0_2_4 => rfl
     case h1_2_4 => exact e26
    ·intro A u hu hpu hsz hout hdeps
     have e25 : A.eval (.tmp 25) = (.bool true) := by have h := depL hdeps 2 (by kernel_rfl) 25 (by kernel_rfl); exact h
     have e27 : A.eval (.tmp 27) = (.pointer (some ⟨b, 0, none⟩)) := by have h := depL hdeps 4 (by kernel_rfl) 27 (by kernel_rfl); exact h
     refine ifw_want 2 true 25 rfl rfl e25 ?_
     with_reducible refine shown_q (Value.pointer (some ⟨b, 1, none⟩)) ?qq_2_5 (fun _ _ => ?qr_2_5)
     case qr_2_5 => exact (rfl : (Value.pointer (some ⟨b, 1, none⟩)) = (Value.pointer (some ⟨b, 1, none⟩)))
     with_reducible refine quietAt_field 113 (.tmp 27) 1 ?h0_2_5 ⟨b, 0, none⟩ ⟨b, 1, none⟩ ?h1_2_5 ?h2_2_5
     case h0_2_5 => rfl
     case h1_2_5 => exact e27
     case h2_2_5 => kernel_rfl
    ·intro A u hu hpu hsz hout hdeps
     have e25 : A.eval (.tmp 25) = (.bool true) := by have h := depL hdeps 2 (by kernel_rfl) 25 (by kernel_rfl); exact h
     have e28 : A.eval (.tmp 28) = (.pointer (some ⟨b, 1, none⟩)) := by have h := depL hdeps 5 (by kernel_rfl) 28 (by kernel_rfl); exact h
     refine ifw_want 2 true 25 rfl rfl e25 ?_
     with_reducible refine shown_q (Value.slice sa sn sc) ?qq_2_6 (fun _ _ => ?qr_2_6)
     case qr_2_6 => exact (rfl : (Value.slice sa sn sc) = (Value.slice sa sn sc))
     with_reducible refine quietAt_ld 110 (.tmp 28) (Value.pointer (some ⟨b, 1, none⟩)) (Value.slice sa sn sc) ?h0_2_6 ?h1_2_6 ?h2_2_6
     case h0_2_6 => rfl
     case h1_2_6 => exact e28
     case h2_2_6 => exact ld66 b 1 sn sc sa u (HY.out u (gtrans HG5.out hu)).2
    ·intro A u hu hpu hsz hout hdeps
     have e25 : A.eval (.tmp 25) = (.bool true) := by have h := depL hdeps 2 (by kernel_rfl) 25 (by kernel_rfl); exact h
     have e29 : A.eval (.tmp 29) = (.slice sa sn sc) := by have h := depL hdeps 6 (by kernel_rfl) 29 (by kernel_rfl); exact h
     refine ifw_want 2 true 25 rfl rfl e25 ?_
     with_reducible refine shown_q (Value.int .i64 (sn : Nat)) ?qq_2_7 (fun _ _ => ?qr_2_7)
     case qr_2_7 => exact (rfl : (Value.int .i64 (sn : Nat)) = (Value.int .i64 (sn : Nat)))
     with_reducible refine quietAt_len (.tmp 29) 110 ?h0_2_7 sa sn sc ?h1_2_7 ?h2_2_7
     case h0_2_7 => rfl
     case h1_2_7 => exact e29
     case h2_2_7 => kernel_rfl
    ·intro A u hu hpu hsz hout hdeps
     have e25 : A.eval (.tmp 25) = (.bool true) := by have h := depL hdeps 2 (by kernel_rfl) 25 (by kernel_rfl); exact h
     have e30 : A.eval (.tmp 30) = (.int .i64 (sn : Nat)) := by have h := depL hdeps 7 (by kernel_rfl) 30 (by kernel_rfl); exact h
     refine ifw_want 2 true 25 rfl rfl e25 ?_
     with_reducible refine shown_q (Value.bool false) ?qq_2_8 (fun _ _ => ?qr_2_8)
     case qr_2_8 => exact (rfl : (Value.bool false) = (Value.bool false))
     with_reducible refine quietAt_bin .geq 3 (.tmp 30) (.const (.int .i64 64)) 3 (Value.int .i64 (sn : Nat)) (Value.int .i64 64) (Value.bool false) ?h0_2_8 ?h1_2_8 ?h2_2_8 ?h3_2_8
     case h0_2_8 => rfl
     case h1_2_8 => exact e30
     case h2_2_8 => exact rfl
     case h3_2_8 => exact HGe.out _ _ u
    ·intro A u hu hpu hsz hout hdeps
     have e25 : A.eval (.tmp 25) = (.bool true) := by have h := depL hdeps 2 (by kernel_rfl) 25 (by kernel_rfl); exact h
     have e31 : A.eval (.tmp 31) = (.bool false) := by have h := depL hdeps 8 (by kernel_rfl) 31 (by kernel_rfl); exact h
     refine ifw_none rfl ?_
     with_reducible refine shown_q (Value.bool false) ?qq_2_9 (fun _ _ => ?qr_2_9)
     case qr_2_9 => exact (rfl : (Value.bool false) = (Value.bool false))
     with_reducible refine quietAt_pick (.tmp 25) (.tmp 31) (.const (.bool false)) true (Value.bool false) ?h0_2_9 ?h1_2_9 ?h2_2_9
     case h0_2_9 => rfl
     case h1_2_9 => exact e25
     case h2_2_9 => rw [if_pos rfl]; exact e31
    ·intro A u hu hpu hsz hout hdeps
     have e32 : A.eval (.tmp 32) = (.bool false) := by have h := depL hdeps 9 (by kernel_rfl) 32 (by kernel_rfl); exact h
     refine ifw_none rfl ?_
     with_reducible refine shown_q (Value.bool false) ?qq_2_10 (fun _ _ => ?qr_2_10)
     case qr_2_10 => exact (rfl : (Value.bool false) = (Value.bool false))
     with_reducible refine quietAt_mv (.tmp 32) (Value.bool false) ?h0_2_10 ?h1_2_10
     case h0_2_10 => rfl
     case h1_2_10 => exact e32
    ·intro A u hu hpu hsz hout hdeps
     have e33 : A.eval (.tmp 33) = (.bool false) := by have h := depL hdeps 10 (by kernel_rfl) 33 (by kernel_rfl); exact h
     have e2 : A.eval (.tmp 2) = (.slice ba bn bc) := (hout 2 (by kernel_rfl)).trans rfl
     refine ifw_want 10 false 33 rfl rfl e33 ?_
     with_reducible refine shown_q (Value.slice ba bn bc) ?qq_2_11 (fun _ _ => ?qr_2_11)
     case qr_2_11 => exact (rfl : (Value.slice ba bn bc) = (Value.slice ba bn bc))
     with_reducible refine quietAt_mv (.tmp 2) (Value.slice ba bn bc) ?h0_2_11 ?h1_2_11
     case h0_2_11 => rfl
     case h1_2_11 => exact e2
    ·intro A u hu hpu hsz hout hdeps
     have e33 : A.eval (.tmp 33) = (.bool false) := by have h := depL hdeps 10 (by kernel_rfl) 33 (by kernel_rfl); exact h
     have e34 : A.eval (.tmp 34) = (.slice ba bn bc) := by have h := depL hdeps 11 (by kernel_rfl) 34 (by kernel_rfl); exact h
     refine ifw_want 10 false 33 rfl rfl e33 ?_
     with_reducible refine shown_q (Value.int .i64 (bn : Nat)) ?qq_2_12 (fun _ _ => ?qr_2_12)
     case qr_2_12 => exact (rfl : (Value.int .i64 (bn : Nat)) = (Value.int .i64 (bn : Nat)))
     with_reducible refine quietAt_len (.tmp 34) 74 ?h0_2_12 ba bn bc ?h1_2_12 ?h2_2_12
     case h0_2_12 => rfl
     case h1_2_12 => exact e34
     case h2_2_12 => kernel_rfl
    ·intro A u hu hpu hsz hout hdeps
     have e33 : A.eval (.tmp 33) = (.bool false) := by have h := depL hdeps 10 (by kernel_rfl) 33 (by kernel_rfl); exact h
     have e0 : A.eval (.tmp 0) = (.pointer (some ⟨b, 0, none⟩)) := (hout 0 (by kernel_rfl)).trans rfl
     refine ifw_want 10 false 33 rfl rfl e33 ?_
     with_reducible refine shown_q (Value.pointer (some ⟨b, 0, none⟩)) ?qq_2_13 (fun _ _ => ?qr_2_13)
     case qr_2_13 => exact (rfl : (Value.pointer (some ⟨b, 0, none⟩)) = (Value.pointer (some ⟨b, 0, none⟩)))
     with_reducible refine quietAt_mv (.tmp 0) (Value.pointer (some ⟨b, 0, none⟩)) ?h0_2_13 ?h1_2_13
     case h0_2_13 => rfl
     case h1_2_13 => exact e0
    ·intro A u hu hpu hsz hout hdeps
     have e33 : A.eval (.tmp 33) = (.bool false) := by have h := depL hdeps 10 (by kernel_rfl) 33 (by kernel_rfl); exact h
     have e36 : A.eval (.tmp 36) = (.pointer (some ⟨b, 0, none⟩)) := by have h := depL hdeps 13 (by kernel_rfl) 36 (by kernel_rfl); exact h
     refine ifw_want 10 false 33 rfl rfl e33 ?_
     with_reducible refine shown_q (Value.pointer (some ⟨b, 0, none⟩)) ?qq_2_14 (fun _ _ => ?qr_2_14)
     case qr_2_14 => exact (rfl : (Value.pointer (some ⟨b, 0, none⟩)) = (Value.pointer (some ⟨b, 0, none⟩)))
     with_reducible refine quietAt_nil (.tmp 36) ?h0_2_14 ⟨b, 0, none⟩ ?h1_2_14
     case h0_2_14 => rfl
     case h1_2_14 => exact e36
    ·intro A u hu hpu hsz hout hdeps
     have e33 : A.eval (.tmp 33) = (.bool false) := by have h := depL hdeps 10 (by kernel_rfl) 33 (by kernel_rfl); exact h
     have e37 : A.eval (.tmp 37) = (.pointer (some ⟨b, 0, none⟩)) := by have h := depL hdeps 14 (by kernel_rfl) 37 (by kernel_rfl); exact h
     refine ifw_want 10 false 33 rfl rfl e33 ?_
     with_reducible refine shown_q (Value.pointer (some ⟨b, 0, none⟩)) ?qq_2_15 (fun _ _ => ?qr_2_15)
     case qr_2_15 => exact (rfl : (Value.pointer (some ⟨b, 0, none⟩)) = (Value.pointer (some ⟨b, 0, none⟩)))
     with_reducible refine quietAt_field 113 (.tmp 37) 0 ?h0_2_15 ⟨b, 0, none⟩ ⟨b, 0, none⟩ ?h1_2_15 ?h2_2_15
     case h0_2_15 => rfl
     case h1_2_15 => exact e37
     case h2_2_15 => kernel_rfl
    ·intro A u hu hpu hsz hout hdeps
     have e33 : A.eval (.tmp 33) = (.bool false) := by have h := depL hdeps 10 (by kernel_rfl) 33 (by kernel_rfl); exact h
     have e38 : A.eval (.tmp 38) = (.pointer (some ⟨b, 0, none⟩)) := by have h := depL hdeps 15 (by kernel_rfl) 38 (by kernel_rfl); exact h
     refine ifw_want 10 false 33 rfl rfl e33 ?_
     with_reducible refine shown_q (Value.int .i64 rm) ?qq_2_16 (fun _ _ => ?qr_2_16)
     case qr_2_16 => exact (rfl : (Value.int .i64 rm) = (Value.int .i64 rm))
     with_reducible refine quietAt_ld 3 (.tmp 38) (Value.pointer (some ⟨b, 0, none⟩)) (Value.int .i64 rm) ?h0_2_16 ?h1_2_16 ?h2_2_16
     case h0_2_16 => rfl
     case h1_2_16 => exact e38
     case h2_2_16 => exact ld3 b 0 rm u (HY.out u (gtrans HG5.out hu)).1
    ·intro A u hu hpu hsz hout hdeps
     have e33 : A.eval (.tmp 33) = (.bool false) := by have h := depL hdeps 10 (by kernel_rfl) 33 (by kernel_rfl); exact h
     have e0 : A.eval (.tmp 0) = (.pointer (some ⟨b, 0, none⟩)) := (hout 0 (by kernel_rfl)).trans rfl
     refine ifw_want 10 false 33 rfl rfl e33 ?_
     with_reducible refine shown_q (Value.pointer (some ⟨b, 0, none⟩)) ?qq_2_17 (fun _ _ => ?qr_2_17)
     case qr_2_17 => exact (rfl : (Value.pointer (some ⟨b, 0, none⟩)) = (Value.pointer (some ⟨b, 0, none⟩)))
     with_reducible refine quietAt_mv (.tmp 0) (Value.pointer (some ⟨b, 0, none⟩)) ?h0_2_17 ?h1_2_17
     case h0_2_17 => rfl
     case h1_2_17 => exact e0
    ·intro A u hu hpu hsz hout hdeps
     have e33 : A.eval (.tmp 33) = (.bool false) := by have h := depL hdeps 10 (by kernel_rfl) 33 (by kernel_rfl); exact h
     have e40 : A.eval (.tmp 40) = (.pointer (some ⟨b, 0, none⟩)) := by have h := depL hdeps 17 (by kernel_rfl) 40 (by kernel_rfl); exact h
     refine ifw_want 10 false 33 rfl rfl e33 ?_
     with_reducible refine shown_call 43 Tryz.f43 ?h0_2_18 ?h1_2_18 ?h2_2_18 #[.tmp 40] #[30] ?h3_2_18 #[(Value.pointer (some ⟨b, 0, none⟩))] ?h4_2_18 ?h5_2_18
     case h0_2_18 => exact Tryz.func43
     case h1_2_18 => kernel_rfl
     case h2_2_18 => kernel_rfl
     case h3_2_18 => rfl
     case h4_2_18 => exact map1 _ _ _ e40
     case h5_2_18 => exact HUs.out u (gtrans HG5.out hu)
    ·intro A u hu hpu hsz hout hdeps
     have e33 : A.eval (.tmp 33) = (.bool false) := by have h := depL hdeps 10 (by kernel_rfl) 33 (by kernel_rfl); exact h
     have e39 : A.eval (.tmp 39) = (.int .i64 rm) := by have h := depL hdeps 16 (by kernel_rfl) 39 (by kernel_rfl); exact h
     have f41 : (fun v _ => v = Value.int .i64 (us : Nat)) (A.eval (.tmp 41)) u := by have h := depL hdeps 18 (by kernel_rfl) 41 (by kernel_rfl); exact h
     have e41 := (f41 : _ = Value.int .i64 (us : Nat))
     refine ifw_want 10 false 33 rfl rfl e33 ?_
     with_reducible refine shown_q (Value.int .i64 (rm - (us : Int))) ?qq_2_19 (fun _ _ => ?qr_2_19)
     case qr_2_19 => exact (rfl : (Value.int .i64 (rm - (us : Int))) = (Value.int .i64 (rm - (us : Int))))
     with_reducible refine quietAt_bin .sub 3 (.tmp 39) (.tmp 41) 3 (Value.int .i64 rm) (Value.int .i64 (us : Nat)) (Value.int .i64 (rm - (us : Int))) ?h0_2_19 ?h1_2_19 ?h2_2_19 ?h3_2_19
     case h0_2_19 => rfl
     case h1_2_19 => exact e39
     case h2_2_19 => exact e41
     case h3_2_19 => exact HSub.out _ _ u
    ·intro A u hu hpu hsz hout hdeps
     have e33 : A.eval (.tmp 33) = (.bool false) := by have h := depL hdeps 10 (by kernel_rfl) 33 (by kernel_rfl); exact h
     have e35 : A.eval (.tmp 35) = (.int .i64 (bn : Nat)) := by have h := depL hdeps 12 (by kernel_rfl) 35 (by kernel_rfl); exact h
     have e42 : A.eval (.tmp 42) = (.int .i64 (rm - (us : Int))) := by have h := depL hdeps 19 (by kernel_rfl) 42 (by kernel_rfl); exact h
     refine ifw_want 10 false 33 rfl rfl e33 ?_
     with_reducible refine shown_q (Value.bool false) ?qq_2_20 (fun _ _ => ?qr_2_20)
     case qr_2_20 => exact (rfl : (Value.bool false) = (Value.bool false))
     with_reducible refine quietAt_bin .gtr 3 (.tmp 35) (.tmp 42) 3 (Value.int .i64 (bn : Nat)) (Value.int .i64 (rm - (us : Int))) (Value.bool false) ?h0_2_20 ?h1_2_20 ?h2_2_20 ?h3_2_20
     case h0_2_20 => rfl
     case h1_2_20 => exact e35
     case h2_2_20 => exact e42
     case h3_2_20 => exact HGt.out _ _ u
    ·intro A u hu hpu hsz hout hdeps
     have e33 : A.eval (.tmp 33) = (.bool false) := by have h := depL hdeps 10 (by kernel_rfl) 33 (by kernel_rfl); exact h
     have e43 : A.eval (.tmp 43) = (.bool false) := by have h := depL hdeps 20 (by kernel_rfl) 43 (by kernel_rfl); exact h
     refine ifw_none rfl ?_
     with_reducible refine shown_q (Value.bool false) ?qq_2_21 (fun _ _ => ?qr_2_21)
     case qr_2_21 => exact (rfl : (Value.bool false) = (Value.bool false))
     with_reducible refine quietAt_pick (.tmp 33) (.const (.bool true)) (.tmp 43) false (Value.bool false) ?h0_2_21 ?h1_2_21 ?h2_2_21
     case h0_2_21 => rfl
     case h1_2_21 => exact e33
     case h2_2_21 => rw [if_neg (by decide)]; exact e43
    ·intro A u8 listed hh hall
     have hA := hh.frame
     have HU := hid hh.grown
     obtain ⟨x23, hx23⟩ : ∃ x, A.eval (.tmp 23) = x := ⟨_, rfl⟩
     have f23 : (fun v _ => v = (Value.bool false)) x23 u8 := by rw [← hx23]; exact hh.got 0 _ 23 rfl rfl (hall 0 (by decide))
     obtain ⟨x24, hx24⟩ : ∃ x, A.eval (.tmp 24) = x := ⟨_, rfl⟩
     have f24 : (fun v _ => v = (Value.bool true)) x24 u8 := by rw [← hx24]; exact hh.got 1 _ 24 rfl rfl (hall 1 (by decide))
     obtain ⟨x25, hx25⟩ : ∃ x, A.eval (.tmp 25) = x := ⟨_, rfl⟩
     have f25 : (fun v _ => v = (Value.bool true)) x25 u8 := by rw [← hx25]; exact hh.got 2 _ 25 rfl rfl (hall 2 (by decide))
     obtain ⟨x26, hx26⟩ : ∃ x, A.eval (.tmp 26) = x := ⟨_, rfl⟩
     have f26 : (fun v _ => v = (Value.pointer (some ⟨b, 0, none⟩))) x26 u8 := by rw [← hx26]; exact hh.got 3 _ 26 rfl rfl (hall 3 (by decide))
     obtain ⟨x27, hx27⟩ : ∃ x, A.eval (.tmp 27) = x := ⟨_, rfl⟩
     have f27 : (fun v _ => v = (Value.pointer (some ⟨b, 0, none⟩))) x27 u8 := by rw [← hx27]; exact hh.got 4 _ 27 rfl rfl (hall 4 (by decide))
     obtain ⟨x28, hx28⟩ : ∃ x, A.eval (.tmp 28) = x := ⟨_, rfl⟩
     have f28 : (fun v _ => v = (Value.pointer (some ⟨b, 1, none⟩))) x28 u8 := by rw [← hx28]; exact hh.got 5 _ 28 rfl rfl (hall 5 (by decide))
     obtain ⟨x29, hx29⟩ : ∃ x, A.eval (.tmp 29) = x := ⟨_, rfl⟩
     have f29 : (fun v _ => v = (Value.slice sa sn sc)) x29 u8 := by rw [← hx29]; exact hh.got 6 _ 29 rfl rfl (hall 6 (by decide))
     obtain ⟨x30, hx30⟩ : ∃ x, A.eval (.tmp 30) = x := ⟨_, rfl⟩
     have f30 : (fun v _ => v = (Value.int .i64 (sn : Nat))) x30 u8 := by rw [← hx30]; exact hh.got 7 _ 30 rfl rfl (hall 7 (by decide))
     obtain ⟨x31, hx31⟩ : ∃ x, A.eval (.tmp 31) = x := ⟨_, rfl⟩
     have f31 : (fun v _ => v = (Value.bool false)) x31 u8 := by rw [← hx31]; exact hh.got 8 _ 31 rfl rfl (hall 8 (by decide))
     obtain ⟨x32, hx32⟩ : ∃ x, A.eval (.tmp 32) = x := ⟨_, rfl⟩
     have f32 : (fun v _ => v = (Value.bool false)) x32 u8 := by rw [← hx32]; exact hh.got 9 _ 32 rfl rfl (hall 9 (by decide))
     obtain ⟨x33, hx33⟩ : ∃ x, A.eval (.tmp 33) = x := ⟨_, rfl⟩
     have f33 : (fun v _ => v = (Value.bool false)) x33 u8 := by rw [← hx33]; exact hh.got 10 _ 33 rfl rfl (hall 10 (by decide))
     obtain ⟨x34, hx34⟩ : ∃ x, A.eval (.tmp 34) = x := ⟨_, rfl⟩
     have f34 : (fun v _ => v = (Value.slice ba bn bc)) x34 u8 := by rw [← hx34]; exact hh.got 11 _ 34 rfl rfl (hall 11 (by decide))
     obtain ⟨x35, hx35⟩ : ∃ x, A.eval (.tmp 35) = x := ⟨_, rfl⟩
     have f35 : (fun v _ => v = (Value.int .i64 (bn : Nat))) x35 u8 := by rw [← hx35]; exact hh.got 12 _ 35 rfl rfl (hall 12 (by decide))
     obtain ⟨x36, hx36⟩ : ∃ x, A.eval (.tmp 36) = x := ⟨_, rfl⟩
     have f36 : (fun v _ => v = (Value.pointer (some ⟨b, 0, none⟩))) x36 u8 := by rw [← hx36]; exact hh.got 13 _ 36 rfl rfl (hall 13 (by decide))
     obtain ⟨x37, hx37⟩ : ∃ x, A.eval (.tmp 37) = x := ⟨_, rfl⟩
     have f37 : (fun v _ => v = (Value.pointer (some ⟨b, 0, none⟩))) x37 u8 := by rw [← hx37]; exact hh.got 14 _ 37 rfl rfl (hall 14 (by decide))
     obtain ⟨x38, hx38⟩ : ∃ x, A.eval (.tmp 38) = x := ⟨_, rfl⟩
     have f38 : (fun v _ => v = (Value.pointer (some ⟨b, 0, none⟩))) x38 u8 := by rw [← hx38]; exact hh.got 15 _ 38 rfl rfl (hall 15 (by decide))
     obtain ⟨x39, hx39⟩ : ∃ x, A.eval (.tmp 39) = x := ⟨_, rfl⟩
     have f39 : (fun v _ => v = (Value.int .i64 rm)) x39 u8 := by rw [← hx39]; exact hh.got 16 _ 39 rfl rfl (hall 16 (by decide))
     obtain ⟨x40, hx40⟩ : ∃ x, A.eval (.tmp 40) = x := ⟨_, rfl⟩
     have f40 : (fun v _ => v = (Value.pointer (some ⟨b, 0, none⟩))) x40 u8 := by rw [← hx40]; exact hh.got 17 _ 40 rfl rfl (hall 17 (by decide))
     obtain ⟨x41, hx41⟩ : ∃ x, A.eval (.tmp 41) = x := ⟨_, rfl⟩
     have f41 : (fun v _ => v = Value.int .i64 (us : Nat)) x41 u8 := by rw [← hx41]; exact hh.got 18 _ 41 rfl rfl (hall 18 (by decide))
     obtain ⟨x42, hx42⟩ : ∃ x, A.eval (.tmp 42) = x := ⟨_, rfl⟩
     have f42 : (fun v _ => v = (Value.int .i64 (rm - (us : Int)))) x42 u8 := by rw [← hx42]; exact hh.got 19 _ 42 rfl rfl (hall 19 (by decide))
     obtain ⟨x43, hx43⟩ : ∃ x, A.eval (.tmp 43) = x := ⟨_, rfl⟩
     have f43 : (fun v _ => v = (Value.bool false)) x43 u8 := by rw [← hx43]; exact hh.got 20 _ 43 rfl rfl (hall 20 (by decide))
     obtain ⟨x44, hx44⟩ : ∃ x, A.eval (.tmp 44) = x := ⟨_, rfl⟩
     have f44 : (fun v _ => v = (Value.bool false)) x44 u8 := by rw [← hx44]; exact hh.got 21 _ 44 rfl rfl (hall 21 (by decide))
     dsimp only [wrote, List.foldl] at hA
     rw [hx23, hx24, hx25, hx26, hx27, hx28, hx29, hx30, hx31, hx32, hx33, hx34, hx35, hx36, hx37, hx38, hx39, hx40, hx41, hx42, hx43, hx44] at hA
     clear hh hall hx23 hx24 hx25 hx26 hx27 hx28 hx29 hx30 hx31 hx32 hx33 hx34 hx35 hx36 hx37 hx38 hx39 hx40 hx41 hx42 hx43 hx44
     replace f23 := (f23 : x23 = (.bool false))
     subst f23
     replace f24 := (f24 : x24 = (.bool true))
     subst f24
     replace f25 := (f25 : x25 = (.bool true))
     subst f25
     replace f26 := (f26 : x26 = (.pointer (some ⟨b, 0, none⟩)))
     subst f26
     replace f27 := (f27 : x27 = (.pointer (some ⟨b, 0, none⟩)))
     subst f27
     replace f28 := (f28 : x28 = (.pointer (some ⟨b, 1, none⟩)))
     subst f28
     replace f29 := (f29 : x29 = (.slice sa sn sc))
     subst f29
     replace f30 := (f30 : x30 = (.int .i64 (sn : Nat)))
     subst f30
     replace f31 := (f31 : x31 = (.bool false))
     subst f31
     replace f32 := (f32 : x32 = (.bool false))
     subst f32
     replace f33 := (f33 : x33 = (.bool false))
     subst f33
     replace f34 := (f34 : x34 = (.slice ba bn bc))
     subst f34
     replace f35 := (f35 : x35 = (.int .i64 (bn : Nat)))
     subst f35
     replace f36 := (f36 : x36 = (.pointer (some ⟨b, 0, none⟩)))
     subst f36
     replace f37 := (f37 : x37 = (.pointer (some ⟨b, 0, none⟩)))
     subst f37
     replace f38 := (f38 : x38 = (.pointer (some ⟨b, 0, none⟩)))
     subst f38
     replace f39 := (f39 : x39 = (.int .i64 rm))
     subst f39
     replace f40 := (f40 : x40 = (.pointer (some ⟨b, 0, none⟩)))
     subst f40
     have e41 := (f41 : _ = Value.int .i64 (us : Nat))
     subst e41
     replace f42 := (f42 : x42 = (.int .i64 (rm - (us : Int))))
     subst f42
     replace f43 := (f43 : x43 = (.bool false))
     subst f43
     replace f44 := (f44 : x44 = (.bool false))
     subst f44
     subst hA
     show wpList _ _ _ [] _ _
     unfold wpList
     simp only [Act.put, List.setIfInBounds_toArray, List.set_cons_succ, List.set_cons_zero]
     have HG6 : Hid (w.grownBy u8 none) := hid (gtrans HG5.out HU.out)
     by_cases h1 : ar = 1
     rotate_left
     ·as_aux_lemma =>
      have e1 : wK ar kp = 9223372036854775807 := by unfold wK; rw [if_neg h1]
      have e2 : wE ar = 0 := by unfold wE; rw [if_neg h1]
      have HEe : Hid (ee = 0) := hid (by rw [HE1.out rfl, e2])
      rw [decide_eq_false h1] at HTo
      have HLk := hid (HLy.out rfl bn (.inl ⟨by rw [e1]; decide, by rw [e1]; omega⟩))
      have HTk : Hid (l.take bn = l) := hid (List.take_of_length_le (by have := HOnl.out.2; omega))
      rw [HTk.out] at HLk
      go_upto_region 8 with (go_at_call 116; (with_reducible refine (HTo.out _ HG6.out).mono ?_); rintro e w7 ⟨rfl, hr, hg⟩; have HR7 := hid hr; have HG7 := hid (gtrans (gany HG6.out _) hg); have y3 := HKp.out w7 hr; clear hr hg)
      go_wp2_with (first
       | (go_at_call 114; (with_reducible refine (HBy.out _ _ HR7.out HXC.out).mono ?_); rintro e w8 ⟨v8, rfl, hg, va, vc, rfl, ho⟩; have HO8 := hid ho; have HG8 := hid (gtrans HG7.out (gany hg _)); have HR8 := hid (HR7.out.keep hg); clear ho hg)
       | (go_at_call 100; (with_reducible refine (copyR_any _ _ _ _ HO8.out.rd (by have := HOnl.out.1; omega)).mono ?_); rintro e w9 ⟨v9, rfl, ho, hg⟩; obtain ⟨a9, c9, rfl⟩ := ho.len; have HO9 := hid ho; have HG9 := hid hg; clear ho hg)
       | (at_builtin; (refine wpList_append_at rfl _ _ rfl w8.heap.size F ol l HO9.out (HRl.out _ (gtrans HG8.out (gany HG9.out _))) (by have := HOnl.out; omega) HG9.out.size ?_); intro v10 w10 ho hg hb; obtain ⟨a10, c10, hv10⟩ := ho.len; obtain ⟨n10, Hn10⟩ : ∃ x, Hid ((ol ++ l).length = x) := ⟨_, hid rfl⟩; rw [Hn10.out] at hv10; subst hv10; have HO10 := hid ho; have HG10 : Hid (w8.grownBy w10 none) := hid (HG9.out.andThen hg (fun j hj => .inl (HO9.out.block j hj))); clear ho hg hb)
       | (with_reducible refine wpList_build_of (by with_unfolding_all rfl) 117 _ (by with_unfolding_all rfl) [(0, .string s), (1, .slice a10 n10 c10)] (by with_unfolding_all rfl) [Value.string s, .slice a10 n10 c10] (built130 s a10 n10 c10) ?_)
       | (go_at_call 44; (with_reducible refine (HLk.out _ _ _ _ (gtrans HG8.out (gany HG10.out _)) (HR8.out.keep HG10.out) (HO10.out.below (by have h1 := HBw.out; have h2 := HG8.out.size; omega)) (fun k hk => by have h1 := HO10.out.block k hk; have h2 := HG8.out.size; omega)).mono ?_); rintro e w11 ⟨rfl, hr⟩; have HR11 := hid hr; clear hr))
      go_ret
      exact ⟨by rw [HEe.out]; rfl, HR11.out⟩
     subst h1
     have e1 : wK 1 kp = kp := rfl
     have HEe : Hid (ee = 94) := hid (HE1.out rfl)
     rw [e1] at HLy HNo
     have hd : decide ((1 : Int) = 1) = true := rfl
     rw [hd] at HTo
     by_cases hkn : kp < 0
     ·as_aux_lemma =>
      have hk1 : ¬ (bn : Int) < kp := by omega
      have hk0 : kp < 0 := hkn
      have hk3 : ¬ (0 : Int) < kp := by omega
      go_wp2_with (go_at_call 116; (with_reducible refine (HTo.out _ HG6.out).mono ?_); rintro e w7 ⟨rfl, hr, hg⟩; have HR7 := hid hr; have HG7 := hid (gtrans (gany HG6.out _) hg); have y3 := HKp.out w7 hr; clear hr hg)
      go_ret
      exact ⟨by rw [HEe.out]; rfl, by rw [HNo.out trivial (by omega)]; exact REnd.of HR7.out HG7.out⟩
     by_cases hkz : kp = 0
     ·as_aux_lemma =>
      subst hkz
      have hk1 : ¬ (bn : Int) < 0 := by omega
      have hk3 : ¬ (0 : Int) < 0 := by omega
      go_wp2_with (go_at_call 116; (with_reducible refine (HTo.out _ HG6.out).mono ?_); rintro e w7 ⟨rfl, hr, hg⟩; have HR7 := hid hr; have HG7 := hid (gtrans (gany HG6.out _) hg); have y3 := HKp.out w7 hr; clear hr hg)
      go_ret
      exact ⟨by rw [HEe.out]; rfl, by rw [HNo.out trivial (by omega)]; exact REnd.of HR7.out HG7.out⟩
     by_cases hkb : kp ≤ (bn : Int)
     ·as_aux_lemma =>
      obtain ⟨kk, rfl⟩ : ∃ kk : Nat, kp = (kk : Int) := ⟨kp.toNat, by omega⟩
      have hk1 : ¬ (bn : Int) < (kk : Int) := by omega
      have hk0 : ¬ (kk : Int) < 0 := by omega
      have hk3 : (0 : Int) < (kk : Int) := by omega
      have HLk := hid (HLy.out rfl kk (.inl ⟨hk3, by omega⟩))
      go_upto_region 16 with (go_at_call 116; (with_reducible refine (HTo.out _ HG6.out).mono ?_); rintro e w7 ⟨rfl, hr, hg⟩; have HR7 := hid hr; have HG7 := hid (gtrans (gany HG6.out _) hg); have y3 := HKp.out w7 hr; clear hr hg)
      have HSl : ∀ u : World, (Instr.sliceAt 74 (.slice ba bn bc) none (some (.int .i64 (kk : Nat))) none).run Tryz.prog u = .ok (.slice ba kk bc) u := fun u => sliceh_run ba bn bc kk (by omega) u
      obtain ⟨x7, hx7⟩ : ∃ x, w7.drew = x := ⟨_, rfl⟩
      have HD7 : Hid (w7.grownBy x7 none) := hid (by rw [← hx7]; exact gdrew1 _ _)
      have HRx := hid (HR7.out.keep HD7.out)
      refine wp_calm ?_
      refine wp_region_held_drew (S := (fun _ => True)) (by kernel_rfl) ?_ (fun hHeld => ?_)
      ·exact trivial
      rw [hx7]
      clear hx7
      have hS8 : True := trivial
      refine wpAnyH_take (i := 0) (oi := { dst := some 78, op := Op.move (Operand.tmp 0), type := 30, pos := "posternref9.go:152", after := #[], guard := none }) (v := (.pointer (some ⟨b, 0, none⟩))) rfl (by kernel_rfl) (by kernel_rfl) (by kernel_rfl) (fun _ _ _ h => by cases h.1) (Or.inl ⟨by rfl, by intro u hSu; go_simp⟩) (by assumption) ?_
      (try simp only [Act.put, List.setIfInBounds_toArray, List.set_cons_zero, List.set_cons_succ])
      refine wpAnyH_take (i := 1) (oi := { dst := some 79, op := Op.move (Operand.tmp 1), type := 9, pos := "posternref9.go:152", after := #[], guard := none }) (v := (.string s)) rfl (by kernel_rfl) (by kernel_rfl) (by kernel_rfl) (fun _ _ _ h => by cases h.1) (Or.inl ⟨by rfl, by intro u hSu; go_simp⟩) (by assumption) ?_
      (try simp only [Act.put, List.setIfInBounds_toArray, List.set_cons_zero, List.set_cons_succ])
      refine wpAnyH_take (i := 2) (oi := { dst := some 80, op := Op.move (Operand.tmp 0), type := 30, pos := "posternref9.go:152", after := #[], guard := none }) (v := (.pointer (some ⟨b, 0, none⟩))) rfl (by kernel_rfl) (by kernel_rfl) (by kernel_rfl) (fun _ _ _ h => by cases h.1) (Or.inl ⟨by rfl, by intro u hSu; go_simp⟩) (by assumption) ?_
      (try simp only [Act.put, List.setIfInBounds_toArray, List.set_cons_zero, List.set_cons_succ])
      refine wpAnyH_take (i := 3) (oi := { dst := some 81, op := Op.move (Operand.tmp 1), type := 9, pos := "posternref9.go:152", after := #[], guard := none }) (v := (.string s)) rfl (by kernel_rfl) (by kernel_rfl) (by kernel_rfl) (fun _ _ _ h => by cases h.1) (Or.inl ⟨by rfl, by intro u hSu; go_simp⟩) (by assumption) ?_
      (try simp only [Act.put, List.setIfInBounds_toArray, List.set_cons_zero, List.set_cons_succ])
      refine wpAnyH_take (i := 6) (oi := { dst := some 84, op := Op.move (Operand.tmp 2), type := 74, pos := "posternref9.go:152", after := #[], guard := none }) (v := (.slice ba bn bc)) rfl (by kernel_rfl) (by kernel_rfl) (by kernel_rfl) (fun _ _ _ h => by cases h.1) (Or.inl ⟨by rfl, by intro u hSu; go_simp⟩) (by assumption) ?_
      (try simp only [Act.put, List.setIfInBounds_toArray, List.set_cons_zero, List.set_cons_succ])
      refine wpAnyH_take (i := 7) (oi := { dst := some 85, op := Op.move (Operand.tmp 10), type := 3, pos := "posternref9.go:152", after := #[], guard := none }) (v := (.int .i64 (kk : Nat))) rfl (by kernel_rfl) (by kernel_rfl) (by kernel_rfl) (fun _ _ _ h => by cases h.1) (Or.inl ⟨by rfl, by intro u hSu; go_simp⟩) (by assumption) ?_
      (try simp only [Act.put, List.setIfInBounds_toArray, List.set_cons_zero, List.set_cons_succ])
      refine wpAnyH_take (i := 8) (oi := { dst := some 86, op := Op.slice 74 (Operand.tmp 84) none (some (Operand.tmp 85)) none, type := 74, pos := "posternref9.go:152", after := #[{ on := 6, ground := Ground.data }, { on := 7, ground := Ground.data }], guard := none }) (v := (.slice ba kk bc)) rfl (by kernel_rfl) (by kernel_rfl) (by kernel_rfl) (fun _ _ _ h => by cases h.1) (yieldsIf_sliceh rfl 74 (.tmp 84) (.tmp 85) rfl _ _ _ rfl rfl (fun u => HSl u)) (by assumption) ?_
      (try simp only [Act.put, List.setIfInBounds_toArray, List.set_cons_zero, List.set_cons_succ])
      refine wpAnyH_ready (rs := [4]) (by kernel_rfl) (by simp) ?_
      refine AllReadyH.cons (o := { dst := some 82, op := Op.call { callee := Callee.value (Operand.func 114), args := #[Operand.tmp 80, Operand.tmp 81], argTypes := #[30, 9] }, type := 74, pos := "posternref9.go:152", after := #[{ on := 2, ground := Ground.data }, { on := 3, ground := Ground.data }], guard := none }) rfl (fun K hK => ?_) AllReadyH.nil
      go_simp
      go_wp2_with (go_at_call 114; (with_reducible refine (HBy.out _ _ HRx.out HXC.out).mono ?_); rintro e w8 ⟨v8, rfl, hg, va, vc, rfl, ho⟩; have HO8 := hid ho; have HG8 := hid (gtrans HD7.out hg); have HR8 := hid (HRx.out.keep hg); clear ho hg)
      refine hK.out _ _ ?_ (fun hHeld => ?_)
      ·exact trivial
      clear hK K
      (try simp only [Act.put, List.setIfInBounds_toArray, List.set_cons_zero, List.set_cons_succ])
      refine wpAnyH_ready (rs := [5]) (by kernel_rfl) (by simp) ?_
      refine AllReadyH.cons (o := { dst := some 83, op := Op.call { callee := Callee.value (Operand.func 100), args := #[Operand.tmp 82], argTypes := #[74] }, type := 74, pos := "posternref9.go:152", after := #[{ on := 4, ground := Ground.data }, { on := 4, ground := Ground.chain }], guard := none }) rfl (fun K hK => ?_) AllReadyH.nil
      go_simp
      go_wp2_with (go_at_call 100; (with_reducible refine (copyR_any _ _ _ _ HO8.out.rd (by have := HOnl.out.1; omega)).mono ?_); rintro e w9 ⟨v9, rfl, ho, hg⟩; obtain ⟨a9, c9, rfl⟩ := ho.len; have HO9 := hid ho; have HG9 := hid hg; clear ho hg)
      refine hK.out _ _ ?_ (fun hHeld => ?_)
      ·exact trivial
      clear hK K
      (try simp only [Act.put, List.setIfInBounds_toArray, List.set_cons_zero, List.set_cons_succ])
      refine wpAnyH_ready (rs := [9]) (by kernel_rfl) (by simp) ?_
      refine AllReadyH.cons (o := { dst := some 87, op := Op.call { callee := Callee.builtin Builtin.append, args := #[Operand.tmp 83, Operand.tmp 86], argTypes := #[74, 74] }, type := 74, pos := "posternref9.go:152", after := #[{ on := 5, ground := Ground.data }, { on := 8, ground := Ground.data }, { on := 5, ground := Ground.chain }], guard := none }) rfl (fun K hK => ?_) AllReadyH.nil
      refine step_append_at rfl (.tmp 83) (.tmp 86) rfl w8.heap.size F ol (l.take kk) HO9.out ((HRl.out _ (gtrans (gtrans HG7.out (gany HG8.out _)) (gany HG9.out _))).take (by omega)) (by rw [List.length_take]; have := HOnl.out; omega) HG9.out.size ?_
      intro v10 w10 ho hg hb
      obtain ⟨a10, c10, hv10⟩ := ho.len
      obtain ⟨n10, Hn10⟩ : ∃ x, Hid ((ol ++ l.take kk).length = x) := ⟨_, hid rfl⟩
      rw [Hn10.out] at hv10
      subst hv10
      have HO10 := hid ho
      have HG10 : Hid (w8.grownBy w10 none) := hid (HG9.out.andThen hg (fun j hj => .inl (HO9.out.block j hj)))
      clear ho hg hb
      refine hK.out _ _ ?_ (fun hHeld => ?_)
      ·exact trivial
      clear hK K
      (try simp only [Act.put, List.setIfInBounds_toArray, List.set_cons_zero, List.set_cons_succ])
      refine wpAnyH_ready (rs := [10]) (by kernel_rfl) (by simp) ?_
      refine AllReadyH.cons (o := { dst := some 88, op := Op.build 117 #[(0, Operand.tmp 79), (1, Operand.tmp 87)], type := 117, pos := "posternref9.go:152", after := #[{ on := 1, ground := Ground.data }, { on := 9, ground := Ground.data }], guard := none }) rfl (fun K hK => ?_) AllReadyH.nil
      refine step_build_of rfl 117 #[(0, .tmp 79), (1, .tmp 87)] rfl [(0, .string s), (1, .slice a10 n10 c10)] (by with_unfolding_all rfl) [Value.string s, .slice a10 n10 c10] (built130 s a10 n10 c10) ?_
      refine hK.out _ _ ?_ (fun hHeld => ?_)
      ·exact trivial
      clear hK K
      (try simp only [Act.put, List.setIfInBounds_toArray, List.set_cons_zero, List.set_cons_succ])
      refine wpAnyH_ready (rs := [11]) (by kernel_rfl) (by simp) ?_
      refine AllReadyH.cons (o := { dst := some 89, op := Op.call { callee := Callee.value (Operand.func 44), args := #[Operand.tmp 78, Operand.tmp 88], argTypes := #[30, 117] }, type := 0, pos := "posternref9.go:152", after := #[{ on := 0, ground := Ground.data }, { on := 10, ground := Ground.data }, { on := 9, ground := Ground.chain }], guard := none }) rfl (fun K hK => ?_) AllReadyH.nil
      go_simp
      go_wp2_with (go_at_call 44; (with_reducible refine (HLk.out _ _ _ _ (gtrans (gtrans HG7.out (gany HG8.out _)) (gany HG10.out _)) (HR8.out.keep HG10.out) (HO10.out.below (by have h1 := HBw.out; have h2 := HG7.out.size; have h3 := HG8.out.size; omega)) (fun k hk => by have h1 := HO10.out.block k hk; have h2 := HG7.out.size; have h3 := HG8.out.size; omega)).mono ?_); rintro e w11 ⟨rfl, hr⟩; have HR11 := hid hr; clear hr)
      refine hK.out _ _ ?_ (fun hHeld => ?_)
      ·exact trivial
      clear hK K
      (try simp only [Act.put, List.setIfInBounds_toArray, List.set_cons_zero, List.set_cons_succ])
      refine wpAnyH_done (by kernel_rfl) ?_ _
      refine ⟨rfl, ?_⟩
      go_wp2_with fail
      go_ret
      exact ⟨by rw [HEe.out]; rfl, HR11.out⟩
     ·as_aux_lemma =>
      have hk1 : (bn : Int) < kp := by omega
      have hk0 : ¬ kp < 0 := by omega
      have hk2 : ¬ (bn : Int) < 0 := by omega
      have hk3 : (0 : Int) < kp := by omega
      have HLk := hid (HLy.out rfl bn (.inl ⟨hk3, by omega⟩))
      go_upto_region 16 with (go_at_call 116; (with_reducible refine (HTo.out _ HG6.out).mono ?_); rintro e w7 ⟨rfl, hr, hg⟩; have HR7 := hid hr; have HG7 := hid (gtrans (gany HG6.out _) hg); have y3 := HKp.out w7 hr; clear hr hg)
      have HSl : ∀ u : World, (Instr.sliceAt 74 (.slice ba bn bc) none (some (.int .i64 (bn : Nat))) none).run Tryz.prog u = .ok (.slice ba bn bc) u := fun u => sliceh_run ba bn bc bn (by omega) u
      obtain ⟨x7, hx7⟩ : ∃ x, w7.drew = x := ⟨_, rfl⟩
      have HD7 : Hid (w7.grownBy x7 none) := hid (by rw [← hx7]; exact gdrew1 _ _)
      have HRx := hid (HR7.out.keep HD7.out)
      refine wp_calm ?_
      refine wp_region_held_drew (S := (fun _ => True)) (by kernel_rfl) ?_ (fun hHeld => ?_)
      ·exact trivial
      rw [hx7]
      clear hx7
      have hS8 : True := trivial
      refine wpAnyH_take (i := 0) (oi := { dst := some 78, op := Op.move (Operand.tmp 0), type := 30, pos := "posternref9.go:152", after := #[], guard := none }) (v := (.pointer (some ⟨b, 0, none⟩))) rfl (by kernel_rfl) (by kernel_rfl) (by kernel_rfl) (fun _ _ _ h => by cases h.1) (Or.inl ⟨by rfl, by intro u hSu; go_simp⟩) (by assumption) ?_
      (try simp only [Act.put, List.setIfInBounds_toArray, List.set_cons_zero, List.set_cons_succ])
      refine wpAnyH_take (i := 1) (oi := { dst := some 79, op := Op.move (Operand.tmp 1), type := 9, pos := "posternref9.go:152", after := #[], guard := none }) (v := (.string s)) rfl (by kernel_rfl) (by kernel_rfl) (by kernel_rfl) (fun _ _ _ h => by cases h.1) (Or.inl ⟨by rfl, by intro u hSu; go_simp⟩) (by assumption) ?_
      (try simp only [Act.put, List.setIfInBounds_toArray, List.set_cons_zero, List.set_cons_succ])
      refine wpAnyH_take (i := 2) (oi := { dst := some 80, op := Op.move (Operand.tmp 0), type := 30, pos := "posternref9.go:152", after := #[], guard := none }) (v := (.pointer (some ⟨b, 0, none⟩))) rfl (by kernel_rfl) (by kernel_rfl) (by kernel_rfl) (fun _ _ _ h => by cases h.1) (Or.inl ⟨by rfl, by intro u hSu; go_simp⟩) (by assumption) ?_
      (try simp only [Act.put, List.setIfInBounds_toArray, List.set_cons_zero, List.set_cons_succ])
      refine wpAnyH_take (i := 3) (oi := { dst := some 81, op := Op.move (Operand.tmp 1), type := 9, pos := "posternref9.go:152", after := #[], guard := none }) (v := (.string s)) rfl (by kernel_rfl) (by kernel_rfl) (by kernel_rfl) (fun _ _ _ h => by cases h.1) (Or.inl ⟨by rfl, by intro u hSu; go_simp⟩) (by assumption) ?_
      (try simp only [Act.put, List.setIfInBounds_toArray, List.set_cons_zero, List.set_cons_succ])
      refine wpAnyH_take (i := 6) (oi := { dst := some 84, op := Op.move (Operand.tmp 2), type := 74, pos := "posternref9.go:152", after := #[], guard := none }) (v := (.slice ba bn bc)) rfl (by kernel_rfl) (by kernel_rfl) (by kernel_rfl) (fun _ _ _ h => by cases h.1) (Or.inl ⟨by rfl, by intro u hSu; go_simp⟩) (by assumption) ?_
      (try simp only [Act.put, List.setIfInBounds_toArray, List.set_cons_zero, List.set_cons_succ])
      refine wpAnyH_take (i := 7) (oi := { dst := some 85, op := Op.move (Operand.tmp 10), type := 3, pos := "posternref9.go:152", after := #[], guard := none }) (v := (.int .i64 (bn : Nat))) rfl (by kernel_rfl) (by kernel_rfl) (by kernel_rfl) (fun _ _ _ h => by cases h.1) (Or.inl ⟨by rfl, by intro u hSu; go_simp⟩) (by assumption) ?_
      (try simp only [Act.put, List.setIfInBounds_toArray, List.set_cons_zero, List.set_cons_succ])
      refine wpAnyH_take (i := 8) (oi := { dst := some 86, op := Op.slice 74 (Operand.tmp 84) none (some (Operand.tmp 85)) none, type := 74, pos := "posternref9.go:152", after := #[{ on := 6, ground := Ground.data }, { on := 7, ground := Ground.data }], guard := none }) (v := (.slice ba bn bc)) rfl (by kernel_rfl) (by kernel_rfl) (by kernel_rfl) (fun _ _ _ h => by cases h.1) (yieldsIf_sliceh rfl 74 (.tmp 84) (.tmp 85) rfl _ _ _ rfl rfl (fun u => HSl u)) (by assumption) ?_
      (try simp only [Act.put, List.setIfInBounds_toArray, List.set_cons_zero, List.set_cons_succ])
      refine wpAnyH_ready (rs := [4]) (by kernel_rfl) (by simp) ?_
      refine AllReadyH.cons (o := { dst := some 82, op := Op.call { callee := Callee.value (Operand.func 114), args := #[Operand.tmp 80, Operand.tmp 81], argTypes := #[30, 9] }, type := 74, pos := "posternref9.go:152", after := #[{ on := 2, ground := Ground.data }, { on := 3, ground := Ground.data }], guard := none }) rfl (fun K hK => ?_) AllReadyH.nil
      go_simp
      go_wp2_with (go_at_call 114; (with_reducible refine (HBy.out _ _ HRx.out HXC.out).mono ?_); rintro e w8 ⟨v8, rfl, hg, va, vc, rfl, ho⟩; have HO8 := hid ho; have HG8 := hid (gtrans HD7.out hg); have HR8 := hid (HRx.out.keep hg); clear ho hg)
      refine hK.out _ _ ?_ (fun hHeld => ?_)
      ·exact trivial
      clear hK K
      (try simp only [Act.put, List.setIfInBounds_toArray, List.set_cons_zero, List.set_cons_succ])
      refine wpAnyH_ready (rs := [5]) (by kernel_rfl) (by simp) ?_
      refine AllReadyH.cons (o := { dst := some 83, op := Op.call { callee := Callee.value (Operand.func 100), args := #[Operand.tmp 82], argTypes := #[74] }, type := 74, pos := "posternref9.go:152", after := #[{ on := 4, ground := Ground.data }, { on := 4, ground := Ground.chain }], guard := none }) rfl (fun K hK => ?_) AllReadyH.nil
      go_simp
      go_wp2_with (go_at_call 100; (with_reducible refine (copyR_any _ _ _ _ HO8.out.rd (by have := HOnl.out.1; omega)).mono ?_); rintro e w9 ⟨v9, rfl, ho, hg⟩; obtain ⟨a9, c9, rfl⟩ := ho.len; have HO9 := hid ho; have HG9 := hid hg; clear ho hg)
      refine hK.out _ _ ?_ (fun hHeld => ?_)
      ·exact trivial
      clear hK K
      (try simp only [Act.put, List.setIfInBounds_toArray, List.set_cons_zero, List.set_cons_succ])
      refine wpAnyH_ready (rs := [9]) (by kernel_rfl) (by simp) ?_
      refine AllReadyH.cons (o := { dst := some 87, op := Op.call { callee := Callee.builtin Builtin.append, args := #[Operand.tmp 83, Operand.tmp 86], argTypes := #[74, 74] }, type := 74, pos := "posternref9.go:152", after := #[{ on := 5, ground := Ground.data }, { on := 8, ground := Ground.data }, { on := 5, ground := Ground.chain }], guard := none }) rfl (fun K hK => ?_) AllReadyH.nil
      refine step_append_at rfl (.tmp 83) (.tmp 86) rfl w8.heap.size F ol (l.take bn) HO9.out ((HRl.out _ (gtrans (gtrans HG7.out (gany HG8.out _)) (gany HG9.out _))).take (by omega)) (by rw [List.length_take]; have := HOnl.out; omega) HG9.out.size ?_
      intro v10 w10 ho hg hb
      obtain ⟨a10, c10, hv10⟩ := ho.len
      obtain ⟨n10, Hn10⟩ : ∃ x, Hid ((ol ++ l.take bn).length = x) := ⟨_, hid rfl⟩
      rw [Hn10.out] at hv10
      subst hv10
      have HO10 := hid ho
      have HG10 : Hid (w8.grownBy w10 none) := hid (HG9.out.andThen hg (fun j hj => .inl (HO9.out.block j hj)))
      clear ho hg hb
      refine hK.out _ _ ?_ (fun hHeld => ?_)
      ·exact trivial
      clear hK K
      (try simp only [Act.put, List.setIfInBounds_toArray, List.set_cons_zero, List.set_cons_succ])
      refine wpAnyH_ready (rs := [10]) (by kernel_rfl) (by simp) ?_
      refine AllReadyH.cons (o := { dst := some 88, op := Op.build 117 #[(0, Operand.tmp 79), (1, Operand.tmp 87)], type := 117, pos := "posternref9.go:152", after := #[{ on := 1, ground := Ground.data }, { on := 9, ground := Ground.data }], guard := none }) rfl (fun K hK => ?_) AllReadyH.nil
      refine step_build_of rfl 117 #[(0, .tmp 79), (1, .tmp 87)] rfl [(0, .string s), (1, .slice a10 n10 c10)] (by with_unfolding_all rfl) [Value.string s, .slice a10 n10 c10] (built130 s a10 n10 c10) ?_
      refine hK.out _ _ ?_ (fun hHeld => ?_)
      ·exact trivial
      clear hK K
      (try simp only [Act.put, List.setIfInBounds_toArray, List.set_cons_zero, List.set_cons_succ])
      refine wpAnyH_ready (rs := [11]) (by kernel_rfl) (by simp) ?_
      refine AllReadyH.cons (o := { dst := some 89, op := Op.call { callee := Callee.value (Operand.func 44), args := #[Operand.tmp 78, Operand.tmp 88], argTypes := #[30, 117] }, type := 0, pos := "posternref9.go:152", after := #[{ on := 0, ground := Ground.data }, { on := 10, ground := Ground.data }, { on := 9, ground := Ground.chain }], guard := none }) rfl (fun K hK => ?_) AllReadyH.nil
      go_simp
      go_wp2_with (go_at_call 44; (with_reducible refine (HLk.out _ _ _ _ (gtrans (gtrans HG7.out (gany HG8.out _)) (gany HG10.out _)) (HR8.out.keep HG10.out) (HO10.out.below (by have h1 := HBw.out; have h2 := HG7.out.size; have h3 := HG8.out.size; omega)) (fun k hk => by have h1 := HO10.out.block k hk; have h2 := HG7.out.size; have h3 := HG8.out.size; omega)).mono ?_); rintro e w11 ⟨rfl, hr⟩; have HR11 := hid hr; clear hr)
      refine hK.out _ _ ?_ (fun hHeld => ?_)
      ·exact trivial
      clear hK K
      (try simp only [Act.put, List.setIfInBounds_toArray, List.set_cons_zero, List.set_cons_succ])
      refine wpAnyH_done (by kernel_rfl) ?_ _
      refine ⟨rfl, ?_⟩
      go_wp2_with fail
      go_ret
      exact ⟨by rw [HEe.out]; rfl, HR11.out⟩
   ·as_aux_lemma =>
    have hft : ft = false := by rw [hfit, decide_eq_false h64]; rfl
    subst hft
    clear hfit
    have HGe : Hid (∀ (x y : Operand) (u : World), (do eqGuard .geq 3 x y (.int .i64 (sn : Nat)) (.int .i64 64); binOp .geq 3 (.int .i64 (sn : Nat)) (.int .i64 64) : Sem Value).run Tryz.prog u = .ok (.bool true) u) := hid (fun x y u => by
     have e : (64 : Int) ≤ (sn : Int) := by omega
     go_simp)
    refine wp_region_listX (by kernel_rfl) [fun v _ => v = (Value.bool false), fun v _ => v = (Value.bool true), fun v _ => v = (Value.bool true), fun v _ => v = (Value.pointer (some ⟨b, 0, none⟩)), fun v _ => v = (Value.pointer (some ⟨b, 0, none⟩)), fun v _ => v = (Value.pointer (some ⟨b, 1, none⟩)), fun v _ => v = (Value.slice sa sn sc), fun v _ => v = (Value.int .i64 (sn : Nat)), fun v _ => v = (Value.bool true), fun v _ => v = (Value.bool true), fun v _ => v = (Value.bool true), fun v _ => v = undef, fun v _ => v = undef, fun v _ => v = undef, fun v _ => v = undef, fun v _ => v = undef, fun v _ => v = undef, fun v _ => v = undef, fun v _ => v = undef, fun v _ => v = undef, fun v _ => v = undef, fun v _ => v = (Value.bool true)] (none) (fun _ => none) 22 (by kernel_rfl) (by kernel_rfl) (by kernel_rfl) (by kernel_rfl) (by decide) noRow_one (fun _ => .inl rfl) ⟨fun i v u u' hki h hg => h, fun i v u u' hki h hg => h, fun i v u u' hki h hg => h, fun i v u u' hki h hg => h, fun i v u u' hki h hg => h, fun i v u u' hki h hg => h, fun i v u u' hki h hg => h, fun i v u u' hki h hg => h, fun i v u u' hki h hg => h, fun i v u u' hki h hg => h, fun i v u u' hki h hg => h, fun i v u u' hki h hg => h, fun i v u u' hki h hg => h, fun i v u u' hki h hg => h, fun i v u u' hki h hg => h, fun i v u u' hki h hg => h, fun i v u u' hki h hg => h, fun i v u u' hki h hg => h, fun i v u u' hki h hg => h, fun i v u u' hki h hg => h, fun i v u u' hki h hg => h, fun i v u u' hki h hg => h, trivial⟩ ⟨?_, ?_, ?_, ?_, ?_, ?_, ?_, ?_, ?_, ?_, ?_, ?_, ?_, ?_, ?_, ?_, ?_, ?_, ?_, ?_, ?_, ?_, trivial⟩ ?_
    ·intro A u hu hpu hsz hout hdeps
     have e9 : A.eval (.tmp 9) = (.bool false) := (hout 9 (by kernel_rfl)).trans rfl
     refine ifw_none rfl ?_
     with_reducible refine shown_q (Value.bool false) ?qq_5_0 (fun _ _ => ?qr_5_0)
     case qr_5_0 => exact (rfl : (Value.bool false) = (Value.bool false))
     with_reducible refine quietAt_mv (.tmp 9) (Value.bool false) ?h0_5_0 ?h1_5_0
     case h0_5_0 => rfl
     case h1_5_0 => exact e9
    ·intro A u hu hpu hsz hout hdeps
     have e23 : A.eval (.tmp 23) = (.bool false) := by have h := depL hdeps 0 (by kernel_rfl) 23 (by kernel_rfl); exact h
     refine ifw_none rfl ?_
     with_reducible refine shown_q (Value.bool true) ?qq_5_1 (fun _ _ => ?qr_5_1)
     case qr_5_1 => exact (rfl : (Value.bool true) = (Value.bool true))
     with_reducible refine quietAt_un .not 4 (.tmp 23) (Value.bool false) (Value.bool true) ?h0_5_1 ?h1_5_1 ?h2_5_1
     case h0_5_1 => rfl
     case h1_5_1 => exact e23
     case h2_5_1 => rfl
    ·intro A u hu hpu hsz hout hdeps
     have e24 : A.eval (.tmp 24) = (.bool true) := by have h := depL hdeps 1 (by kernel_rfl) 24 (by kernel_rfl); exact h
     refine ifw_none rfl ?_
     with_reducible refine shown_q (Value.bool true) ?qq_5_2 (fun _ _ => ?qr_5_2)
     case qr_5_2 => exact (rfl : (Value.bool true) = (Value.bool true))
     with_reducible refine quietAt_mv (.tmp 24) (Value.bool true) ?h0_5_2 ?h1_5_2
     case h0_5_2 => rfl
     case h1_5_2 => exact e24
    ·intro A u hu hpu hsz hout hdeps
     have e25 : A.eval (.tmp 25) = (.bool true) := by have h := depL hdeps 2 (by kernel_rfl) 25 (by kernel_rfl); exact h
     have e0 : A.eval (.tmp 0) = (.pointer (some ⟨b, 0, none⟩)) := (hout 0 (by kernel_rfl)).trans rfl
     refine ifw_want 2 true 25 rfl rfl e25 ?_
     with_reducible refine shown_q (Value.pointer (some ⟨b, 0, none⟩)) ?qq_5_3 (fun _ _ => ?qr_5_3)
     case qr_5_3 => exact (rfl : (Value.pointer (some ⟨b, 0, none⟩)) = (Value.pointer (some ⟨b, 0, none⟩)))
     with_reducible refine quietAt_mv (.tmp 0) (Value.pointer (some ⟨b, 0, none⟩)) ?h0_5_3 ?h1_5_3
     case h0_5_3 => rfl
     case h1_5_3 => exact e0
    ·intro A u hu hpu hsz hout hdeps
     have e25 : A.eval (.tmp 25) = (.bool true) := by have h := depL hdeps 2 (by kernel_rfl) 25 (by kernel_rfl); exact h
     have e26 : A.eval (.tmp 26) = (.pointer (some ⟨b, 0, none⟩)) := by have h := depL hdeps 3 (by kernel_rfl) 26 (by kernel_rfl); exact h
     refine ifw_want 2 true 25 rfl rfl e25 ?_
     with_reducible refine shown_q (Value.pointer (some ⟨b, 0, none⟩)) ?qq_5_4 (fun _ _ => ?qr_5_4)
     case qr_5_4 => exact (rfl : (Value.pointer (some ⟨b, 0, none⟩)) = (Value.pointer (some ⟨b, 0, none⟩)))
     with_reducible refine quietAt_nil (.tmp 26) ?h0_5_4 ⟨b, 0, none⟩ ?h1_5_4
     case h0_5_4 => rfl
     case h1_5_4 => exact e26
    ·intro A u hu hpu hsz hout hdeps
     have e25 : A.eval (.tmp 25) = (.bool true) := by have h := depL hdeps 2 (by kernel_rfl) 25 (by kernel_rfl); exact h
     have e27 : A.eval (.tmp 27) = (.pointer (some ⟨b, 0, none⟩)) := by have h := depL hdeps 4 (by kernel_rfl) 27 (by kernel_rfl); exact h
     refine ifw_want 2 true 25 rfl rfl e25 ?_
     with_reducible refine shown_q (Value.pointer (some ⟨b, 1, none⟩)) ?qq_5_5 (fun _ _ => ?qr_5_5)
     case qr_5_5 => exact (rfl : (Value.pointer (some ⟨b, 1, none⟩)) = (Value.pointer (some ⟨b, 1, none⟩)))
     with_reducible refine quietAt_field 113 (.tmp 27) 1 ?h0_5_5 ⟨b, 0, none⟩ ⟨b, 1, none⟩ ?h1_5_5 ?h2_5_5
     case h0_5_5 => rfl
     case h1_5_5 => exact e27
     case h2_5_5 => kernel_rfl
    ·intro A u hu hpu hsz hout hdeps
     have e25 : A.eval (.tmp 25) = (.bool true) := by have h := depL hdeps 2 (by kernel_rfl) 25 (by kernel_rfl); exact h
     have e28 : A.eval (.tmp 28) = (.pointer (some ⟨b, 1, none⟩)) := by have h := depL hdeps 5 (by kernel_rfl) 28 (by kernel_rfl); exact h
     refine ifw_want 2 true 25 rfl rfl e25 ?_
     with_reducible refine shown_q (Value.slice sa sn sc) ?qq_5_6 (fun _ _ => ?qr_5_6)
     case qr_5_6 => exact (rfl : (Value.slice sa sn sc) = (Value.slice sa sn sc))
     with_reducible refine quietAt_ld 110 (.tmp 28) (Value.pointer (some ⟨b, 1, none⟩)) (Value.slice sa sn sc) ?h0_5_6 ?h1_5_6 ?h2_5_6
     case h0_5_6 => rfl
     case h1_5_6 => exact e28
     case h2_5_6 => exact ld66 b 1 sn sc sa u (HY.out u (gtrans HG5.out hu)).2
    ·intro A u hu hpu hsz hout hdeps
     have e25 : A.eval (.tmp 25) = (.bool true) := by have h := depL hdeps 2 (by kernel_rfl) 25 (by kernel_rfl); exact h
     have e29 : A.eval (.tmp 29) = (.slice sa sn sc) := by have h := depL hdeps 6 (by kernel_rfl) 29 (by kernel_rfl); exact h
     refine ifw_want 2 true 25 rfl rfl e25 ?_
     with_reducible refine shown_q (Value.int .i64 (sn : Nat)) ?qq_5_7 (fun _ _ => ?qr_5_7)
     case qr_5_7 => exact (rfl : (Value.int .i64 (sn : Nat)) = (Value.int .i64 (sn : Nat)))
     with_reducible refine quietAt_len (.tmp 29) 110 ?h0_5_7 sa sn sc ?h1_5_7 ?h2_5_7
     case h0_5_7 => rfl
     case h1_5_7 => exact e29
     case h2_5_7 => kernel_rfl
    ·intro A u hu hpu hsz hout hdeps
     have e25 : A.eval (.tmp 25) = (.bool true) := by have h := depL hdeps 2 (by kernel_rfl) 25 (by kernel_rfl); exact h
     have e30 : A.eval (.tmp 30) = (.int .i64 (sn : Nat)) := by have h := depL hdeps 7 (by kernel_rfl) 30 (by kernel_rfl); exact h
     refine ifw_want 2 true 25 rfl rfl e25 ?_
     with_reducible refine shown_q (Value.bool true) ?qq_5_8 (fun _ _ => ?qr_5_8)
     case qr_5_8 => exact (rfl : (Value.bool true) = (Value.bool true))
     with_reducible refine quietAt_bin .geq 3 (.tmp 30) (.const (.int .i64 64)) 3 (Value.int .i64 (sn : Nat)) (Value.int .i64 64) (Value.bool true) ?h0_5_8 ?h1_5_8 ?h2_5_8 ?h3_5_8
     case h0_5_8 => rfl
     case h1_5_8 => exact e30
     case h2_5_8 => exact rfl
     case h3_5_8 => exact HGe.out _ _ u
    ·intro A u hu hpu hsz hout hdeps
     have e25 : A.eval (.tmp 25) = (.bool true) := by have h := depL hdeps 2 (by kernel_rfl) 25 (by kernel_rfl); exact h
     have e31 : A.eval (.tmp 31) = (.bool true) := by have h := depL hdeps 8 (by kernel_rfl) 31 (by kernel_rfl); exact h
     refine ifw_none rfl ?_
     with_reducible refine shown_q (Value.bool true) ?qq_5_9 (fun _ _ => ?qr_5_9)
     case qr_5_9 => exact (rfl : (Value.bool true) = (Value.bool true))
     with_reducible refine quietAt_pick (.tmp 25) (.tmp 31) (.const (.bool false)) true (Value.bool true) ?h0_5_9 ?h1_5_9 ?h2_5_9
     case h0_5_9 => rfl
     case h1_5_9 => exact e25
     case h2_5_9 => rw [if_pos rfl]; exact e31
    ·intro A u hu hpu hsz hout hdeps
     have e32 : A.eval (.tmp 32) = (.bool true) := by have h := depL hdeps 9 (by kernel_rfl) 32 (by kernel_rfl); exact h
     refine ifw_none rfl ?_
     with_reducible refine shown_q (Value.bool true) ?qq_5_10 (fun _ _ => ?qr_5_10)
     case qr_5_10 => exact (rfl : (Value.bool true) = (Value.bool true))
     with_reducible refine quietAt_mv (.tmp 32) (Value.bool true) ?h0_5_10 ?h1_5_10
     case h0_5_10 => rfl
     case h1_5_10 => exact e32
    ·intro A u hu hpu hsz hout hdeps
     have e33 : A.eval (.tmp 33) = (.bool true) := by have h := depL hdeps 10 (by kernel_rfl) 33 (by kernel_rfl); exact h
     refine ifw_pass 10 false true 33 rfl rfl e33 (by decide) ?_
     exact rfl
    ·intro A u hu hpu hsz hout hdeps
     have e33 : A.eval (.tmp 33) = (.bool true) := by have h := depL hdeps 10 (by kernel_rfl) 33 (by kernel_rfl); exact h
     refine ifw_pass 10 false true 33 rfl rfl e33 (by decide) ?_
     exact rfl
    ·intro A u hu hpu hsz hout hdeps
     have e33 : A.eval (.tmp 33) = (.bool true) := by have h := depL hdeps 10 (by kernel_rfl) 33 (by kernel_rfl); exact h
     refine ifw_pass 10 false true 33 rfl rfl e33 (by decide) ?_
     exact rfl
    ·intro A u hu hpu hsz hout hdeps
     have e33 : A.eval (.tmp 33) = (.bool true) := by have h := depL hdeps 10 (by kernel_rfl) 33 (by kernel_rfl); exact h
     refine ifw_pass 10 false true 33 rfl rfl e33 (by decide) ?_
     exact rfl
    ·intro A u hu hpu hsz hout hdeps
     have e33 : A.eval (.tmp 33) = (.bool true) := by have h := depL hdeps 10 (by kernel_rfl) 33 (by kernel_rfl); exact h
     refine ifw_pass 10 false true 33 rfl rfl e33 (by decide) ?_
     exact rfl
    ·intro A u hu hpu hsz hout hdeps
     have e33 : A.eval (.tmp 33) = (.bool true) := by have h := depL hdeps 10 (by kernel_rfl) 33 (by kernel_rfl); exact h
     refine ifw_pass 10 false true 33 rfl rfl e33 (by decide) ?_
     exact rfl
    ·intro A u hu hpu hsz hout hdeps
     have e33 : A.eval (.tmp 33) = (.bool true) := by have h := depL hdeps 10 (by kernel_rfl) 33 (by kernel_rfl); exact h
     refine ifw_pass 10 false true 33 rfl rfl e33 (by decide) ?_
     exact rfl
    ·intro A u hu hpu hsz hout hdeps
     have e33 : A.eval (.tmp 33) = (.bool true) := by have h := depL hdeps 10 (by kernel_rfl) 33 (by kernel_rfl); exact h
     refine ifw_pass 10 false true 33 rfl rfl e33 (by decide) ?_
     exact rfl
    ·intro A u hu hpu hsz hout hdeps
     have e33 : A.eval (.tmp 33) = (.bool true) := by have h := depL hdeps 10 (by kernel_rfl) 33 (by kernel_rfl); exact h
     refine ifw_pass 10 false true 33 rfl rfl e33 (by decide) ?_
     exact rfl
    ·intro A u hu hpu hsz hout hdeps
     have e33 : A.eval (.tmp 33) = (.bool true) := by have h := depL hdeps 10 (by kernel_rfl) 33 (by kernel_rfl); exact h
     refine ifw_pass 10 false true 33 rfl rfl e33 (by decide) ?_
     exact rfl
    ·intro A u hu hpu hsz hout hdeps
     have e33 : A.eval (.tmp 33) = (.bool true) := by have h := depL hdeps 10 (by kernel_rfl) 33 (by kernel_rfl); exact h
     refine ifw_none rfl ?_
     with_reducible refine shown_q (Value.bool true) ?qq_5_21 (fun _ _ => ?qr_5_21)
     case qr_5_21 => exact (rfl : (Value.bool true) = (Value.bool true))
     with_reducible refine quietAt_pick (.tmp 33) (.const (.bool true)) (.tmp 43) true (Value.bool true) ?h0_5_21 ?h1_5_21 ?h2_5_21
     case h0_5_21 => rfl
     case h1_5_21 => exact e33
     case h2_5_21 => rw [if_pos rfl]; exact rfl
    ·intro A u8 listed hh hall
     have hA := hh.frame
     have HU := hid hh.grown
     obtain ⟨x23, hx23⟩ : ∃ x, A.eval (.tmp 23) = x := ⟨_, rfl⟩
     have f23 : (fun v _ => v = (Value.bool false)) x23 u8 := by rw [← hx23]; exact hh.got 0 _ 23 rfl rfl (hall 0 (by decide))
     obtain ⟨x24, hx24⟩ : ∃ x, A.eval (.tmp 24) = x := ⟨_, rfl⟩
     have f24 : (fun v _ => v = (Value.bool true)) x24 u8 := by rw [← hx24]; exact hh.got 1 _ 24 rfl rfl (hall 1 (by decide))
     obtain ⟨x25, hx25⟩ : ∃ x, A.eval (.tmp 25) = x := ⟨_, rfl⟩
     have f25 : (fun v _ => v = (Value.bool true)) x25 u8 := by rw [← hx25]; exact hh.got 2 _ 25 rfl rfl (hall 2 (by decide))
     obtain ⟨x26, hx26⟩ : ∃ x, A.eval (.tmp 26) = x := ⟨_, rfl⟩
     have f26 : (fun v _ => v = (Value.pointer (some ⟨b, 0, none⟩))) x26 u8 := by rw [← hx26]; exact hh.got 3 _ 26 rfl rfl (hall 3 (by decide))
     obtain ⟨x27, hx27⟩ : ∃ x, A.eval (.tmp 27) = x := ⟨_, rfl⟩
     have f27 : (fun v _ => v = (Value.pointer (some ⟨b, 0, none⟩))) x27 u8 := by rw [← hx27]; exact hh.got 4 _ 27 rfl rfl (hall 4 (by decide))
     obtain ⟨x28, hx28⟩ : ∃ x, A.eval (.tmp 28) = x := ⟨_, rfl⟩
     have f28 : (fun v _ => v = (Value.pointer (some ⟨b, 1, none⟩))) x28 u8 := by rw [← hx28]; exact hh.got 5 _ 28 rfl rfl (hall 5 (by decide))
     obtain ⟨x29, hx29⟩ : ∃ x, A.eval (.tmp 29) = x := ⟨_, rfl⟩
     have f29 : (fun v _ => v = (Value.slice sa sn sc)) x29 u8 := by rw [← hx29]; exact hh.got 6 _ 29 rfl rfl (hall 6 (by decide))
     obtain ⟨x30, hx30⟩ : ∃ x, A.eval (.tmp 30) = x := ⟨_, rfl⟩
     have f30 : (fun v _ => v = (Value.int .i64 (sn : Nat))) x30 u8 := by rw [← hx30]; exact hh.got 7 _ 30 rfl rfl (hall 7 (by decide))
     obtain ⟨x31, hx31⟩ : ∃ x, A.eval (.tmp 31) = x := ⟨_, rfl⟩
     have f31 : (fun v _ => v = (Value.bool true)) x31 u8 := by rw [← hx31]; exact hh.got 8 _ 31 rfl rfl (hall 8 (by decide))
     obtain ⟨x32, hx32⟩ : ∃ x, A.eval (.tmp 32) = x := ⟨_, rfl⟩
     have f32 : (fun v _ => v = (Value.bool true)) x32 u8 := by rw [← hx32]; exact hh.got 9 _ 32 rfl rfl (hall 9 (by decide))
     obtain ⟨x33, hx33⟩ : ∃ x, A.eval (.tmp 33) = x := ⟨_, rfl⟩
     have f33 : (fun v _ => v = (Value.bool true)) x33 u8 := by rw [← hx33]; exact hh.got 10 _ 33 rfl rfl (hall 10 (by decide))
     obtain ⟨x34, hx34⟩ : ∃ x, A.eval (.tmp 34) = x := ⟨_, rfl⟩
     have f34 : (fun v _ => v = undef) x34 u8 := by rw [← hx34]; exact hh.got 11 _ 34 rfl rfl (hall 11 (by decide))
     obtain ⟨x35, hx35⟩ : ∃ x, A.eval (.tmp 35) = x := ⟨_, rfl⟩
     have f35 : (fun v _ => v = undef) x35 u8 := by rw [← hx35]; exact hh.got 12 _ 35 rfl rfl (hall 12 (by decide))
     obtain ⟨x36, hx36⟩ : ∃ x, A.eval (.tmp 36) = x := ⟨_, rfl⟩
     have f36 : (fun v _ => v = undef) x36 u8 := by rw [← hx36]; exact hh.got 13 _ 36 rfl rfl (hall 13 (by decide))
     obtain ⟨x37, hx37⟩ : ∃ x, A.eval (.tmp 37) = x := ⟨_, rfl⟩
     have f37 : (fun v _ => v = undef) x37 u8 := by rw [← hx37]; exact hh.got 14 _ 37 rfl rfl (hall 14 (by decide))
     obtain ⟨x38, hx38⟩ : ∃ x, A.eval (.tmp 38) = x := ⟨_, rfl⟩
     have f38 : (fun v _ => v = undef) x38 u8 := by rw [← hx38]; exact hh.got 15 _ 38 rfl rfl (hall 15 (by decide))
     obtain ⟨x39, hx39⟩ : ∃ x, A.eval (.tmp 39) = x := ⟨_, rfl⟩
     have f39 : (fun v _ => v = undef) x39 u8 := by rw [← hx39]; exact hh.got 16 _ 39 rfl rfl (hall 16 (by decide))
     obtain ⟨x40, hx40⟩ : ∃ x, A.eval (.tmp 40) = x := ⟨_, rfl⟩
     have f40 : (fun v _ => v = undef) x40 u8 := by rw [← hx40]; exact hh.got 17 _ 40 rfl rfl (hall 17 (by decide))
     obtain ⟨x41, hx41⟩ : ∃ x, A.eval (.tmp 41) = x := ⟨_, rfl⟩
     have f41 : (fun v _ => v = undef) x41 u8 := by rw [← hx41]; exact hh.got 18 _ 41 rfl rfl (hall 18 (by decide))
     obtain ⟨x42, hx42⟩ : ∃ x, A.eval (.tmp 42) = x := ⟨_, rfl⟩
     have f42 : (fun v _ => v = undef) x42 u8 := by rw [← hx42]; exact hh.got 19 _ 42 rfl rfl (hall 19 (by decide))
     obtain ⟨x43, hx43⟩ : ∃ x, A.eval (.tmp 43) = x := ⟨_, rfl⟩
     have f43 : (fun v _ => v = undef) x43 u8 := by rw [← hx43]; exact hh.got 20 _ 43 rfl rfl (hall 20 (by decide))
     obtain ⟨x44, hx44⟩ : ∃ x, A.eval (.tmp 44) = x := ⟨_, rfl⟩
     have f44 : (fun v _ => v = (Value.bool true)) x44 u8 := by rw [← hx44]; exact hh.got 21 _ 44 rfl rfl (hall 21 (by decide))
     dsimp only [wrote, List.foldl] at hA
     rw [hx23, hx24, hx25, hx26, hx27, hx28, hx29, hx30, hx31, hx32, hx33, hx34, hx35, hx36, hx37, hx38, hx39, hx40, hx41, hx42, hx43, hx44] at hA
     clear hh hall hx23 hx24 hx25 hx26 hx27 hx28 hx29 hx30 hx31 hx32 hx33 hx34 hx35 hx36 hx37 hx38 hx39 hx40 hx41 hx42 hx43 hx44
     replace f23 := (f23 : x23 = (.bool false))
     subst f23
     replace f24 := (f24 : x24 = (.bool true))
     subst f24
     replace f25 := (f25 : x25 = (.bool true))
     subst f25
     replace f26 := (f26 : x26 = (.pointer (some ⟨b, 0, none⟩)))
     subst f26
     replace f27 := (f27 : x27 = (.pointer (some ⟨b, 0, none⟩)))
     subst f27
     replace f28 := (f28 : x28 = (.pointer (some ⟨b, 1, none⟩)))
     subst f28
     replace f29 := (f29 : x29 = (.slice sa sn sc))
     subst f29
     replace f30 := (f30 : x30 = (.int .i64 (sn : Nat)))
     subst f30
     replace f31 := (f31 : x31 = (.bool true))
     subst f31
     replace f32 := (f32 : x32 = (.bool true))
     subst f32
     replace f33 := (f33 : x33 = (.bool true))
     subst f33
     replace f34 := (f34 : x34 = undef)
     subst f34
     replace f35 := (f35 : x35 = undef)
     subst f35
     replace f36 := (f36 : x36 = undef)
     subst f36
     replace f37 := (f37 : x37 = undef)
     subst f37
     replace f38 := (f38 : x38 = undef)
     subst f38
     replace f39 := (f39 : x39 = undef)
     subst f39
     replace f40 := (f40 : x40 = undef)
     subst f40
     replace f41 := (f41 : x41 = undef)
     subst f41
     replace f42 := (f42 : x42 = undef)
     subst f42
     replace f43 := (f43 : x43 = undef)
     subst f43
     replace f44 := (f44 : x44 = (.bool true))
     subst f44
     subst hA
     show wpList _ _ _ [] _ _
     unfold wpList
     simp only [Act.put, List.setIfInBounds_toArray, List.set_cons_succ, List.set_cons_zero]
     go_wp2_with fail
     go_ret
     exact ⟨by rw [HE2.out trivial]; rfl, by rw [HNf.out trivial]; exact REnd.of (HR.out _ (gtrans HG5.out HU.out)) (gany (gtrans HG5.out HU.out) _)⟩
 ·have hft : ft = false := by rw [hfit, decide_eq_false hov, Bool.and_false]
  subst hft
  clear hfit
  have HGt : Hid (∀ (x y : Operand) (u : World), (do eqGuard .gtr 3 x y (.int .i64 (bn : Nat)) (.int .i64 (rm - (us : Int))); binOp .gtr 3 (.int .i64 (bn : Nat)) (.int .i64 (rm - (us : Int))) : Sem Value).run Tryz.prog u = .ok (.bool true) u) := hid (fun x y u => by
   have e : (rm - (us : Int)) < (bn : Int) := by omega
   go_simp)
  cases D with
  | true =>
   as_aux_lemma =>
   refine wp_region_listX (by kernel_rfl) [fun v _ => v = (Value.bool true), fun v _ => v = (Value.bool false), fun v _ => v = (Value.bool false), fun v _ => v = undef, fun v _ => v = undef, fun v _ => v = undef, fun v _ => v = undef, fun v _ => v = undef, fun v _ => v = undef, fun v _ => v = (Value.bool false), fun v _ => v = (Value.bool false), fun v _ => v = (Value.slice ba bn bc), fun v _ => v = (Value.int .i64 (bn : Nat)), fun v _ => v = (Value.pointer (some ⟨b, 0, none⟩)), fun v _ => v = (Value.pointer (some ⟨b, 0, none⟩)), fun v _ => v = (Value.pointer (some ⟨b, 0, none⟩)), fun v _ => v = (Value.int .i64 rm), fun v _ => v = (Value.pointer (some ⟨b, 0, none⟩)), fun v _ => v = Value.int .i64 (us : Nat), fun v _ => v = (Value.int .i64 (rm - (us : Int))), fun v _ => v = (Value.bool true), fun v _ => v = (Value.bool true)] (none) (fun _ => none) 22 (by kernel_rfl) (by kernel_rfl) (by kernel_rfl) (by kernel_rfl) (by decide) noRow_one (fun _ => .inl rfl) ⟨fun i v u u' hki h hg => h, fun i v u u' hki h hg => h, fun i v u u' hki h hg => h, fun i v u u' hki h hg => h, fun i v u u' hki h hg => h, fun i v u u' hki h hg => h, fun i v u u' hki h hg => h, fun i v u u' hki h hg => h, fun i v u u' hki h hg => h, fun i v u u' hki h hg => h, fun i v u u' hki h hg => h, fun i v u u' hki h hg => h, fun i v u u' hki h hg => h, fun i v u u' hki h hg => h, fun i v u u' hki h hg => h, fun i v u u' hki h hg => h, fun i v u u' hki h hg => h, fun i v u u' hki h hg => h, fun i v u u' hki h hg => h, fun i v u u' hki h hg => h, fun i v u u' hki h hg => h, fun i v u u' hki h hg => h, trivial⟩ ⟨?_, ?_, ?_, ?_, ?_, ?_, ?_, ?_, ?_, ?_, ?_, ?_, ?_, ?_, ?_, ?_, ?_, ?_, ?_, ?_, ?_, ?_, trivial⟩ ?_
   ·intro A u hu hpu hsz hout hdeps
    have e9 : A.eval (.tmp 9) = (.bool true) := (hout 9 (by kernel_rfl)).trans rfl
    refine ifw_none rfl ?_
    with_reducible refine shown_q (Value.bool true) ?qq_3_0 (fun _ _ => ?qr_3_0)
    case qr_3_0 => exact (rfl : (Value.bool true) = (Value.bool true))
    with_reducible refine quietAt_mv (.tmp 9) (Value.bool true) ?h0_3_0 ?h1_3_0
    case h0_3_0 => rfl
    case h1_3_0 => exact e9
   ·intro A u hu hpu hsz hout hdeps
    have e23 : A.eval (.tmp 23) = (.bool true) := by have h := depL hdeps 0 (by kernel_rfl) 23 (by kernel_rfl); exact h
    refine ifw_none rfl ?_
    with_reducible refine shown_q (Value.bool false) ?qq_3_1 (fun _ _ => ?qr_3_1)
    case qr_3_1 => exact (rfl : (Value.bool false) = (Value.bool false))
    with_reducible refine quietAt_un .not 4 (.tmp 23) (Value.bool true) (Value.bool false) ?h0_3_1 ?h1_3_1 ?h2_3_1
    case h0_3_1 => rfl
    case h1_3_1 => exact e23
    case h2_3_1 => rfl
   ·intro A u hu hpu hsz hout hdeps
    have e24 : A.eval (.tmp 24) = (.bool false) := by have h := depL hdeps 1 (by kernel_rfl) 24 (by kernel_rfl); exact h
    refine ifw_none rfl ?_
    with_reducible refine shown_q (Value.bool false) ?qq_3_2 (fun _ _ => ?qr_3_2)
    case qr_3_2 => exact (rfl : (Value.bool false) = (Value.bool false))
    with_reducible refine quietAt_mv (.tmp 24) (Value.bool false) ?h0_3_2 ?h1_3_2
    case h0_3_2 => rfl
    case h1_3_2 => exact e24
   ·intro A u hu hpu hsz hout hdeps
    have e25 : A.eval (.tmp 25) = (.bool false) := by have h := depL hdeps 2 (by kernel_rfl) 25 (by kernel_rfl); exact h
    refine ifw_pass 2 true false 25 rfl rfl e25 (by decide) ?_
    exact rfl
   ·intro A u hu hpu hsz hout hdeps
    have e25 : A.eval (.tmp 25) = (.bool false) := by have h := depL hdeps 2 (by kernel_rfl) 25 (by kernel_rfl); exact h
    refine ifw_pass 2 true false 25 rfl rfl e25 (by decide) ?_
    exact rfl
   ·intro A u hu hpu hsz hout hdeps
    have e25 : A.eval (.tmp 25) = (.bool false) := by have h := depL hdeps 2 (by kernel_rfl) 25 (by kernel_rfl); exact h
    refine ifw_pass 2 true false 25 rfl rfl e25 (by decide) ?_
    exact rfl
   ·intro A u hu hpu hsz hout hdeps
    have e25 : A.eval (.tmp 25) = (.bool false) := by have h := depL hdeps 2 (by kernel_rfl) 25 (by kernel_rfl); exact h
    refine ifw_pass 2 true false 25 rfl rfl e25 (by decide) ?_
    exact rfl
   ·intro A u hu hpu hsz hout hdeps
    have e25 : A.eval (.tmp 25) = (.bool false) := by have h := depL hdeps 2 (by kernel_rfl) 25 (by kernel_rfl); exact h
    refine ifw_pass 2 true false 25 rfl rfl e25 (by decide) ?_
    exact rfl
   ·intro A u hu hpu hsz hout hdeps
    have e25 : A.eval (.tmp 25) = (.bool false) := by have h := depL hdeps 2 (by kernel_rfl) 25 (by kernel_rfl); exact h
    refine ifw_pass 2 true false 25 rfl rfl e25 (by decide) ?_
    exact rfl
   ·intro A u hu hpu hsz hout hdeps
    have e25 : A.eval (.tmp 25) = (.bool false) := by have h := depL hdeps 2 (by kernel_rfl) 25 (by kernel_rfl); exact h
    refine ifw_none rfl ?_
    with_reducible refine shown_q (Value.bool false) ?qq_3_9 (fun _ _ => ?qr_3_9)
    case qr_3_9 => exact (rfl : (Value.bool false) = (Value.bool false))
    with_reducible refine quietAt_pick (.tmp 25) (.tmp 31) (.const (.bool false)) false (Value.bool false) ?h0_3_9 ?h1_3_9 ?h2_3_9
    case h0_3_9 => rfl
    case h1_3_9 => exact e25
    case h2_3_9 => rw [if_neg (by decide)]; exact rfl
   ·intro A u hu hpu hsz hout hdeps
    have e32 : A.eval (.tmp 32) = (.bool false) := by have h := depL hdeps 9 (by kernel_rfl) 32 (by kernel_rfl); exact h
    refine ifw_none rfl ?_
    with_reducible refine shown_q (Value.bool false) ?qq_3_10 (fun _ _ => ?qr_3_10)
    case qr_3_10 => exact (rfl : (Value.bool false) = (Value.bool false))
    with_reducible refine quietAt_mv (.tmp 32) (Value.bool false) ?h0_3_10 ?h1_3_10
    case h0_3_10 => rfl
    case h1_3_10 => exact e32
   ·intro A u hu hpu hsz hout hdeps
    have e33 : A.eval (.tmp 33) = (.bool false) := by have h := depL hdeps 10 (by kernel_rfl) 33 (by kernel_rfl); exact h
    have e2 : A.eval (.tmp 2) = (.slice ba bn bc) := (hout 2 (by kernel_rfl)).trans rfl
    refine ifw_want 10 false 33 rfl rfl e33 ?_
    with_reducible refine shown_q (Value.slice ba bn bc) ?qq_3_11 (fun _ _ => ?qr_3_11)
    case qr_3_11 => exact (rfl : (Value.slice ba bn bc) = (Value.slice ba bn bc))
    with_reducible refine quietAt_mv (.tmp 2) (Value.slice ba bn bc) ?h0_3_11 ?h1_3_11
    case h0_3_11 => rfl
    case h1_3_11 => exact e2
   ·intro A u hu hpu hsz hout hdeps
    have e33 : A.eval (.tmp 33) = (.bool false) := by have h := depL hdeps 10 (by kernel_rfl) 33 (by kernel_rfl); exact h
    have e34 : A.eval (.tmp 34) = (.slice ba bn bc) := by have h := depL hdeps 11 (by kernel_rfl) 34 (by kernel_rfl); exact h
    refine ifw_want 10 false 33 rfl rfl e33 ?_
    with_reducible refine shown_q (Value.int .i64 (bn : Nat)) ?qq_3_12 (fun _ _ => ?qr_3_12)
    case qr_3_12 => exact (rfl : (Value.int .i64 (bn : Nat)) = (Value.int .i64 (bn : Nat)))
    with_reducible refine quietAt_len (.tmp 34) 74 ?h0_3_12 ba bn bc ?h1_3_12 ?h2_3_12
    case h0_3_12 => rfl
    case h1_3_12 => exact e34
    case h2_3_12 => kernel_rfl
   ·intro A u hu hpu hsz hout hdeps
    have e33 : A.eval (.tmp 33) = (.bool false) := by have h := depL hdeps 10 (by kernel_rfl) 33 (by kernel_rfl); exact h
    have e0 : A.eval (.tmp 0) = (.pointer (some ⟨b, 0, none⟩)) := (hout 0 (by kernel_rfl)).trans rfl
    refine ifw_want 10 false 33 rfl rfl e33 ?_
    with_reducible refine shown_q (Value.pointer (some ⟨b, 0, none⟩)) ?qq_3_13 (fun _ _ => ?qr_3_13)
    case qr_3_13 => exact (rfl : (Value.pointer (some ⟨b, 0, none⟩)) = (Value.pointer (some ⟨b, 0, none⟩)))
    with_reducible refine quietAt_mv (.tmp 0) (Value.pointer (some ⟨b, 0, none⟩)) ?h0_3_13 ?h1_3_13
    case h0_3_13 => rfl
    case h1_3_13 => exact e0
   ·intro A u hu hpu hsz hout hdeps
    have e33 : A.eval (.tmp 33) = (.bool false) := by have h := depL hdeps 10 (by kernel_rfl) 33 (by kernel_rfl); exact h
    have e36 : A.eval (.tmp 36) = (.pointer (some ⟨b, 0, none⟩)) := by have h := depL hdeps 13 (by kernel_rfl) 36 (by kernel_rfl); exact h
    refine ifw_want 10 false 33 rfl rfl e33 ?_
    with_reducible refine shown_q (Value.pointer (some ⟨b, 0, none⟩)) ?qq_3_14 (fun _ _ => ?qr_3_14)
    case qr_3_14 => exact (rfl : (Value.pointer (some ⟨b, 0, none⟩)) = (Value.pointer (some ⟨b, 0, none⟩)))
    with_reducible refine quietAt_nil (.tmp 36) ?h0_3_14 ⟨b, 0, none⟩ ?h1_3_14
    case h0_3_14 => rfl
    case h1_3_14 => exact e36
   ·intro A u hu hpu hsz hout hdeps
    have e33 : A.eval (.tmp 33) = (.bool false) := by have h := depL hdeps 10 (by kernel_rfl) 33 (by kernel_rfl); exact h
    have e37 : A.eval (.tmp 37) = (.pointer (some ⟨b, 0, none⟩)) := by have h := depL hdeps 14 (by kernel_rfl) 37 (by kernel_rfl); exact h
    refine ifw_want 10 false 33 rfl rfl e33 ?_
    with_reducible refine shown_q (Value.pointer (some ⟨b, 0, none⟩)) ?qq_3_15 (fun _ _ => ?qr_3_15)
    case qr_3_15 => exact (rfl : (Value.pointer (some ⟨b, 0, none⟩)) = (Value.pointer (some ⟨b, 0, none⟩)))
    with_reducible refine quietAt_field 113 (.tmp 37) 0 ?h0_3_15 ⟨b, 0, none⟩ ⟨b, 0, none⟩ ?h1_3_15 ?h2_3_15
    case h0_3_15 => rfl
    case h1_3_15 => exact e37
    case h2_3_15 => kernel_rfl
   ·intro A u hu hpu hsz hout hdeps
    have e33 : A.eval (.tmp 33) = (.bool false) := by have h := depL hdeps 10 (by kernel_rfl) 33 (by kernel_rfl); exact h
    have e38 : A.eval (.tmp 38) = (.pointer (some ⟨b, 0, none⟩)) := by have h := depL hdeps 15 (by kernel_rfl) 38 (by kernel_rfl); exact h
    refine ifw_want 10 false 33 rfl rfl e33 ?_
    with_reducible refine shown_q (Value.int .i64 rm) ?qq_3_16 (fun _ _ => ?qr_3_16)
    case qr_3_16 => exact (rfl : (Value.int .i64 rm) = (Value.int .i64 rm))
    with_reducible refine quietAt_ld 3 (.tmp 38) (Value.pointer (some ⟨b, 0, none⟩)) (Value.int .i64 rm) ?h0_3_16 ?h1_3_16 ?h2_3_16
    case h0_3_16 => rfl
    case h1_3_16 => exact e38
    case h2_3_16 => exact ld3 b 0 rm u (HY.out u (gtrans HG5.out hu)).1
   ·intro A u hu hpu hsz hout hdeps
    have e33 : A.eval (.tmp 33) = (.bool false) := by have h := depL hdeps 10 (by kernel_rfl) 33 (by kernel_rfl); exact h
    have e0 : A.eval (.tmp 0) = (.pointer (some ⟨b, 0, none⟩)) := (hout 0 (by kernel_rfl)).trans rfl
    refine ifw_want 10 false 33 rfl rfl e33 ?_
    with_reducible refine shown_q (Value.pointer (some ⟨b, 0, none⟩)) ?qq_3_17 (fun _ _ => ?qr_3_17)
    case qr_3_17 => exact (rfl : (Value.pointer (some ⟨b, 0, none⟩)) = (Value.pointer (some ⟨b, 0, none⟩)))
    with_reducible refine quietAt_mv (.tmp 0) (Value.pointer (some ⟨b, 0, none⟩)) ?h0_3_17 ?h1_3_17
    case h0_3_17 => rfl
    case h1_3_17 => exact e0
   ·intro A u hu hpu hsz hout hdeps
    have e33 : A.eval (.tmp 33) = (.bool false) := by have h := depL hdeps 10 (by kernel_rfl) 33 (by kernel_rfl); exact h
    have e40 : A.eval (.tmp 40) = (.pointer (some ⟨b, 0, none⟩)) := by have h := depL hdeps 17 (by kernel_rfl) 40 (by kernel_rfl); exact h
    refine ifw_want 10 false 33 rfl rfl e33 ?_
    with_reducible refine shown_call 43 Tryz.f43 ?h0_3_18 ?h1_3_18 ?h2_3_18 #[.tmp 40] #[30] ?h3_3_18 #[(Value.pointer (some ⟨b, 0, none⟩))] ?h4_3_18 ?h5_3_18
    case h0_3_18 => exact Tryz.func43
    case h1_3_18 => kernel_rfl
    case h2_3_18 => kernel_rfl
    case h3_3_18 => rfl
    case h4_3_18 => exact map1 _ _ _ e40
    case h5_3_18 => exact HUs.out u (gtrans HG5.out hu)
   ·intro A u hu hpu hsz hout hdeps
    have e33 : A.eval (.tmp 33) = (.bool false) := by have h := depL hdeps 10 (by kernel_rfl) 33 (by kernel_rfl); exact h
    have e39 : A.eval (.tmp 39) = (.int .i64 rm) := by have h := depL hdeps 16 (by kernel_rfl) 39 (by kernel_rfl); exact h
    have f41 : (fun v _ => v = Value.int .i64 (us : Nat)) (A.eval (.tmp 41)) u := by have h := depL hdeps 18 (by kernel_rfl) 41 (by kernel_rfl); exact h
    have e41 := (f41 : _ = Value.int .i64 (us : Nat))
    refine ifw_want 10 false 33 rfl rfl e33 ?_
    with_reducible refine shown_q (Value.int .i64 (rm - (us : Int))) ?qq_3_19 (fun _ _ => ?qr_3_19)
    case qr_3_19 => exact (rfl : (Value.int .i64 (rm - (us : Int))) = (Value.int .i64 (rm - (us : Int))))
    with_reducible refine quietAt_bin .sub 3 (.tmp 39) (.tmp 41) 3 (Value.int .i64 rm) (Value.int .i64 (us : Nat)) (Value.int .i64 (rm - (us : Int))) ?h0_3_19 ?h1_3_19 ?h2_3_19 ?h3_3_19
    case h0_3_19 => rfl
    case h1_3_19 => exact e39
    case h2_3_19 => exact e41
    case h3_3_19 => exact HSub.out _ _ u
   ·intro A u hu hpu hsz hout hdeps
    have e33 : A.eval (.tmp 33) = (.bool false) := by have h := depL hdeps 10 (by kernel_rfl) 33 (by kernel_rfl); exact h
    have e35 : A.eval (.tmp 35) = (.int .i64 (bn : Nat)) := by have h := depL hdeps 12 (by kernel_rfl) 35 (by kernel_rfl); exact h
    have e42 : A.eval (.tmp 42) = (.int .i64 (rm - (us : Int))) := by have h := depL hdeps 19 (by kernel_rfl) 42 (by kernel_rfl); exact h
    refine ifw_want 10 false 33 rfl rfl e33 ?_
    with_reducible refine shown_q (Value.bool true) ?qq_3_20 (fun _ _ => ?qr_3_20)
    case qr_3_20 => exact (rfl : (Value.bool true) = (Value.bool true))
    with_reducible refine quietAt_bin .gtr 3 (.tmp 35) (.tmp 42) 3 (Value.int .i64 (bn : Nat)) (Value.int .i64 (rm - (us : Int))) (Value.bool true) ?h0_3_20 ?h1_3_20 ?h2_3_20 ?h3_3_20
    case h0_3_20 => rfl
    case h1_3_20 => exact e35
    case h2_3_20 => exact e42
    case h3_3_20 => exact HGt.out _ _ u
   ·intro A u hu hpu hsz hout hdeps
    have e33 : A.eval (.tmp 33) = (.bool false) := by have h := depL hdeps 10 (by kernel_rfl) 33 (by kernel_rfl); exact h
    have e43 : A.eval (.tmp 43) = (.bool true) := by have h := depL hdeps 20 (by kernel_rfl) 43 (by kernel_rfl); exact h
    refine ifw_none rfl ?_
    with_reducible refine shown_q (Value.bool true) ?qq_3_21 (fun _ _ => ?qr_3_21)
    case qr_3_21 => exact (rfl : (Value.bool true) = (Value.bool true))
    with_reducible refine quietAt_pick (.tmp 33) (.const (.bool true)) (.tmp 43) false (Value.bool true) ?h0_3_21 ?h1_3_21 ?h2_3_21
    case h0_3_21 => rfl
    case h1_3_21 => exact e33
    case h2_3_21 => rw [if_neg (by decide)]; exact e43
   ·intro A u8 listed hh hall
    have hA := hh.frame
    have HU := hid hh.grown
    obtain ⟨x23, hx23⟩ : ∃ x, A.eval (.tmp 23) = x := ⟨_, rfl⟩
    have f23 : (fun v _ => v = (Value.bool true)) x23 u8 := by rw [← hx23]; exact hh.got 0 _ 23 rfl rfl (hall 0 (by decide))
    obtain ⟨x24, hx24⟩ : ∃ x, A.eval (.tmp 24) = x := ⟨_, rfl⟩
    have f24 : (fun v _ => v = (Value.bool false)) x24 u8 := by rw [← hx24]; exact hh.got 1 _ 24 rfl rfl (hall 1 (by decide))
    obtain ⟨x25, hx25⟩ : ∃ x, A.eval (.tmp 25) = x := ⟨_, rfl⟩
    have f25 : (fun v _ => v = (Value.bool false)) x25 u8 := by rw [← hx25]; exact hh.got 2 _ 25 rfl rfl (hall 2 (by decide))
    obtain ⟨x26, hx26⟩ : ∃ x, A.eval (.tmp 26) = x := ⟨_, rfl⟩
    have f26 : (fun v _ => v = undef) x26 u8 := by rw [← hx26]; exact hh.got 3 _ 26 rfl rfl (hall 3 (by decide))
    obtain ⟨x27, hx27⟩ : ∃ x, A.eval (.tmp 27) = x := ⟨_, rfl⟩
    have f27 : (fun v _ => v = undef) x27 u8 := by rw [← hx27]; exact hh.got 4 _ 27 rfl rfl (hall 4 (by decide))
    obtain ⟨x28, hx28⟩ : ∃ x, A.eval (.tmp 28) = x := ⟨_, rfl⟩
    have f28 : (fun v _ => v = undef) x28 u8 := by rw [← hx28]; exact hh.got 5 _ 28 rfl rfl (hall 5 (by decide))
    obtain ⟨x29, hx29⟩ : ∃ x, A.eval (.tmp 29) = x := ⟨_, rfl⟩
    have f29 : (fun v _ => v = undef) x29 u8 := by rw [← hx29]; exact hh.got 6 _ 29 rfl rfl (hall 6 (by decide))
    obtain ⟨x30, hx30⟩ : ∃ x, A.eval (.tmp 30) = x := ⟨_, rfl⟩
    have f30 : (fun v _ => v = undef) x30 u8 := by rw [← hx30]; exact hh.got 7 _ 30 rfl rfl (hall 7 (by decide))
    obtain ⟨x31, hx31⟩ : ∃ x, A.eval (.tmp 31) = x := ⟨_, rfl⟩
    have f31 : (fun v _ => v = undef) x31 u8 := by rw [← hx31]; exact hh.got 8 _ 31 rfl rfl (hall 8 (by decide))
    obtain ⟨x32, hx32⟩ : ∃ x, A.eval (.tmp 32) = x := ⟨_, rfl⟩
    have f32 : (fun v _ => v = (Value.bool false)) x32 u8 := by rw [← hx32]; exact hh.got 9 _ 32 rfl rfl (hall 9 (by decide))
    obtain ⟨x33, hx33⟩ : ∃ x, A.eval (.tmp 33) = x := ⟨_, rfl⟩
    have f33 : (fun v _ => v = (Value.bool false)) x33 u8 := by rw [← hx33]; exact hh.got 10 _ 33 rfl rfl (hall 10 (by decide))
    obtain ⟨x34, hx34⟩ : ∃ x, A.eval (.tmp 34) = x := ⟨_, rfl⟩
    have f34 : (fun v _ => v = (Value.slice ba bn bc)) x34 u8 := by rw [← hx34]; exact hh.got 11 _ 34 rfl rfl (hall 11 (by decide))
    obtain ⟨x35, hx35⟩ : ∃ x, A.eval (.tmp 35) = x := ⟨_, rfl⟩
    have f35 : (fun v _ => v = (Value.int .i64 (bn : Nat))) x35 u8 := by rw [← hx35]; exact hh.got 12 _ 35 rfl rfl (hall 12 (by decide))
    obtain ⟨x36, hx36⟩ : ∃ x, A.eval (.tmp 36) = x := ⟨_, rfl⟩
    have f36 : (fun v _ => v = (Value.pointer (some ⟨b, 0, none⟩))) x36 u8 := by rw [← hx36]; exact hh.got 13 _ 36 rfl rfl (hall 13 (by decide))
    obtain ⟨x37, hx37⟩ : ∃ x, A.eval (.tmp 37) = x := ⟨_, rfl⟩
    have f37 : (fun v _ => v = (Value.pointer (some ⟨b, 0, none⟩))) x37 u8 := by rw [← hx37]; exact hh.got 14 _ 37 rfl rfl (hall 14 (by decide))
    obtain ⟨x38, hx38⟩ : ∃ x, A.eval (.tmp 38) = x := ⟨_, rfl⟩
    have f38 : (fun v _ => v = (Value.pointer (some ⟨b, 0, none⟩))) x38 u8 := by rw [← hx38]; exact hh.got 15 _ 38 rfl rfl (hall 15 (by decide))
    obtain ⟨x39, hx39⟩ : ∃ x, A.eval (.tmp 39) = x := ⟨_, rfl⟩
    have f39 : (fun v _ => v = (Value.int .i64 rm)) x39 u8 := by rw [← hx39]; exact hh.got 16 _ 39 rfl rfl (hall 16 (by decide))
    obtain ⟨x40, hx40⟩ : ∃ x, A.eval (.tmp 40) = x := ⟨_, rfl⟩
    have f40 : (fun v _ => v = (Value.pointer (some ⟨b, 0, none⟩))) x40 u8 := by rw [← hx40]; exact hh.got 17 _ 40 rfl rfl (hall 17 (by decide))
    obtain ⟨x41, hx41⟩ : ∃ x, A.eval (.tmp 41) = x := ⟨_, rfl⟩
    have f41 : (fun v _ => v = Value.int .i64 (us : Nat)) x41 u8 := by rw [← hx41]; exact hh.got 18 _ 41 rfl rfl (hall 18 (by decide))
    obtain ⟨x42, hx42⟩ : ∃ x, A.eval (.tmp 42) = x := ⟨_, rfl⟩
    have f42 : (fun v _ => v = (Value.int .i64 (rm - (us : Int)))) x42 u8 := by rw [← hx42]; exact hh.got 19 _ 42 rfl rfl (hall 19 (by decide))
    obtain ⟨x43, hx43⟩ : ∃ x, A.eval (.tmp 43) = x := ⟨_, rfl⟩
    have f43 : (fun v _ => v = (Value.bool true)) x43 u8 := by rw [← hx43]; exact hh.got 20 _ 43 rfl rfl (hall 20 (by decide))
    obtain ⟨x44, hx44⟩ : ∃ x, A.eval (.tmp 44) = x := ⟨_, rfl⟩
    have f44 : (fun v _ => v = (Value.bool true)) x44 u8 := by rw [← hx44]; exact hh.got 21 _ 44 rfl rfl (hall 21 (by decide))
    dsimp only [wrote, List.foldl] at hA
    rw [hx23, hx24, hx25, hx26, hx27, hx28, hx29, hx30, hx31, hx32, hx33, hx34, hx35, hx36, hx37, hx38, hx39, hx40, hx41, hx42, hx43, hx44] at hA
    clear hh hall hx23 hx24 hx25 hx26 hx27 hx28 hx29 hx30 hx31 hx32 hx33 hx34 hx35 hx36 hx37 hx38 hx39 hx40 hx41 hx42 hx43 hx44
    replace f23 := (f23 : x23 = (.bool true))
    subst f23
    replace f24 := (f24 : x24 = (.bool false))
    subst f24
    replace f25 := (f25 : x25 = (.bool false))
    subst f25
    replace f26 := (f26 : x26 = undef)
    subst f26
    replace f27 := (f27 : x27 = undef)
    subst f27
    replace f28 := (f28 : x28 = undef)
    subst f28
    replace f29 := (f29 : x29 = undef)
    subst f29
    replace f30 := (f30 : x30 = undef)
    subst f30
    replace f31 := (f31 : x31 = undef)
    subst f31
    replace f32 := (f32 : x32 = (.bool false))
    subst f32
    replace f33 := (f33 : x33 = (.bool false))
    subst f33
    replace f34 := (f34 : x34 = (.slice ba bn bc))
    subst f34
    replace f35 := (f35 : x35 = (.int .i64 (bn : Nat)))
    subst f35
    replace f36 := (f36 : x36 = (.pointer (some ⟨b, 0, none⟩)))
    subst f36
    replace f37 := (f37 : x37 = (.pointer (some ⟨b, 0, none⟩)))
    subst f37
    replace f38 := (f38 : x38 = (.pointer (some ⟨b, 0, none⟩)))
    subst f38
    replace f39 := (f39 : x39 = (.int .i64 rm))
    subst f39
    replace f40 := (f40 : x40 = (.pointer (some ⟨b, 0, none⟩)))
    subst f40
    have e41 := (f41 : _ = Value.int .i64 (us : Nat))
    subst e41
    replace f42 := (f42 : x42 = (.int .i64 (rm - (us : Int))))
    subst f42
    replace f43 := (f43 : x43 = (.bool true))
    subst f43
    replace f44 := (f44 : x44 = (.bool true))
    subst f44
    subst hA
    show wpList _ _ _ [] _ _
    unfold wpList
    simp only [Act.put, List.setIfInBounds_toArray, List.set_cons_succ, List.set_cons_zero]
    go_wp2_with fail
    go_ret
    exact ⟨by rw [HE2.out trivial]; rfl, by rw [HNf.out trivial]; exact REnd.of (HR.out _ (gtrans HG5.out HU.out)) (gany (gtrans HG5.out HU.out) _)⟩
  | false =>
   by_cases h64 : sn < 64
   ·as_aux_lemma =>
    have HGe : Hid (∀ (x y : Operand) (u : World), (do eqGuard .geq 3 x y (.int .i64 (sn : Nat)) (.int .i64 64); binOp .geq 3 (.int .i64 (sn : Nat)) (.int .i64 64) : Sem Value).run Tryz.prog u = .ok (.bool false) u) := hid (fun x y u => by
     have e : ¬ (64 : Int) ≤ (sn : Int) := by omega
     go_simp)
    refine wp_region_listX (by kernel_rfl) [fun v _ => v = (Value.bool false), fun v _ => v = (Value.bool true), fun v _ => v = (Value.bool true), fun v _ => v = (Value.pointer (some ⟨b, 0, none⟩)), fun v _ => v = (Value.pointer (some ⟨b, 0, none⟩)), fun v _ => v = (Value.pointer (some ⟨b, 1, none⟩)), fun v _ => v = (Value.slice sa sn sc), fun v _ => v = (Value.int .i64 (sn : Nat)), fun v _ => v = (Value.bool false), fun v _ => v = (Value.bool false), fun v _ => v = (Value.bool false), fun v _ => v = (Value.slice ba bn bc), fun v _ => v = (Value.int .i64 (bn : Nat)), fun v _ => v = (Value.pointer (some ⟨b, 0, none⟩)), fun v _ => v = (Value.pointer (some ⟨b, 0, none⟩)), fun v _ => v = (Value.pointer (some ⟨b, 0, none⟩)), fun v _ => v = (Value.int .i64 rm), fun v _ => v = (Value.pointer (some ⟨b, 0, none⟩)), fun v _ => v = Value.int .i64 (us : Nat), fun v _ => v = (Value.int .i64 (rm - (us : Int))), fun v _ => v = (Value.bool true), fun v _ => v = (Value.bool true)] (none) (fun _ => none) 22 (by kernel_rfl) (by kernel_rfl) (by kernel_rfl) (by kernel_rfl) (by decide) noRow_one (fun _ => .inl rfl) ⟨fun i v u u' hki h hg => h, fun i v u u' hki h hg => h, fun i v u u' hki h hg => h, fun i v u u' hki h hg => h, fun i v u u' hki h hg => h, fun i v u u' hki h hg => h, fun i v u u' hki h hg => h, fun i v u u' hki h hg => h, fun i v u u' hki h hg => h, fun i v u u' hki h hg => h, fun i v u u' hki h hg => h, fun i v u u' hki h hg => h, fun i v u u' hki h hg => h, fun i v u u' hki h hg => h, fun i v u u' hki h hg => h, fun i v u u' hki h hg => h, fun i v u u' hki h hg => h, fun i v u u' hki h hg => h, fun i v u u' hki h hg => h, fun i v u u' hki h hg => h, fun i v u u' hki h hg => h, fun i v u u' hki h hg => h, trivial⟩ ⟨?_, ?_, ?_, ?_, ?_, ?_, ?_, ?_, ?_, ?_, ?_, ?_, ?_, ?_, ?_, ?_, ?_, ?_, ?_, ?_, ?_, ?_, trivial⟩ ?_
    ·intro A u hu hpu hsz hout hdeps
     have e9 : A.eval (.tmp 9) = (.bool false) := (hout 9 (by kernel_rfl)).trans rfl
     refine ifw_none rfl ?_
     with_reducible refine shown_q (Value.bool false) ?qq_4_0 (fun _ _ => ?qr_4_0)
     case qr_4_0 => exact (rfl : (Value.bool false) = (Value.bool false))
     with_reducible refine quietAt_mv (.tmp 9) (Value.bool false) ?h0_4_0 ?h1_4_0
     case h0_4_0 => rfl
     case h1_4_0 => exact e9
    ·intro A u hu hpu hsz hout hdeps
     have e23 : A.eval (.tmp 23) = (.bool false) := by have h := depL hdeps 0 (by kernel_rfl) 23 (by kernel_rfl); exact h
     refine ifw_none rfl ?_
     with_reducible refine shown_q (Value.bool true) ?qq_4_1 (fun _ _ => ?qr_4_1)
     case qr_4_1 => exact (rfl : (Value.bool true) = (Value.bool true))
     with_reducible refine quietAt_un .not 4 (.tmp 23) (Value.bool false) (Value.bool true) ?h0_4_1 ?h1_4_1 ?h2_4_1
     case h0_4_1 => rfl
     case h1_4_1 => exact e23
     case h2_4_1 => rfl
    ·intro A u hu hpu hsz hout hdeps
     have e24 : A.eval (.tmp 24) = (.bool true) := by have h := depL hdeps 1 (by kernel_rfl) 24 (by kernel_rfl); exact h
     refine ifw_none rfl ?_
     with_reducible refine shown_q (Value.bool true) ?qq_4_2 (fun _ _ => ?qr_4_2)
     case qr_4_2 => exact (rfl : (Value.bool true) = (Value.bool true))
     with_reducible refine quietAt_mv (.tmp 24) (Value.bool true) ?h0_4_2 ?h1_4_2
     case h0_4_2 => rfl
     case h1_4_2 => exact e24
    ·intro A u hu hpu hsz hout hdeps
     have e25 : A.eval (.tmp 25) = (.bool true) := by have h := depL hdeps 2 (by kernel_rfl) 25 (by kernel_rfl); exact h
     have e0 : A.eval (.tmp 0) = (.pointer (some ⟨b, 0, none⟩)) := (hout 0 (by kernel_rfl)).trans rfl
     refine ifw_want 2 true 25 rfl rfl e25 ?_
     with_reducible refine shown_q (Value.pointer (some ⟨b, 0, none⟩)) ?qq_4_3 (fun _ _ => ?qr_4_3)
     case qr_4_3 => exact (rfl : (Value.pointer (some ⟨b, 0, none⟩)) = (Value.pointer (some ⟨b, 0, none⟩)))
     with_reducible refine quietAt_mv (.tmp 0) (Value.pointer (some ⟨b, 0, none⟩)) ?h0_4_3 ?h1_4_3
     case h0_4_3 => rfl
     case h1_4_3 => exact e0
    ·intro A u hu hpu hsz hout hdeps
     have e25 : A.eval (.tmp 25) = (.bool true) := by have h := depL hdeps 2 (by kernel_rfl) 25 (by kernel_rfl); exact h
     have e26 : A.eval (.tmp 26) = (.pointer (some ⟨b, 0, none⟩)) := by have h := depL hdeps 3 (by kernel_rfl) 26 (by kernel_rfl); exact h
     refine ifw_want 2 true 25 rfl rfl e25 ?_
     with_reducible refine shown_q (Value.pointer (some ⟨b, 0, none⟩)) ?qq_4_4 (fun _ _ => ?qr_4_4)
     case qr_4_4 => exact (rfl : (Value.pointer (some ⟨b, 0, none⟩)) = (Value.pointer (some ⟨b, 0, none⟩)))
     with_reducible refine quietAt_nil (.tmp 26) ?h0_4_4 ⟨b, 0, none⟩ ?h1_4_4
     case h0_4_4 => rfl
     case h1_4_4 => exact e26
    ·intro A u hu hpu hsz hout hdeps
     have e25 : A.eval (.tmp 25) = (.bool true) := by have h := depL hdeps 2 (by kernel_rfl) 25 (by kernel_rfl); exact h
     have e27 : A.eval (.tmp 27) = (.pointer (some ⟨b, 0, none⟩)) := by have h := depL hdeps 4 (by kernel_rfl) 27 (by kernel_rfl); exact h
     refine ifw_want 2 true 25 rfl rfl e25 ?_
     with_reducible refine shown_q (Value.pointer (some ⟨b, 1, none⟩)) ?qq_4_5 (fun _ _ => ?qr_4_5)
     case qr_4_5 => exact (rfl : (Value.pointer (some ⟨b, 1, none⟩)) = (Value.pointer (some ⟨b, 1, none⟩)))
     with_reducible refine quietAt_field 113 (.tmp 27) 1 ?h0_4_5 ⟨b, 0, none⟩ ⟨b, 1, none⟩ ?h1_4_5 ?h2_4_5
     case h0_4_5 => rfl
     case h1_4_5 => exact e27
     case h2_4_5 => kernel_rfl
    ·intro A u hu hpu hsz hout hdeps
     have e25 : A.eval (.tmp 25) = (.bool true) := by have h := depL hdeps 2 (by kernel_rfl) 25 (by kernel_rfl); exact h
     have e28 : A.eval (.tmp 28) = (.pointer (some ⟨b, 1, none⟩)) := by have h := depL hdeps 5 (by kernel_rfl) 28 (by kernel_rfl); exact h
     refine ifw_want 2 true 25 rfl rfl e25 ?_
     with_reducible refine shown_q (Value.slice sa sn sc) ?qq_4_6 (fun _ _ => ?qr_4_6)
     case qr_4_6 => exact (rfl : (Value.slice sa sn sc) = (Value.slice sa sn sc))
     with_reducible refine quietAt_ld 110 (.tmp 28) (Value.pointer (some ⟨b, 1, none⟩)) (Value.slice sa sn sc) ?h0_4_6 ?h1_4_6 ?h2_4_6
     case h0_4_6 => rfl
     case h1_4_6 => exact e28
     case h2_4_6 => exact ld66 b 1 sn sc sa u (HY.out u (gtrans HG5.out hu)).2
    ·intro A u hu hpu hsz hout hdeps
     have e25 : A.eval (.tmp 25) = (.bool true) := by have h := depL hdeps 2 (by kernel_rfl) 25 (by kernel_rfl); exact h
     have e29 : A.eval (.tmp 29) = (.slice sa sn sc) := by have h := depL hdeps 6 (by kernel_rfl) 29 (by kernel_rfl); exact h
     refine ifw_want 2 true 25 rfl rfl e25 ?_
     with_reducible refine shown_q (Value.int .i64 (sn : Nat)) ?qq_4_7 (fun _ _ => ?qr_4_7)
     case qr_4_7 => exact (rfl : (Value.int .i64 (sn : Nat)) = (Value.int .i64 (sn : Nat)))
     with_reducible refine quietAt_len (.tmp 29) 110 ?h0_4_7 sa sn sc ?h1_4_7 ?h2_4_7
     case h0_4_7 => rfl
     case h1_4_7 => exact e29
     case h2_4_7 => kernel_rfl
    ·intro A u hu hpu hsz hout hdeps
     have e25 : A.eval (.tmp 25) = (.bool true) := by have h := depL hdeps 2 (by kernel_rfl) 25 (by kernel_rfl); exact h
     have e30 : A.eval (.tmp 30) = (.int .i64 (sn : Nat)) := by have h := depL hdeps 7 (by kernel_rfl) 30 (by kernel_rfl); exact h
     refine ifw_want 2 true 25 rfl rfl e25 ?_
     with_reducible refine shown_q (Value.bool false) ?qq_4_8 (fun _ _ => ?qr_4_8)
     case qr_4_8 => exact (rfl : (Value.bool false) = (Value.bool false))
     with_reducible refine quietAt_bin .geq 3 (.tmp 30) (.const (.int .i64 64)) 3 (Value.int .i64 (sn : Nat)) (Value.int .i64 64) (Value.bool false) ?h0_4_8 ?h1_4_8 ?h2_4_8 ?h3_4_8
     case h0_4_8 => rfl
     case h1_4_8 => exact e30
     case h2_4_8 => exact rfl
     case h3_4_8 => exact HGe.out _ _ u
    ·intro A u hu hpu hsz hout hdeps
     have e25 : A.eval (.tmp 25) = (.bool true) := by have h := depL hdeps 2 (by kernel_rfl) 25 (by kernel_rfl); exact h
     have e31 : A.eval (.tmp 31) = (.bool false) := by have h := depL hdeps 8 (by kernel_rfl) 31 (by kernel_rfl); exact h
     refine ifw_none rfl ?_
     with_reducible refine shown_q (Value.bool false) ?qq_4_9 (fun _ _ => ?qr_4_9)
     case qr_4_9 => exact (rfl : (Value.bool false) = (Value.bool false))
     with_reducible refine quietAt_pick (.tmp 25) (.tmp 31) (.const (.bool false)) true (Value.bool false) ?h0_4_9 ?h1_4_9 ?h2_4_9
     case h0_4_9 => rfl
     case h1_4_9 => exact e25
     case h2_4_9 => rw [if_pos rfl]; exact e31
    ·intro A u hu hpu hsz hout hdeps
     have e32 : A.eval (.tmp 32) = (.bool false) := by have h := depL hdeps 9 (by kernel_rfl) 32 (by kernel_rfl); exact h
     refine ifw_none rfl ?_
     with_reducible refine shown_q (Value.bool false) ?qq_4_10 (fun _ _ => ?qr_4_10)
     case qr_4_10 => exact (rfl : (Value.bool false) = (Value.bool false))
     with_reducible refine quietAt_mv (.tmp 32) (Value.bool false) ?h0_4_10 ?h1_4_10
     case h0_4_10 => rfl
     case h1_4_10 => exact e32
    ·intro A u hu hpu hsz hout hdeps
     have e33 : A.eval (.tmp 33) = (.bool false) := by have h := depL hdeps 10 (by kernel_rfl) 33 (by kernel_rfl); exact h
     have e2 : A.eval (.tmp 2) = (.slice ba bn bc) := (hout 2 (by kernel_rfl)).trans rfl
     refine ifw_want 10 false 33 rfl rfl e33 ?_
     with_reducible refine shown_q (Value.slice ba bn bc) ?qq_4_11 (fun _ _ => ?qr_4_11)
     case qr_4_11 => exact (rfl : (Value.slice ba bn bc) = (Value.slice ba bn bc))
     with_reducible refine quietAt_mv (.tmp 2) (Value.slice ba bn bc) ?h0_4_11 ?h1_4_11
     case h0_4_11 => rfl
     case h1_4_11 => exact e2
    ·intro A u hu hpu hsz hout hdeps
     have e33 : A.eval (.tmp 33) = (.bool false) := by have h := depL hdeps 10 (by kernel_rfl) 33 (by kernel_rfl); exact h
     have e34 : A.eval (.tmp 34) = (.slice ba bn bc) := by have h := depL hdeps 11 (by kernel_rfl) 34 (by kernel_rfl); exact h
     refine ifw_want 10 false 33 rfl rfl e33 ?_
     with_reducible refine shown_q (Value.int .i64 (bn : Nat)) ?qq_4_12 (fun _ _ => ?qr_4_12)
     case qr_4_12 => exact (rfl : (Value.int .i64 (bn : Nat)) = (Value.int .i64 (bn : Nat)))
     with_reducible refine quietAt_len (.tmp 34) 74 ?h0_4_12 ba bn bc ?h1_4_12 ?h2_4_12
     case h0_4_12 => rfl
     case h1_4_12 => exact e34
     case h2_4_12 => kernel_rfl
    ·intro A u hu hpu hsz hout hdeps
     have e33 : A.eval (.tmp 33) = (.bool false) := by have h := depL hdeps 10 (by kernel_rfl) 33 (by kernel_rfl); exact h
     have e0 : A.eval (.tmp 0) = (.pointer (some ⟨b, 0, none⟩)) := (hout 0 (by kernel_rfl)).trans rfl
     refine ifw_want 10 false 33 rfl rfl e33 ?_
     with_reducible refine shown_q (Value.pointer (some ⟨b, 0, none⟩)) ?qq_4_13 (fun _ _ => ?qr_4_13)
     case qr_4_13 => exact (rfl : (Value.pointer (some ⟨b, 0, none⟩)) = (Value.pointer (some ⟨b, 0, none⟩)))
     with_reducible refine quietAt_mv (.tmp 0) (Value.pointer (some ⟨b, 0, none⟩)) ?h0_4_13 ?h1_4_13
     case h0_4_13 => rfl
     case h1_4_13 => exact e0
    ·intro A u hu hpu hsz hout hdeps
     have e33 : A.eval (.tmp 33) = (.bool false) := by have h := depL hdeps 10 (by kernel_rfl) 33 (by kernel_rfl); exact h
     have e36 : A.eval (.tmp 36) = (.pointer (some ⟨b, 0, none⟩)) := by have h := depL hdeps 13 (by kernel_rfl) 36 (by kernel_rfl); exact h
     refine ifw_want 10 false 33 rfl rfl e33 ?_
     with_reducible refine shown_q (Value.pointer (some ⟨b, 0, none⟩)) ?qq_4_14 (fun _ _ => ?qr_4_14)
     case qr_4_14 => exact (rfl : (Value.pointer (some ⟨b, 0, none⟩)) = (Value.pointer (some ⟨b, 0, none⟩)))
     with_reducible refine quietAt_nil (.tmp 36) ?h0_4_14 ⟨b, 0, none⟩ ?h1_4_14
     case h0_4_14 => rfl
     case h1_4_14 => exact e36
    ·intro A u hu hpu hsz hout hdeps
     have e33 : A.eval (.tmp 33) = (.bool false) := by have h := depL hdeps 10 (by kernel_rfl) 33 (by kernel_rfl); exact h
     have e37 : A.eval (.tmp 37) = (.pointer (some ⟨b, 0, none⟩)) := by have h := depL hdeps 14 (by kernel_rfl) 37 (by kernel_rfl); exact h
     refine ifw_want 10 false 33 rfl rfl e33 ?_
     with_reducible refine shown_q (Value.pointer (some ⟨b, 0, none⟩)) ?qq_4_15 (fun _ _ => ?qr_4_15)
     case qr_4_15 => exact (rfl : (Value.pointer (some ⟨b, 0, none⟩)) = (Value.pointer (some ⟨b, 0, none⟩)))
     with_reducible refine quietAt_field 113 (.tmp 37) 0 ?h0_4_15 ⟨b, 0, none⟩ ⟨b, 0, none⟩ ?h1_4_15 ?h2_4_15
     case h0_4_15 => rfl
     case h1_4_15 => exact e37
     case h2_4_15 => kernel_rfl
    ·intro A u hu hpu hsz hout hdeps
     have e33 : A.eval (.tmp 33) = (.bool false) := by have h := depL hdeps 10 (by kernel_rfl) 33 (by kernel_rfl); exact h
     have e38 : A.eval (.tmp 38) = (.pointer (some ⟨b, 0, none⟩)) := by have h := depL hdeps 15 (by kernel_rfl) 38 (by kernel_rfl); exact h
     refine ifw_want 10 false 33 rfl rfl e33 ?_
     with_reducible refine shown_q (Value.int .i64 rm) ?qq_4_16 (fun _ _ => ?qr_4_16)
     case qr_4_16 => exact (rfl : (Value.int .i64 rm) = (Value.int .i64 rm))
     with_reducible refine quietAt_ld 3 (.tmp 38) (Value.pointer (some ⟨b, 0, none⟩)) (Value.int .i64 rm) ?h0_4_16 ?h1_4_16 ?h2_4_16
     case h0_4_16 => rfl
     case h1_4_16 => exact e38
     case h2_4_16 => exact ld3 b 0 rm u (HY.out u (gtrans HG5.out hu)).1
    ·intro A u hu hpu hsz hout hdeps
     have e33 : A.eval (.tmp 33) = (.bool false) := by have h := depL hdeps 10 (by kernel_rfl) 33 (by kernel_rfl); exact h
     have e0 : A.eval (.tmp 0) = (.pointer (some ⟨b, 0, none⟩)) := (hout 0 (by kernel_rfl)).trans rfl
     refine ifw_want 10 false 33 rfl rfl e33 ?_
     with_reducible refine shown_q (Value.pointer (some ⟨b, 0, none⟩)) ?qq_4_17 (fun _ _ => ?qr_4_17)
     case qr_4_17 => exact (rfl : (Value.pointer (some ⟨b, 0, none⟩)) = (Value.pointer (some ⟨b, 0, none⟩)))
     with_reducible refine quietAt_mv (.tmp 0) (Value.pointer (some ⟨b, 0, none⟩)) ?h0_4_17 ?h1_4_17
     case h0_4_17 => rfl
     case h1_4_17 => exact e0
    ·intro A u hu hpu hsz hout hdeps
     have e33 : A.eval (.tmp 33) = (.bool false) := by have h := depL hdeps 10 (by kernel_rfl) 33 (by kernel_rfl); exact h
     have e40 : A.eval (.tmp 40) = (.pointer (some ⟨b, 0, none⟩)) := by have h := depL hdeps 17 (by kernel_rfl) 40 (by kernel_rfl); exact h
     refine ifw_want 10 false 33 rfl rfl e33 ?_
     with_reducible refine shown_call 43 Tryz.f43 ?h0_4_18 ?h1_4_18 ?h2_4_18 #[.tmp 40] #[30] ?h3_4_18 #[(Value.pointer (some ⟨b, 0, none⟩))] ?h4_4_18 ?h5_4_18
     case h0_4_18 => exact Tryz.func43
     case h1_4_18 => kernel_rfl
     case h2_4_18 => kernel_rfl
     case h3_4_18 => rfl
     case h4_4_18 => exact map1 _ _ _ e40
     case h5_4_18 => exact HUs.out u (gtrans HG5.out hu)
    ·intro A u hu hpu hsz hout hdeps
     have e33 : A.eval (.tmp 33) = (.bool false) := by have h := depL hdeps 10 (by kernel_rfl) 33 (by kernel_rfl); exact h
     have e39 : A.eval (.tmp 39) = (.int .i64 rm) := by have h := depL hdeps 16 (by kernel_rfl) 39 (by kernel_rfl); exact h
     have f41 : (fun v _ => v = Value.int .i64 (us : Nat)) (A.eval (.tmp 41)) u := by have h := depL hdeps 18 (by kernel_rfl) 41 (by kernel_rfl); exact h
     have e41 := (f41 : _ = Value.int .i64 (us : Nat))
     refine ifw_want 10 false 33 rfl rfl e33 ?_
     with_reducible refine shown_q (Value.int .i64 (rm - (us : Int))) ?qq_4_19 (fun _ _ => ?qr_4_19)
     case qr_4_19 => exact (rfl : (Value.int .i64 (rm - (us : Int))) = (Value.int .i64 (rm - (us : Int))))
     with_reducible refine quietAt_bin .sub 3 (.tmp 39) (.tmp 41) 3 (Value.int .i64 rm) (Value.int .i64 (us : Nat)) (Value.int .i64 (rm - (us : Int))) ?h0_4_19 ?h1_4_19 ?h2_4_19 ?h3_4_19
     case h0_4_19 => rfl
     case h1_4_19 => exact e39
     case h2_4_19 => exact e41
     case h3_4_19 => exact HSub.out _ _ u
    ·intro A u hu hpu hsz hout hdeps
     have e33 : A.eval (.tmp 33) = (.bool false) := by have h := depL hdeps 10 (by kernel_rfl) 33 (by kernel_rfl); exact h
     have e35 : A.eval (.tmp 35) = (.int .i64 (bn : Nat)) := by have h := depL hdeps 12 (by kernel_rfl) 35 (by kernel_rfl); exact h
     have e42 : A.eval (.tmp 42) = (.int .i64 (rm - (us : Int))) := by have h := depL hdeps 19 (by kernel_rfl) 42 (by kernel_rfl); exact h
     refine ifw_want 10 false 33 rfl rfl e33 ?_
     with_reducible refine shown_q (Value.bool true) ?qq_4_20 (fun _ _ => ?qr_4_20)
     case qr_4_20 => exact (rfl : (Value.bool true) = (Value.bool true))
     with_reducible refine quietAt_bin .gtr 3 (.tmp 35) (.tmp 42) 3 (Value.int .i64 (bn : Nat)) (Value.int .i64 (rm - (us : Int))) (Value.bool true) ?h0_4_20 ?h1_4_20 ?h2_4_20 ?h3_4_20
     case h0_4_20 => rfl
     case h1_4_20 => exact e35
     case h2_4_20 => exact e42
     case h3_4_20 => exact HGt.out _ _ u
    ·intro A u hu hpu hsz hout hdeps
     have e33 : A.eval (.tmp 33) = (.bool false) := by have h := depL hdeps 10 (by kernel_rfl) 33 (by kernel_rfl); exact h
     have e43 : A.eval (.tmp 43) = (.bool true) := by have h := depL hdeps 20 (by kernel_rfl) 43 (by kernel_rfl); exact h
     refine ifw_none rfl ?_
     with_reducible refine shown_q (Value.bool true) ?qq_4_21 (fun _ _ => ?qr_4_21)
     case qr_4_21 => exact (rfl : (Value.bool true) = (Value.bool true))
     with_reducible refine quietAt_pick (.tmp 33) (.const (.bool true)) (.tmp 43) false (Value.bool true) ?h0_4_21 ?h1_4_21 ?h2_4_21
     case h0_4_21 => rfl
     case h1_4_21 => exact e33
     case h2_4_21 => rw [if_neg (by decide)]; exact e43
    ·intro A u8 listed hh hall
     have hA := hh.frame
     have HU := hid hh.grown
     obtain ⟨x23, hx23⟩ : ∃ x, A.eval (.tmp 23) = x := ⟨_, rfl⟩
     have f23 : (fun v _ => v = (Value.bool false)) x23 u8 := by rw [← hx23]; exact hh.got 0 _ 23 rfl rfl (hall 0 (by decide))
     obtain ⟨x24, hx24⟩ : ∃ x, A.eval (.tmp 24) = x := ⟨_, rfl⟩
     have f24 : (fun v _ => v = (Value.bool true)) x24 u8 := by rw [← hx24]; exact hh.got 1 _ 24 rfl rfl (hall 1 (by decide))
     obtain ⟨x25, hx25⟩ : ∃ x, A.eval (.tmp 25) = x := ⟨_, rfl⟩
     have f25 : (fun v _ => v = (Value.bool true)) x25 u8 := by rw [← hx25]; exact hh.got 2 _ 25 rfl rfl (hall 2 (by decide))
     obtain ⟨x26, hx26⟩ : ∃ x, A.eval (.tmp 26) = x := ⟨_, rfl⟩
     have f26 : (fun v _ => v = (Value.pointer (some ⟨b, 0, none⟩))) x26 u8 := by rw [← hx26]; exact hh.got 3 _ 26 rfl rfl (hall 3 (by decide))
     obtain ⟨x27, hx27⟩ : ∃ x, A.eval (.tmp 27) = x := ⟨_, rfl⟩
     have f27 : (fun v _ => v = (Value.pointer (some ⟨b, 0, none⟩))) x27 u8 := by rw [← hx27]; exact hh.got 4 _ 27 rfl rfl (hall 4 (by decide))
     obtain ⟨x28, hx28⟩ : ∃ x, A.eval (.tmp 28) = x := ⟨_, rfl⟩
     have f28 : (fun v _ => v = (Value.pointer (some ⟨b, 1, none⟩))) x28 u8 := by rw [← hx28]; exact hh.got 5 _ 28 rfl rfl (hall 5 (by decide))
     obtain ⟨x29, hx29⟩ : ∃ x, A.eval (.tmp 29) = x := ⟨_, rfl⟩
     have f29 : (fun v _ => v = (Value.slice sa sn sc)) x29 u8 := by rw [← hx29]; exact hh.got 6 _ 29 rfl rfl (hall 6 (by decide))
     obtain ⟨x30, hx30⟩ : ∃ x, A.eval (.tmp 30) = x := ⟨_, rfl⟩
     have f30 : (fun v _ => v = (Value.int .i64 (sn : Nat))) x30 u8 := by rw [← hx30]; exact hh.got 7 _ 30 rfl rfl (hall 7 (by decide))
     obtain ⟨x31, hx31⟩ : ∃ x, A.eval (.tmp 31) = x := ⟨_, rfl⟩
     have f31 : (fun v _ => v = (Value.bool false)) x31 u8 := by rw [← hx31]; exact hh.got 8 _ 31 rfl rfl (hall 8 (by decide))
     obtain ⟨x32, hx32⟩ : ∃ x, A.eval (.tmp 32) = x := ⟨_, rfl⟩
     have f32 : (fun v _ => v = (Value.bool false)) x32 u8 := by rw [← hx32]; exact hh.got 9 _ 32 rfl rfl (hall 9 (by decide))
     obtain ⟨x33, hx33⟩ : ∃ x, A.eval (.tmp 33) = x := ⟨_, rfl⟩
     have f33 : (fun v _ => v = (Value.bool false)) x33 u8 := by rw [← hx33]; exact hh.got 10 _ 33 rfl rfl (hall 10 (by decide))
     obtain ⟨x34, hx34⟩ : ∃ x, A.eval (.tmp 34) = x := ⟨_, rfl⟩
     have f34 : (fun v _ => v = (Value.slice ba bn bc)) x34 u8 := by rw [← hx34]; exact hh.got 11 _ 34 rfl rfl (hall 11 (by decide))
     obtain ⟨x35, hx35⟩ : ∃ x, A.eval (.tmp 35) = x := ⟨_, rfl⟩
     have f35 : (fun v _ => v = (Value.int .i64 (bn : Nat))) x35 u8 := by rw [← hx35]; exact hh.got 12 _ 35 rfl rfl (hall 12 (by decide))
     obtain ⟨x36, hx36⟩ : ∃ x, A.eval (.tmp 36) = x := ⟨_, rfl⟩
     have f36 : (fun v _ => v = (Value.pointer (some ⟨b, 0, none⟩))) x36 u8 := by rw [← hx36]; exact hh.got 13 _ 36 rfl rfl (hall 13 (by decide))
     obtain ⟨x37, hx37⟩ : ∃ x, A.eval (.tmp 37) = x := ⟨_, rfl⟩
     have f37 : (fun v _ => v = (Value.pointer (some ⟨b, 0, none⟩))) x37 u8 := by rw [← hx37]; exact hh.got 14 _ 37 rfl rfl (hall 14 (by decide))
     obtain ⟨x38, hx38⟩ : ∃ x, A.eval (.tmp 38) = x := ⟨_, rfl⟩
     have f38 : (fun v _ => v = (Value.pointer (some ⟨b, 0, none⟩))) x38 u8 := by rw [← hx38]; exact hh.got 15 _ 38 rfl rfl (hall 15 (by decide))
     obtain ⟨x39, hx39⟩ : ∃ x, A.eval (.tmp 39) = x := ⟨_, rfl⟩
     have f39 : (fun v _ => v = (Value.int .i64 rm)) x39 u8 := by rw [← hx39]; exact hh.got 16 _ 39 rfl rfl (hall 16 (by decide))
     obtain ⟨x40, hx40⟩ : ∃ x, A.eval (.tmp 40) = x := ⟨_, rfl⟩
     have f40 : (fun v _ => v = (Value.pointer (some ⟨b, 0, none⟩))) x40 u8 := by rw [← hx40]; exact hh.got 17 _ 40 rfl rfl (hall 17 (by decide))
     obtain ⟨x41, hx41⟩ : ∃ x, A.eval (.tmp 41) = x := ⟨_, rfl⟩
     have f41 : (fun v _ => v = Value.int .i64 (us : Nat)) x41 u8 := by rw [← hx41]; exact hh.got 18 _ 41 rfl rfl (hall 18 (by decide))
     obtain ⟨x42, hx42⟩ : ∃ x, A.eval (.tmp 42) = x := ⟨_, rfl⟩
     have f42 : (fun v _ => v = (Value.int .i64 (rm - (us : Int)))) x42 u8 := by rw [← hx42]; exact hh.got 19 _ 42 rfl rfl (hall 19 (by decide))
     obtain ⟨x43, hx43⟩ : ∃ x, A.eval (.tmp 43) = x := ⟨_, rfl⟩
     have f43 : (fun v _ => v = (Value.bool true)) x43 u8 := by rw [← hx43]; exact hh.got 20 _ 43 rfl rfl (hall 20 (by decide))
     obtain ⟨x44, hx44⟩ : ∃ x, A.eval (.tmp 44) = x := ⟨_, rfl⟩
     have f44 : (fun v _ => v = (Value.bool true)) x44 u8 := by rw [← hx44]; exact hh.got 21 _ 44 rfl rfl (hall 21 (by decide))
     dsimp only [wrote, List.foldl] at hA
     rw [hx23, hx24, hx25, hx26, hx27, hx28, hx29, hx30, hx31, hx32, hx33, hx34, hx35, hx36, hx37, hx38, hx39, hx40, hx41, hx42, hx43, hx44] at hA
     clear hh hall hx23 hx24 hx25 hx26 hx27 hx28 hx29 hx30 hx31 hx32 hx33 hx34 hx35 hx36 hx37 hx38 hx39 hx40 hx41 hx42 hx43 hx44
     replace f23 := (f23 : x23 = (.bool false))
     subst f23
     replace f24 := (f24 : x24 = (.bool true))
     subst f24
     replace f25 := (f25 : x25 = (.bool true))
     subst f25
     replace f26 := (f26 : x26 = (.pointer (some ⟨b, 0, none⟩)))
     subst f26
     replace f27 := (f27 : x27 = (.pointer (some ⟨b, 0, none⟩)))
     subst f27
     replace f28 := (f28 : x28 = (.pointer (some ⟨b, 1, none⟩)))
     subst f28
     replace f29 := (f29 : x29 = (.slice sa sn sc))
     subst f29
     replace f30 := (f30 : x30 = (.int .i64 (sn : Nat)))
     subst f30
     replace f31 := (f31 : x31 = (.bool false))
     subst f31
     replace f32 := (f32 : x32 = (.bool false))
     subst f32
     replace f33 := (f33 : x33 = (.bool false))
     subst f33
     replace f34 := (f34 : x34 = (.slice ba bn bc))
     subst f34
     replace f35 := (f35 : x35 = (.int .i64 (bn : Nat)))
     subst f35
     replace f36 := (f36 : x36 = (.pointer (some ⟨b, 0, none⟩)))
     subst f36
     replace f37 := (f37 : x37 = (.pointer (some ⟨b, 0, none⟩)))
     subst f37
     replace f38 := (f38 : x38 = (.pointer (some ⟨b, 0, none⟩)))
     subst f38
     replace f39 := (f39 : x39 = (.int .i64 rm))
     subst f39
     replace f40 := (f40 : x40 = (.pointer (some ⟨b, 0, none⟩)))
     subst f40
     have e41 := (f41 : _ = Value.int .i64 (us : Nat))
     subst e41
     replace f42 := (f42 : x42 = (.int .i64 (rm - (us : Int))))
     subst f42
     replace f43 := (f43 : x43 = (.bool true))
     subst f43
     replace f44 := (f44 : x44 = (.bool true))
     subst f44
     subst hA
     show wpList _ _ _ [] _ _
     unfold wpList
     simp only [Act.put, List.setIfInBounds_toArray, List.set_cons_succ, List.set_cons_zero]
     go_wp2_with fail
     go_ret
     exact ⟨by rw [HE2.out trivial]; rfl, by rw [HNf.out trivial]; exact REnd.of (HR.out _ (gtrans HG5.out HU.out)) (gany (gtrans HG5.out HU.out) _)⟩
   ·as_aux_lemma =>
    have HGe : Hid (∀ (x y : Operand) (u : World), (do eqGuard .geq 3 x y (.int .i64 (sn : Nat)) (.int .i64 64); binOp .geq 3 (.int .i64 (sn : Nat)) (.int .i64 64) : Sem Value).run Tryz.prog u = .ok (.bool true) u) := hid (fun x y u => by
     have e : (64 : Int) ≤ (sn : Int) := by omega
     go_simp)
    refine wp_region_listX (by kernel_rfl) [fun v _ => v = (Value.bool false), fun v _ => v = (Value.bool true), fun v _ => v = (Value.bool true), fun v _ => v = (Value.pointer (some ⟨b, 0, none⟩)), fun v _ => v = (Value.pointer (some ⟨b, 0, none⟩)), fun v _ => v = (Value.pointer (some ⟨b, 1, none⟩)), fun v _ => v = (Value.slice sa sn sc), fun v _ => v = (Value.int .i64 (sn : Nat)), fun v _ => v = (Value.bool true), fun v _ => v = (Value.bool true), fun v _ => v = (Value.bool true), fun v _ => v = undef, fun v _ => v = undef, fun v _ => v = undef, fun v _ => v = undef, fun v _ => v = undef, fun v _ => v = undef, fun v _ => v = undef, fun v _ => v = undef, fun v _ => v = undef, fun v _ => v = undef, fun v _ => v = (Value.bool true)] (none) (fun _ => none) 22 (by kernel_rfl) (by kernel_rfl) (by kernel_rfl) (by kernel_rfl) (by decide) noRow_one (fun _ => .inl rfl) ⟨fun i v u u' hki h hg => h, fun i v u u' hki h hg => h, fun i v u u' hki h hg => h, fun i v u u' hki h hg => h, fun i v u u' hki h hg => h, fun i v u u' hki h hg => h, fun i v u u' hki h hg => h, fun i v u u' hki h hg => h, fun i v u u' hki h hg => h, fun i v u u' hki h hg => h, fun i v u u' hki h hg => h, fun i v u u' hki h hg => h, fun i v u u' hki h hg => h, fun i v u u' hki h hg => h, fun i v u u' hki h hg => h, fun i v u u' hki h hg => h, fun i v u u' hki h hg => h, fun i v u u' hki h hg => h, fun i v u u' hki h hg => h, fun i v u u' hki h hg => h, fun i v u u' hki h hg => h, fun i v u u' hki h hg => h, trivial⟩ ⟨?_, ?_, ?_, ?_, ?_, ?_, ?_, ?_, ?_, ?_, ?_, ?_, ?_, ?_, ?_, ?_, ?_, ?_, ?_, ?_, ?_, ?_, trivial⟩ ?_
    ·intro A u hu hpu hsz hout hdeps
     have e9 : A.eval (.tmp 9) = (.bool false) := (hout 9 (by kernel_rfl)).trans rfl
     refine ifw_none rfl ?_
     with_reducible refine shown_q (Value.bool false) ?qq_6_0 (fun _ _ => ?qr_6_0)
     case qr_6_0 => exact (rfl : (Value.bool false) = (Value.bool false))
     with_reducible refine quietAt_mv (.tmp 9) (Value.bool false) ?h0_6_0 ?h1_6_0
     case h0_6_0 => rfl
     case h1_6_0 => exact e9
    ·intro A u hu hpu hsz hout hdeps
     have e23 : A.eval (.tmp 23) = (.bool false) := by have h := depL hdeps 0 (by kernel_rfl) 23 (by kernel_rfl); exact h
     refine ifw_none rfl ?_
     with_reducible refine shown_q (Value.bool true) ?qq_6_1 (fun _ _ => ?qr_6_1)
     case qr_6_1 => exact (rfl : (Value.bool true) = (Value.bool true))
     with_reducible refine quietAt_un .not 4 (.tmp 23) (Value.bool false) (Value.bool true) ?h0_6_1 ?h1_6_1 ?h2_6_1
     case h0_6_1 => rfl
     case h1_6_1 => exact e23
     case h2_6_1 => rfl
    ·intro A u hu hpu hsz hout hdeps
     have e24 : A.eval (.tmp 24) = (.bool true) := by have h := depL hdeps 1 (by kernel_rfl) 24 (by kernel_rfl); exact h
     refine ifw_none rfl ?_
     with_reducible refine shown_q (Value.bool true) ?qq_6_2 (fun _ _ => ?qr_6_2)
     case qr_6_2 => exact (rfl : (Value.bool true) = (Value.bool true))
     with_reducible refine quietAt_mv (.tmp 24) (Value.bool true) ?h0_6_2 ?h1_6_2
     case h0_6_2 => rfl
     case h1_6_2 => exact e24
    ·intro A u hu hpu hsz hout hdeps
     have e25 : A.eval (.tmp 25) = (.bool true) := by have h := depL hdeps 2 (by kernel_rfl) 25 (by kernel_rfl); exact h
     have e0 : A.eval (.tmp 0) = (.pointer (some ⟨b, 0, none⟩)) := (hout 0 (by kernel_rfl)).trans rfl
     refine ifw_want 2 true 25 rfl rfl e25 ?_
     with_reducible refine shown_q (Value.pointer (some ⟨b, 0, none⟩)) ?qq_6_3 (fun _ _ => ?qr_6_3)
     case qr_6_3 => exact (rfl : (Value.pointer (some ⟨b, 0, none⟩)) = (Value.pointer (some ⟨b, 0, none⟩)))
     with_reducible refine quietAt_mv (.tmp 0) (Value.pointer (some ⟨b, 0, none⟩)) ?h0_6_3 ?h1_6_3
     case h0_6_3 => rfl
     case h1_6_3 => exact e0
    ·intro A u hu hpu hsz hout hdeps
     have e25 : A.eval (.tmp 25) = (.bool true) := by have h := depL hdeps 2 (by kernel_rfl) 25 (by kernel_rfl); exact h
     have e26 : A.eval (.tmp 26) = (.pointer (some ⟨b, 0, none⟩)) := by have h := depL hdeps 3 (by kernel_rfl) 26 (by kernel_rfl); exact h
     refine ifw_want 2 true 25 rfl rfl e25 ?_
     with_reducible refine shown_q (Value.pointer (some ⟨b, 0, none⟩)) ?qq_6_4 (fun _ _ => ?qr_6_4)
     case qr_6_4 => exact (rfl : (Value.pointer (some ⟨b, 0, none⟩)) = (Value.pointer (some ⟨b, 0, none⟩)))
     with_reducible refine quietAt_nil (.tmp 26) ?h0_6_4 ⟨b, 0, none⟩ ?h1_6_4
     case h0_6_4 => rfl
     case h1_6_4 => exact e26
    ·intro A u hu hpu hsz hout hdeps
     have e25 : A.eval (.tmp 25) = (.bool true) := by have h := depL hdeps 2 (by kernel_rfl) 25 (by kernel_rfl); exact h
     have e27 : A.eval (.tmp 27) = (.pointer (some ⟨b, 0, none⟩)) := by have h := depL hdeps 4 (by kernel_rfl) 27 (by kernel_rfl); exact h
     refine ifw_want 2 true 25 rfl rfl e25 ?_
     with_reducible refine shown_q (Value.pointer (some ⟨b, 1, none⟩)) ?qq_6_5 (fun _ _ => ?qr_6_5)
     case qr_6_5 => exact (rfl : (Value.pointer (some ⟨b, 1, none⟩)) = (Value.pointer (some ⟨b, 1, none⟩)))
     with_reducible refine quietAt_field 113 (.tmp 27) 1 ?h0_6_5 ⟨b, 0, none⟩ ⟨b, 1, none⟩ ?h1_6_5 ?h2_6_5
     case h0_6_5 => rfl
     case h1_6_5 => exact e27
     case h2_6_5 => kernel_rfl
    ·intro A u hu hpu hsz hout hdeps
     have e25 : A.eval (.tmp 25) = (.bool true) := by have h := depL hdeps 2 (by kernel_rfl) 25 (by kernel_rfl); exact h
     have e28 : A.eval (.tmp 28) = (.pointer (some ⟨b, 1, none⟩)) := by have h := depL hdeps 5 (by kernel_rfl) 28 (by kernel_rfl); exact h
     refine ifw_want 2 true 25 rfl rfl e25 ?_
     with_reducible refine shown_q (Value.slice sa sn sc) ?qq_6_6 (fun _ _ => ?qr_6_6)
     case qr_6_6 => exact (rfl : (Value.slice sa sn sc) = (Value.slice sa sn sc))
     with_reducible refine quietAt_ld 110 (.tmp 28) (Value.pointer (some ⟨b, 1, none⟩)) (Value.slice sa sn sc) ?h0_6_6 ?h1_6_6 ?h2_6_6
     case h0_6_6 => rfl
     case h1_6_6 => exact e28
     case h2_6_6 => exact ld66 b 1 sn sc sa u (HY.out u (gtrans HG5.out hu)).2
    ·intro A u hu hpu hsz hout hdeps
     have e25 : A.eval (.tmp 25) = (.bool true) := by have h := depL hdeps 2 (by kernel_rfl) 25 (by kernel_rfl); exact h
     have e29 : A.eval (.tmp 29) = (.slice sa sn sc) := by have h := depL hdeps 6 (by kernel_rfl) 29 (by kernel_rfl); exact h
     refine ifw_want 2 true 25 rfl rfl e25 ?_
     with_reducible refine shown_q (Value.int .i64 (sn : Nat)) ?qq_6_7 (fun _ _ => ?qr_6_7)
     case qr_6_7 => exact (rfl : (Value.int .i64 (sn : Nat)) = (Value.int .i64 (sn : Nat)))
     with_reducible refine quietAt_len (.tmp 29) 110 ?h0_6_7 sa sn sc ?h1_6_7 ?h2_6_7
     case h0_6_7 => rfl
     case h1_6_7 => exact e29
     case h2_6_7 => kernel_rfl
    ·intro A u hu hpu hsz hout hdeps
     have e25 : A.eval (.tmp 25) = (.bool true) := by have h := depL hdeps 2 (by kernel_rfl) 25 (by kernel_rfl); exact h
     have e30 : A.eval (.tmp 30) = (.int .i64 (sn : Nat)) := by have h := depL hdeps 7 (by kernel_rfl) 30 (by kernel_rfl); exact h
     refine ifw_want 2 true 25 rfl rfl e25 ?_
     with_reducible refine shown_q (Value.bool true) ?qq_6_8 (fun _ _ => ?qr_6_8)
     case qr_6_8 => exact (rfl : (Value.bool true) = (Value.bool true))
     with_reducible refine quietAt_bin .geq 3 (.tmp 30) (.const (.int .i64 64)) 3 (Value.int .i64 (sn : Nat)) (Value.int .i64 64) (Value.bool true) ?h0_6_8 ?h1_6_8 ?h2_6_8 ?h3_6_8
     case h0_6_8 => rfl
     case h1_6_8 => exact e30
     case h2_6_8 => exact rfl
     case h3_6_8 => exact HGe.out _ _ u
    ·intro A u hu hpu hsz hout hdeps
     have e25 : A.eval (.tmp 25) = (.bool true) := by have h := depL hdeps 2 (by kernel_rfl) 25 (by kernel_rfl); exact h
     have e31 : A.eval (.tmp 31) = (.bool true) := by have h := depL hdeps 8 (by kernel_rfl) 31 (by kernel_rfl); exact h
     refine ifw_none rfl ?_
     with_reducible refine shown_q (Value.bool true) ?qq_6_9 (fun _ _ => ?qr_6_9)
     case qr_6_9 => exact (rfl : (Value.bool true) = (Value.bool true))
     with_reducible refine quietAt_pick (.tmp 25) (.tmp 31) (.const (.bool false)) true (Value.bool true) ?h0_6_9 ?h1_6_9 ?h2_6_9
     case h0_6_9 => rfl
     case h1_6_9 => exact e25
     case h2_6_9 => rw [if_pos rfl]; exact e31
    ·intro A u hu hpu hsz hout hdeps
     have e32 : A.eval (.tmp 32) = (.bool true) := by have h := depL hdeps 9 (by kernel_rfl) 32 (by kernel_rfl); exact h
     refine ifw_none rfl ?_
     with_reducible refine shown_q (Value.bool true) ?qq_6_10 (fun _ _ => ?qr_6_10)
     case qr_6_10 => exact (rfl : (Value.bool true) = (Value.bool true))
     with_reducible refine quietAt_mv (.tmp 32) (Value.bool true) ?h0_6_10 ?h1_6_10
     case h0_6_10 => rfl
     case h1_6_10 => exact e32
    ·intro A u hu hpu hsz hout hdeps
     have e33 : A.eval (.tmp 33) = (.bool true) := by have h := depL hdeps 10 (by kernel_rfl) 33 (by kernel_rfl); exact h
     refine ifw_pass 10 false true 33 rfl rfl e33 (by decide) ?_
     exact rfl
    ·intro A u hu hpu hsz hout hdeps
     have e33 : A.eval (.tmp 33) = (.bool true) := by have h := depL hdeps 10 (by kernel_rfl) 33 (by kernel_rfl); exact h
     refine ifw_pass 10 false true 33 rfl rfl e33 (by decide) ?_
     exact rfl
    ·intro A u hu hpu hsz hout hdeps
     have e33 : A.eval (.tmp 33) = (.bool true) := by have h := depL hdeps 10 (by kernel_rfl) 33 (by kernel_rfl); exact h
     refine ifw_pass 10 false true 33 rfl rfl e33 (by decide) ?_
     exact rfl
    ·intro A u hu hpu hsz hout hdeps
     have e33 : A.eval (.tmp 33) = (.bool true) := by have h := depL hdeps 10 (by kernel_rfl) 33 (by kernel_rfl); exact h
     refine ifw_pass 10 false true 33 rfl rfl e33 (by decide) ?_
     exact rfl
    ·intro A u hu hpu hsz hout hdeps
     have e33 : A.eval (.tmp 33) = (.bool true) := by have h := depL hdeps 10 (by kernel_rfl) 33 (by kernel_rfl); exact h
     refine ifw_pass 10 false true 33 rfl rfl e33 (by decide) ?_
     exact rfl
    ·intro A u hu hpu hsz hout hdeps
     have e33 : A.eval (.tmp 33) = (.bool true) := by have h := depL hdeps 10 (by kernel_rfl) 33 (by kernel_rfl); exact h
     refine ifw_pass 10 false true 33 rfl rfl e33 (by decide) ?_
     exact rfl
    ·intro A u hu hpu hsz hout hdeps
     have e33 : A.eval (.tmp 33) = (.bool true) := by have h := depL hdeps 10 (by kernel_rfl) 33 (by kernel_rfl); exact h
     refine ifw_pass 10 false true 33 rfl rfl e33 (by decide) ?_
     exact rfl
    ·intro A u hu hpu hsz hout hdeps
     have e33 : A.eval (.tmp 33) = (.bool true) := by have h := depL hdeps 10 (by kernel_rfl) 33 (by kernel_rfl); exact h
     refine ifw_pass 10 false true 33 rfl rfl e33 (by decide) ?_
     exact rfl
    ·intro A u hu hpu hsz hout hdeps
     have e33 : A.eval (.tmp 33) = (.bool true) := by have h := depL hdeps 10 (by kernel_rfl) 33 (by kernel_rfl); exact h
     refine ifw_pass 10 false true 33 rfl rfl e33 (by decide) ?_
     exact rfl
    ·intro A u hu hpu hsz hout hdeps
     have e33 : A.eval (.tmp 33) = (.bool true) := by have h := depL hdeps 10 (by kernel_rfl) 33 (by kernel_rfl); exact h
     refine ifw_pass 10 false true 33 rfl rfl e33 (by decide) ?_
     exact rfl
    ·intro A u hu hpu hsz hout hdeps
     have e33 : A.eval (.tmp 33) = (.bool true) := by have h := depL hdeps 10 (by kernel_rfl) 33 (by kernel_rfl); exact h
     refine ifw_none rfl ?_
     with_reducible refine shown_q (Value.bool true) ?qq_6_21 (fun _ _ => ?qr_6_21)
     case qr_6_21 => exact (rfl : (Value.bool true) = (Value.bool true))
     with_reducible refine quietAt_pick (.tmp 33) (.const (.bool true)) (.tmp 43) true (Value.bool true) ?h0_6_21 ?h1_6_21 ?h2_6_21
     case h0_6_21 => rfl
     case h1_6_21 => exact e33
     case h2_6_21 => rw [if_pos rfl]; exact rfl
    ·intro A u8 listed hh hall
     have hA := hh.frame
     have HU := hid hh.grown
     obtain ⟨x23, hx23⟩ : ∃ x, A.eval (.tmp 23) = x := ⟨_, rfl⟩
     have f23 : (fun v _ => v = (Value.bool false)) x23 u8 := by rw [← hx23]; exact hh.got 0 _ 23 rfl rfl (hall 0 (by decide))
     obtain ⟨x24, hx24⟩ : ∃ x, A.eval (.tmp 24) = x := ⟨_, rfl⟩
     have f24 : (fun v _ => v = (Value.bool true)) x24 u8 := by rw [← hx24]; exact hh.got 1 _ 24 rfl rfl (hall 1 (by decide))
     obtain ⟨x25, hx25⟩ : ∃ x, A.eval (.tmp 25) = x := ⟨_, rfl⟩
     have f25 : (fun v _ => v = (Value.bool true)) x25 u8 := by rw [← hx25]; exact hh.got 2 _ 25 rfl rfl (hall 2 (by decide))
     obtain ⟨x26, hx26⟩ : ∃ x, A.eval (.tmp 26) = x := ⟨_, rfl⟩
     have f26 : (fun v _ => v = (Value.pointer (some ⟨b, 0, none⟩))) x26 u8 := by rw [← hx26]; exact hh.got 3 _ 26 rfl rfl (hall 3 (by decide))
     obtain ⟨x27, hx27⟩ : ∃ x, A.eval (.tmp 27) = x := ⟨_, rfl⟩
     have f27 : (fun v _ => v = (Value.pointer (some ⟨b, 0, none⟩))) x27 u8 := by rw [← hx27]; exact hh.got 4 _ 27 rfl rfl (hall 4 (by decide))
     obtain ⟨x28, hx28⟩ : ∃ x, A.eval (.tmp 28) = x := ⟨_, rfl⟩
     have f28 : (fun v _ => v = (Value.pointer (some ⟨b, 1, none⟩))) x28 u8 := by rw [← hx28]; exact hh.got 5 _ 28 rfl rfl (hall 5 (by decide))
     obtain ⟨x29, hx29⟩ : ∃ x, A.eval (.tmp 29) = x := ⟨_, rfl⟩
     have f29 : (fun v _ => v = (Value.slice sa sn sc)) x29 u8 := by rw [← hx29]; exact hh.got 6 _ 29 rfl rfl (hall 6 (by decide))
     obtain ⟨x30, hx30⟩ : ∃ x, A.eval (.tmp 30) = x := ⟨_, rfl⟩
     have f30 : (fun v _ => v = (Value.int .i64 (sn : Nat))) x30 u8 := by rw [← hx30]; exact hh.got 7 _ 30 rfl rfl (hall 7 (by decide))
     obtain ⟨x31, hx31⟩ : ∃ x, A.eval (.tmp 31) = x := ⟨_, rfl⟩
     have f31 : (fun v _ => v = (Value.bool true)) x31 u8 := by rw [← hx31]; exact hh.got 8 _ 31 rfl rfl (hall 8 (by decide))
     obtain ⟨x32, hx32⟩ : ∃ x, A.eval (.tmp 32) = x := ⟨_, rfl⟩
     have f32 : (fun v _ => v = (Value.bool true)) x32 u8 := by rw [← hx32]; exact hh.got 9 _ 32 rfl rfl (hall 9 (by decide))
     obtain ⟨x33, hx33⟩ : ∃ x, A.eval (.tmp 33) = x := ⟨_, rfl⟩
     have f33 : (fun v _ => v = (Value.bool true)) x33 u8 := by rw [← hx33]; exact hh.got 10 _ 33 rfl rfl (hall 10 (by decide))
     obtain ⟨x34, hx34⟩ : ∃ x, A.eval (.tmp 34) = x := ⟨_, rfl⟩
     have f34 : (fun v _ => v = undef) x34 u8 := by rw [← hx34]; exact hh.got 11 _ 34 rfl rfl (hall 11 (by decide))
     obtain ⟨x35, hx35⟩ : ∃ x, A.eval (.tmp 35) = x := ⟨_, rfl⟩
     have f35 : (fun v _ => v = undef) x35 u8 := by rw [← hx35]; exact hh.got 12 _ 35 rfl rfl (hall 12 (by decide))
     obtain ⟨x36, hx36⟩ : ∃ x, A.eval (.tmp 36) = x := ⟨_, rfl⟩
     have f36 : (fun v _ => v = undef) x36 u8 := by rw [← hx36]; exact hh.got 13 _ 36 rfl rfl (hall 13 (by decide))
     obtain ⟨x37, hx37⟩ : ∃ x, A.eval (.tmp 37) = x := ⟨_, rfl⟩
     have f37 : (fun v _ => v = undef) x37 u8 := by rw [← hx37]; exact hh.got 14 _ 37 rfl rfl (hall 14 (by decide))
     obtain ⟨x38, hx38⟩ : ∃ x, A.eval (.tmp 38) = x := ⟨_, rfl⟩
     have f38 : (fun v _ => v = undef) x38 u8 := by rw [← hx38]; exact hh.got 15 _ 38 rfl rfl (hall 15 (by decide))
     obtain ⟨x39, hx39⟩ : ∃ x, A.eval (.tmp 39) = x := ⟨_, rfl⟩
     have f39 : (fun v _ => v = undef) x39 u8 := by rw [← hx39]; exact hh.got 16 _ 39 rfl rfl (hall 16 (by decide))
     obtain ⟨x40, hx40⟩ : ∃ x, A.eval (.tmp 40) = x := ⟨_, rfl⟩
     have f40 : (fun v _ => v = undef) x40 u8 := by rw [← hx40]; exact hh.got 17 _ 40 rfl rfl (hall 17 (by decide))
     obtain ⟨x41, hx41⟩ : ∃ x, A.eval (.tmp 41) = x := ⟨_, rfl⟩
     have f41 : (fun v _ => v = undef) x41 u8 := by rw [← hx41]; exact hh.got 18 _ 41 rfl rfl (hall 18 (by decide))
     obtain ⟨x42, hx42⟩ : ∃ x, A.eval (.tmp 42) = x := ⟨_, rfl⟩
     have f42 : (fun v _ => v = undef) x42 u8 := by rw [← hx42]; exact hh.got 19 _ 42 rfl rfl (hall 19 (by decide))
     obtain ⟨x43, hx43⟩ : ∃ x, A.eval (.tmp 43) = x := ⟨_, rfl⟩
     have f43 : (fun v _ => v = undef) x43 u8 := by rw [← hx43]; exact hh.got 20 _ 43 rfl rfl (hall 20 (by decide))
     obtain ⟨x44, hx44⟩ : ∃ x, A.eval (.tmp 44) = x := ⟨_, rfl⟩
     have f44 : (fun v _ => v = (Value.bool true)) x44 u8 := by rw [← hx44]; exact hh.got 21 _ 44 rfl rfl (hall 21 (by decide))
     dsimp only [wrote, List.foldl] at hA
     rw [hx23, hx24, hx25, hx26, hx27, hx28, hx29, hx30, hx31, hx32, hx33, hx34, hx35, hx36, hx37, hx38, hx39, hx40, hx41, hx42, hx43, hx44] at hA
     clear hh hall hx23 hx24 hx25 hx26 hx27 hx28 hx29 hx30 hx31 hx32 hx33 hx34 hx35 hx36 hx37 hx38 hx39 hx40 hx41 hx42 hx43 hx44
     replace f23 := (f23 : x23 = (.bool false))
     subst f23
     replace f24 := (f24 : x24 = (.bool true))
     subst f24
     replace f25 := (f25 : x25 = (.bool true))
     subst f25
     replace f26 := (f26 : x26 = (.pointer (some ⟨b, 0, none⟩)))
     subst f26
     replace f27 := (f27 : x27 = (.pointer (some ⟨b, 0, none⟩)))
     subst f27
     replace f28 := (f28 : x28 = (.pointer (some ⟨b, 1, none⟩)))
     subst f28
     replace f29 := (f29 : x29 = (.slice sa sn sc))
     subst f29
     replace f30 := (f30 : x30 = (.int .i64 (sn : Nat)))
     subst f30
     replace f31 := (f31 : x31 = (.bool true))
     subst f31
     replace f32 := (f32 : x32 = (.bool true))
     subst f32
     replace f33 := (f33 : x33 = (.bool true))
     subst f33
     replace f34 := (f34 : x34 = undef)
     subst f34
     replace f35 := (f35 : x35 = undef)
     subst f35
     replace f36 := (f36 : x36 = undef)
     subst f36
     replace f37 := (f37 : x37 = undef)
     subst f37
     replace f38 := (f38 : x38 = undef)
     subst f38
     replace f39 := (f39 : x39 = undef)
     subst f39
     replace f40 := (f40 : x40 = undef)
     subst f40
     replace f41 := (f41 : x41 = undef)
     subst f41
     replace f42 := (f42 : x42 = undef)
     subst f42
     replace f43 := (f43 : x43 = undef)
     subst f43
     replace f44 := (f44 : x44 = (.bool true))
     subst f44
     subst hA
     show wpList _ _ _ [] _ _
     unfold wpList
     simp only [Act.put, List.setIfInBounds_toArray, List.set_cons_succ, List.set_cons_zero]
     go_wp2_with fail
     go_ret
     exact ⟨by rw [HE2.out trivial]; rfl, by rw [HNf.out trivial]; exact REnd.of (HR.out _ (gtrans HG5.out HU.out)) (gany (gtrans HG5.out HU.out) _)⟩
end Go.Proofs.YtpbiofnncdneoaaGreatDoor
