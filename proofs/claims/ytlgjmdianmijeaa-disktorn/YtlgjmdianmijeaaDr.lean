/- size, do. -/
import Derived.Test.YtlgjmdianmijeaaDq
namespace Go.Proofs.Ytlgjmdianmijeaa
open Go Go.RowKit Go.MapKept Go.MuLone
open Go.RowKit (wrap32 wrap64)

/-- An operation, as its cells tell it. -/
structure Opv where
  dv : Int
  on : Int
  nm : ByteArray
  to : ByteArray
  ba : Option Addr
  bn : Nat
  bc : Nat
  bs : List UInt8
  nv : Int
  kv : Int
  fa : Option Addr
  fn : Nat
  fc : Nat
  L : Cn
def Opv.cells (o : Opv) : List Value := [.int .i64 o.dv, .int .i64 o.on, .string o.nm, .string o.to, .slice o.ba o.bn o.bc, .int .i64 o.nv, .int .i64 o.kv, .slice o.fa o.fn o.fc]
/-- What it holds can be read; its memory lies in F. -/
structure Opv.In (o : Opv) (w : World) (F : Nat → Prop) : Prop where
  b : Rd w F (.slice o.ba o.bn o.bc) o.bs
  f : o.fn = o.L.length ∧ ∃ g off, ArF w F o.fa g off o.L
  bl : o.bs.length ≤ 140737488355328
  fl : ∀ p ∈ o.L, p.2.length ≤ 140737488355328
  ln : o.fn ≤ 140737488355328
theorem Opv.In.keep {o : Opv} {w w' : World} {F : Nat → Prop} (h : o.In w F) (hg : w.grownBy w' none) : o.In w' F := by
  obtain ⟨h1, ⟨h2, g, off, h3⟩, h4, h5, h6⟩ := h
  exact ⟨h1.keep hg, ⟨h2, g, off, h3.keep hg⟩, h4, h5, h6⟩
theorem Opv.one (o : Opv) : ∀ v ∈ o.cells, v.oneCell' = true := fun v hv => by
  simp only [Opv.cells, List.mem_cons, List.not_mem_nil, or_false] at hv
  rcases hv with rfl | rfl | rfl | rfl | rfl | rfl | rfl | rfl <;> rfl
set_option maxRecDepth 100000 in
set_option maxHeartbeats 4000000 in
theorem opSize_any (w : World) (o : Opv) (F : Nat → Prop) (h : o.In w F) : Calls Try.prog 12 #[.agg o.cells.toArray] w fun e w' => (∃ z : Nat, e = .returned (.int .i64 z) ∧ o.bs.length ≤ z ∧ z ≤ 281474976710656) ∧ w.grownBy w' none := by
  obtain ⟨dv, on, nm, to, ba, bn, bc, bs, nv, kv, fa, fn, fc, L⟩ := o
  obtain ⟨hb, ⟨hfn, g, off, hA⟩, hbl, hfl, hln⟩ := h
  have HA : Hid (∀ u, w.grownBy u none → ArF u F fa g off L) := hid (fun u hu => hA.keep hu)
  have HFn : Hid (fn = L.length) := hid hfn
  have HFl : Hid (∀ p ∈ L, p.2.length ≤ 140737488355328) := hid hfl
  have hbn : bs.length = bn := by obtain ⟨_, _, _, _, e, _⟩ := hb; injection e with _ e _; exact e.symm
  have hbl' : bn ≤ 140737488355328 := by rw [← hbn]; exact hbl
  have hln' : fn ≤ 140737488355328 := hln
  show Calls Try.prog 12 #[.agg [Value.int .i64 dv, .int .i64 on, .string nm, .string to, .slice ba bn bc, .int .i64 nv, .int .i64 kv, .slice fa fn fc].toArray] w fun e w' => (∃ z : Nat, e = .returned (.int .i64 z) ∧ bs.length ≤ z ∧ z ≤ 281474976710656) ∧ w.grownBy w' none
  rw [hbn]
  clear hb hA hbl hfl hbn hfn hln
  go_enter Try.func12, Try.ntmps12
  go_upto_region 3 with ((with_reducible refine wpList_box_row (by with_unfolding_all rfl) 36 _ (by with_unfolding_all rfl) [Value.int .i64 dv, .int .i64 on, .string nm, .string to, .slice ba bn bc, .int .i64 nv, .int .i64 kv, .slice fa fn fc] (by with_unfolding_all rfl) ?_); intro w1 B1 s1 g1; have HB1 := hid B1; have HG1 := hid g1; have c4 := B1.cell 4; have c7 := B1.cell 7; clear B1 s1 g1)
  go_loopw [4, 3] (fun iv zv wr => ∃ i z : Nat, iv = .int .i64 i ∧ zv = .int .i64 z ∧ i ≤ fn ∧ bn ≤ z ∧ z ≤ 281474976710656 ∧ Hid (wr = w1)) (fun iv _ _ => fn - (intOf iv).toNat)
  case atStart => exact ⟨0, bn, rfl, rfl, by omega, by omega, by omega, hid rfl⟩
  case round =>
    obtain ⟨i, z, rfl, rfl, hi, hz1, hz2, HW⟩ := hrel
    have hw := HW.out
    subst hw
    by_cases hlt : i < fn
    · have hlt' : (i : Int) < (fn : Int) := by omega
      by_cases hz : z ≤ 1048576
      · have hz' : (z : Int) ≤ 1048576 := by omega
        have hiL : i < L.length := by rw [← HFn.out]; exact hlt
        obtain ⟨rfl, -⟩ := (HA.out wr HG1.out).at_ (by omega)
        have HE := hid ((HA.out wr HG1.out).each i hiL)
        obtain ⟨v, hv1, hv2⟩ := HE.out.2
        have HLl : Hid ((L[i]).2.length ≤ 140737488355328) := hid (HFl.out _ (List.getElem_mem _))
        obtain ⟨q, Hq⟩ : ∃ x, Hid ((L[i]).2 = x) := ⟨_, hid rfl⟩
        rw [Hq.out] at hv2 HLl
        obtain ⟨xa, -, -, xc, rfl, -⟩ := hv2
        obtain ⟨xn, hxn⟩ : ∃ x, q.length = x := ⟨_, rfl⟩
        rw [hxn] at hv1
        have hxl : xn ≤ 140737488355328 := by rw [← hxn]; exact HLl.out
        clear hxn
        go_wp2_with fail
        go_roundw
        case rel => exact ⟨i + 1, z + xn + 100, by go_num, by go_num, by omega, by omega, by omega, hid trivial⟩
        case measure => simp [intOf]; omega
      · have hz' : ¬ (z : Int) ≤ 1048576 := by omega
        go_wp2_with fail
        go_ret
        exact ⟨⟨z, rfl, by omega, by omega⟩, HG1.out⟩
    · have hlt' : ¬ (i : Int) < (fn : Int) := by omega
      go_wp2_with fail
      go_ret
      exact ⟨⟨z, rfl, by omega, by omega⟩, HG1.out⟩
/-- What do tells, and what becomes of the disk. -/
def Ab.doE (A : Ab) (o : Opv) : Int := if o.dv = 1 then A.appE o.nm o.bs else if o.dv = 2 then A.cutE o.nm o.nv else if o.dv = 3 then A.renE o.nm o.to else if o.dv = 4 then A.remE o.nm else 0
def Ab.doA (A : Ab) (o : Opv) : Ab := if o.dv = 1 then A.app o.nm o.bs else if o.dv = 2 then A.cut o.nm o.nv else if o.dv = 3 then A.ren o.nm o.to else if o.dv = 4 then A.rem o.nm else A
def Opv.isDo (o : Opv) : Bool := decide (o.dv = 1) || decide (o.dv = 2) || decide (o.dv = 3) || decide (o.dv = 4)
variable {w w' : World} {B b : Nat} {A : Ab} {P : Nat → Prop}
set_option maxRecDepth 100000 in
set_option maxHeartbeats 8000000 in
theorem do_any (h : DkP w B b A P) (hP : ∀ k, P k → k < w.heap.size) (o : Opv) (F : Nat → Prop) (hI : o.In w F) (hl : o.bs.length ≤ 140737488355328) (hw : A.wr ≤ 4611686018427387904) :
    Calls Try.prog 15 #[.pointer (some ⟨b, 0, none⟩), .agg o.cells.toArray] w fun e w' => e = .returned (.tuple #[.int .i64 (A.doE o), .bool o.isDo]) ∧ DkP w' B b (A.doA o) (newP P w w') ∧ DF w w' P := by
  obtain ⟨dv, on, nm, to, ba, bn, bc, bs, nv, kv, fa, fn, fc, L⟩ := o
  obtain ⟨hb, -⟩ := hI
  have HR : Hid (∀ u, w.grownBy u none → Rd u F (.slice ba bn bc) bs) := hid (fun u hu => hb.keep hu)
  have HN : Hid (bs.length = bn) := hid (by obtain ⟨_, _, _, _, e, _⟩ := hb; injection e with _ e _; exact e.symm)
  have HL : Hid (bs.length ≤ 140737488355328) := hid hl
  have HD := hid h
  have HWr := hid hw
  have HPw := hid hP
  have HBl := hid h.lt
  clear h hb hl hw hP
  show Calls Try.prog 15 #[.pointer (some ⟨b, 0, none⟩), .agg [Value.int .i64 dv, .int .i64 on, .string nm, .string to, .slice ba bn bc, .int .i64 nv, .int .i64 kv, .slice fa fn fc].toArray] w fun e w' => e = .returned (.tuple #[.int .i64 (if dv = 1 then A.appE nm bs else if dv = 2 then A.cutE nm nv else if dv = 3 then A.renE nm to else if dv = 4 then A.remE nm else 0), .bool (decide (dv = 1) || decide (dv = 2) || decide (dv = 3) || decide (dv = 4))]) ∧ DkP w' B b (if dv = 1 then A.app nm bs else if dv = 2 then A.cut nm nv else if dv = 3 then A.ren nm to else if dv = 4 then A.rem nm else A) (newP P w w') ∧ DF w w' P
  have HS : Hid (∀ {u v : World} {A' : Ab}, w.grownBy u none → DkP v B b A' (newP P u v) → DF u v P → DkP v B b A' (newP P w v) ∧ DF w v P) := hid (fun hu hd hf => ⟨hd.mono (fun k _ _ q => q.imp id (fun x => ⟨by have := hu.size; omega, x.2⟩)), (DF.of hu).trans hf (fun _ _ q => q)⟩)
  by_cases h1 : dv = 1
  · as_aux_lemma =>
    subst h1
    rw [if_pos rfl, if_pos rfl, show (decide ((1 : Int) = 1) || decide ((1 : Int) = 2) || decide ((1 : Int) = 3) || decide ((1 : Int) = 4)) = true from rfl]
    obtain ⟨E, hE⟩ : ∃ x, A.appE nm bs = x := ⟨_, rfl⟩
    obtain ⟨A', hA'⟩ : ∃ x, A.app nm bs = x := ⟨_, rfl⟩
    have HAp' : Hid (∀ (u : World) (Fr : Nat → Prop) (ca : Option Addr) (cn cc : Nat), DkP u B b A P → Rd u Fr (.slice ca cn cc) bs → (∀ k, Fr k → ¬ P k) → Calls Try.prog 25 #[.pointer (some ⟨b, 0, none⟩), .string nm, .slice ca cn cc] u fun e w' => e = .returned (.int .i64 E) ∧ DkP w' B b A' (newP P u w') ∧ DF u w' P) := hid (fun u Fr ca cn cc h1 h2 h3 => by
      have := append_p h1 nm Fr ca cn cc bs h2 h3 HWr.out
      rw [hE, hA'] at this
      exact this)
    rw [hE, hA']
    clear hE hA'
    go_enter Try.func15, Try.ntmps15
    go_upto_region 3 with ((with_reducible refine wpList_box_row (by with_unfolding_all rfl) 36 _ (by with_unfolding_all rfl) [Value.int .i64 1, .int .i64 on, .string nm, .string to, .slice ba bn bc, .int .i64 nv, .int .i64 kv, .slice fa fn fc] (by with_unfolding_all rfl) ?_); intro w1 B1 s1 g1; have HB1' := hid B1; have HG1 := hid g1; have c0 := B1.cell 0; clear B1 s1 g1)
    obtain ⟨p3, hp3⟩ : ∃ x, w.heap.size = x := ⟨_, rfl⟩
    have HB1 : Hid (Blk w1 p3 [Value.int .i64 1, .int .i64 on, .string nm, .string to, .slice ba bn bc, .int .i64 nv, .int .i64 kv, .slice fa fn fc] 36) := hid (by rw [← hp3]; exact HB1'.out)
    rw [hp3]
    clear hp3 HB1' c0
    have HD1 := hid (HD.out.keep HG1.out)
    have HCp : Hid (∀ u, w1.grownBy u none → Calls Try.prog 36 #[.slice ba bn bc] u fun e w' => ∃ v, e = .returned v ∧ u.grownBy w' none ∧ ∃ va vc, v = Value.slice va bn vc ∧ Out w1.heap.size w' (Value.slice va bn vc) bs) := hid (fun u hu => (copyR_any u _ F bs (HR.out u (gtrans HG1.out hu)) HL.out).mono fun e w' ⟨v, h1, h2, h3⟩ => by
      obtain ⟨va, vc, rfl⟩ := h2.len
      rw [HN.out] at h1 h2
      exact ⟨_, h1, h3, va, vc, rfl, h2.below hu.size⟩)
    refine wp_region_listX (by kernel_rfl) [fun v _ => v = (Value.pointer (some ⟨b, 0, none⟩)), fun v _ => v = (Value.pointer (some ⟨p3, 2, none⟩)), fun v _ => v = (Value.string nm), fun v _ => v = (Value.pointer (some ⟨p3, 4, none⟩)), fun v _ => v = (Value.slice ba bn bc), fun v u => ∃ va vc, v = Value.slice va bn vc ∧ Out w1.heap.size u (Value.slice va bn vc) bs] (none) (fun _ => none) 6 (by kernel_rfl) (by kernel_rfl) (by kernel_rfl) (by kernel_rfl) (by decide) noRow_one (fun _ => .inl rfl) ⟨fun i v u u' hki h hg => h, fun i v u u' hki h hg => h, fun i v u u' hki h hg => h, fun i v u u' hki h hg => h, fun i v u u' hki h hg => h, fun i v u u' hki h hg => (by obtain ⟨va, vc, e, ho⟩ := h; exact ⟨va, vc, e, ho.keep hg⟩), trivial⟩ ⟨?_, ?_, ?_, ?_, ?_, ?_, trivial⟩ ?_
    · intro A u hu hpu hsz hout hdeps
      have e0 : A.eval (.tmp 0) = (.pointer (some ⟨b, 0, none⟩)) := (hout 0 (by kernel_rfl)).trans rfl
      refine ifw_none rfl ?_
      with_reducible refine shown_q (Value.pointer (some ⟨b, 0, none⟩)) ?qq_1_0 (fun _ _ => ?qr_1_0)
      case qr_1_0 => exact (rfl : (Value.pointer (some ⟨b, 0, none⟩)) = (Value.pointer (some ⟨b, 0, none⟩)))
      with_reducible refine quietAt_mv (.tmp 0) (Value.pointer (some ⟨b, 0, none⟩)) ?h0_1_0 ?h1_1_0
      case h0_1_0 => rfl
      case h1_1_0 => exact e0
    · intro A u hu hpu hsz hout hdeps
      have e3 : A.eval (.tmp 3) = (.pointer (some ⟨p3, 0, none⟩)) := (hout 3 (by kernel_rfl)).trans rfl
      refine ifw_none rfl ?_
      with_reducible refine shown_q (Value.pointer (some ⟨p3, 2, none⟩)) ?qq_1_1 (fun _ _ => ?qr_1_1)
      case qr_1_1 => exact (rfl : (Value.pointer (some ⟨p3, 2, none⟩)) = (Value.pointer (some ⟨p3, 2, none⟩)))
      with_reducible refine quietAt_field 36 (.tmp 3) 2 ?h0_1_1 ⟨p3, 0, none⟩ ⟨p3, 2, none⟩ ?h1_1_1 ?h2_1_1
      case h0_1_1 => rfl
      case h1_1_1 => exact e3
      case h2_1_1 => kernel_rfl
    · intro A u hu hpu hsz hout hdeps
      have e11 : A.eval (.tmp 11) = (.pointer (some ⟨p3, 2, none⟩)) := by have h := depL hdeps 1 (by kernel_rfl) 11 (by kernel_rfl); exact h
      refine ifw_none rfl ?_
      with_reducible refine shown_q (Value.string nm) ?qq_1_2 (fun _ _ => ?qr_1_2)
      case qr_1_2 => exact (rfl : (Value.string nm) = (Value.string nm))
      with_reducible refine quietAt_ld 9 (.tmp 11) (Value.pointer (some ⟨p3, 2, none⟩)) (Value.string nm) ?h0_1_2 ?h1_1_2 ?h2_1_2
      case h0_1_2 => rfl
      case h1_1_2 => exact e11
      case h2_1_2 => exact ld9 p3 2 nm u ((HB1.out.keep hu).cell 2)
    · intro A u hu hpu hsz hout hdeps
      have e3 : A.eval (.tmp 3) = (.pointer (some ⟨p3, 0, none⟩)) := (hout 3 (by kernel_rfl)).trans rfl
      refine ifw_none rfl ?_
      with_reducible refine shown_q (Value.pointer (some ⟨p3, 4, none⟩)) ?qq_1_3 (fun _ _ => ?qr_1_3)
      case qr_1_3 => exact (rfl : (Value.pointer (some ⟨p3, 4, none⟩)) = (Value.pointer (some ⟨p3, 4, none⟩)))
      with_reducible refine quietAt_field 36 (.tmp 3) 4 ?h0_1_3 ⟨p3, 0, none⟩ ⟨p3, 4, none⟩ ?h1_1_3 ?h2_1_3
      case h0_1_3 => rfl
      case h1_1_3 => exact e3
      case h2_1_3 => kernel_rfl
    · intro A u hu hpu hsz hout hdeps
      have e13 : A.eval (.tmp 13) = (.pointer (some ⟨p3, 4, none⟩)) := by have h := depL hdeps 3 (by kernel_rfl) 13 (by kernel_rfl); exact h
      refine ifw_none rfl ?_
      with_reducible refine shown_q (Value.slice ba bn bc) ?qq_1_4 (fun _ _ => ?qr_1_4)
      case qr_1_4 => exact (rfl : (Value.slice ba bn bc) = (Value.slice ba bn bc))
      with_reducible refine quietAt_ld 33 (.tmp 13) (Value.pointer (some ⟨p3, 4, none⟩)) (Value.slice ba bn bc) ?h0_1_4 ?h1_1_4 ?h2_1_4
      case h0_1_4 => rfl
      case h1_1_4 => exact e13
      case h2_1_4 => exact ld33 p3 4 bn bc ba u ((HB1.out.keep hu).cell 4)
    · intro A u hu hpu hsz hout hdeps
      have e14 : A.eval (.tmp 14) = (.slice ba bn bc) := by have h := depL hdeps 4 (by kernel_rfl) 14 (by kernel_rfl); exact h
      refine ifw_none rfl ?_
      with_reducible refine shown_call 36 Try.f36 ?h0_1_5 ?h1_1_5 ?h2_1_5 #[.tmp 14] #[33] ?h3_1_5 #[(Value.slice ba bn bc)] ?h4_1_5 ?h5_1_5
      case h0_1_5 => exact Try.func36
      case h1_1_5 => kernel_rfl
      case h2_1_5 => kernel_rfl
      case h3_1_5 => rfl
      case h4_1_5 => exact map1 _ _ _ e14
      case h5_1_5 => exact HCp.out u hu
    · intro A u8 listed hh hall
      have hA := hh.frame
      have HU := hid hh.grown
      obtain ⟨x10, hx10⟩ : ∃ x, A.eval (.tmp 10) = x := ⟨_, rfl⟩
      have f10 : (fun v _ => v = (Value.pointer (some ⟨b, 0, none⟩))) x10 u8 := by rw [← hx10]; exact hh.got 0 _ 10 rfl rfl (hall 0 (by decide))
      obtain ⟨x11, hx11⟩ : ∃ x, A.eval (.tmp 11) = x := ⟨_, rfl⟩
      have f11 : (fun v _ => v = (Value.pointer (some ⟨p3, 2, none⟩))) x11 u8 := by rw [← hx11]; exact hh.got 1 _ 11 rfl rfl (hall 1 (by decide))
      obtain ⟨x12, hx12⟩ : ∃ x, A.eval (.tmp 12) = x := ⟨_, rfl⟩
      have f12 : (fun v _ => v = (Value.string nm)) x12 u8 := by rw [← hx12]; exact hh.got 2 _ 12 rfl rfl (hall 2 (by decide))
      obtain ⟨x13, hx13⟩ : ∃ x, A.eval (.tmp 13) = x := ⟨_, rfl⟩
      have f13 : (fun v _ => v = (Value.pointer (some ⟨p3, 4, none⟩))) x13 u8 := by rw [← hx13]; exact hh.got 3 _ 13 rfl rfl (hall 3 (by decide))
      obtain ⟨x14, hx14⟩ : ∃ x, A.eval (.tmp 14) = x := ⟨_, rfl⟩
      have f14 : (fun v _ => v = (Value.slice ba bn bc)) x14 u8 := by rw [← hx14]; exact hh.got 4 _ 14 rfl rfl (hall 4 (by decide))
      obtain ⟨x15, hx15⟩ : ∃ x, A.eval (.tmp 15) = x := ⟨_, rfl⟩
      have f15 : (fun v u => ∃ va vc, v = Value.slice va bn vc ∧ Out w1.heap.size u (Value.slice va bn vc) bs) x15 u8 := by rw [← hx15]; exact hh.got 5 _ 15 rfl rfl (hall 5 (by decide))
      obtain ⟨x16, hx16⟩ : ∃ x, A.eval (.tmp 16) = x := ⟨_, rfl⟩
      obtain ⟨x4, hx4⟩ : ∃ x, A.eval (.tmp 4) = x := ⟨_, rfl⟩
      obtain ⟨x5, hx5⟩ : ∃ x, A.eval (.tmp 5) = x := ⟨_, rfl⟩
      dsimp only [wrote, List.foldl] at hA
      rw [hx10, hx11, hx12, hx13, hx14, hx15, hx16, hx4, hx5] at hA
      clear hh hall hx10 hx11 hx12 hx13 hx14 hx15 hx16 hx4 hx5
      replace f10 := (f10 : x10 = (.pointer (some ⟨b, 0, none⟩)))
      subst f10
      replace f11 := (f11 : x11 = (.pointer (some ⟨p3, 2, none⟩)))
      subst f11
      replace f12 := (f12 : x12 = (.string nm))
      subst f12
      replace f13 := (f13 : x13 = (.pointer (some ⟨p3, 4, none⟩)))
      subst f13
      replace f14 := (f14 : x14 = (.slice ba bn bc))
      subst f14
      obtain ⟨va, vc, e15, hL⟩ := f15
      subst e15
      subst hA
      show wpList _ _ _ [_, _, _] _ _
      simp only [Act.put, List.setIfInBounds_toArray, List.set_cons_succ, List.set_cons_zero]
      have HO8 := hid hL
      have HD8 := hid (HD1.out.keep HU.out)
      have HAp := hid (HAp'.out u8 (fun k => w1.heap.size ≤ k) va bn vc HD8.out HO8.out.rd (fun k hk hp => by have := HPw.out k hp; have := HG1.out.size; omega))
      clear hL
      go_wp2_with (go_at_call 25; refine HAp.out.mono ?_; rintro e w9 ⟨rfl, hd, hf⟩; have HD9 := hid hd; have HF9 := hid hf; clear hd hf)
      refine bodyPost_ret (results_tmp2 rfl _ _ _) rfl ?_
      exact ⟨rfl, HS.out (gtrans HG1.out HU.out) HD9.out HF9.out⟩
  by_cases h2 : dv = 2
  · as_aux_lemma =>
    subst h2
    rw [if_neg (by decide : ¬ ((2 : Int) = 1)), if_pos rfl, if_neg (by decide : ¬ ((2 : Int) = 1)), if_pos rfl, show (decide ((2 : Int) = 1) || decide ((2 : Int) = 2) || decide ((2 : Int) = 3) || decide ((2 : Int) = 4)) = true from rfl]
    obtain ⟨E, hE⟩ : ∃ x, A.cutE nm nv = x := ⟨_, rfl⟩
    obtain ⟨A', hA'⟩ : ∃ x, A.cut nm nv = x := ⟨_, rfl⟩
    have HAp : Hid (∀ (u : World), DkP u B b A P → Calls Try.prog 26 #[.pointer (some ⟨b, 0, none⟩), .string nm, .int .i64 nv] u fun e w' => e = .returned (.int .i64 E) ∧ DkP w' B b A' (newP P u w') ∧ DF u w' P) := hid (fun u hu => by
      have := cut_p hu nm nv HWr.out
      rw [hE, hA'] at this
      exact this)
    rw [hE, hA']
    clear hE hA'
    go_enter Try.func15, Try.ntmps15
    go_wp2_with (first
      | ((with_reducible refine wpList_box_row (by with_unfolding_all rfl) 36 _ (by with_unfolding_all rfl) [Value.int .i64 2, .int .i64 on, .string nm, .string to, .slice ba bn bc, .int .i64 nv, .int .i64 kv, .slice fa fn fc] (by with_unfolding_all rfl) ?_); intro w1 B1 s1 g1; have HG1 := hid g1; have c0 := B1.cell 0; have c2 := B1.cell 2; have c3 := B1.cell 3; have c5 := B1.cell 5; clear B1 s1 g1)
      | (go_at_call 26; refine (HAp.out _ (HD.out.keep HG1.out)).mono ?_; rintro e w9 ⟨rfl, hd, hf⟩; have HD9 := hid (HS.out HG1.out hd hf); clear hd hf))
    refine bodyPost_ret (results_tmp2 rfl _ _ _) rfl ?_
    exact ⟨rfl, HD9.out⟩
  by_cases h3 : dv = 3
  · as_aux_lemma =>
    subst h3
    rw [if_neg (by decide : ¬ ((3 : Int) = 1)), if_neg (by decide : ¬ ((3 : Int) = 2)), if_pos rfl, if_neg (by decide : ¬ ((3 : Int) = 1)), if_neg (by decide : ¬ ((3 : Int) = 2)), if_pos rfl, show (decide ((3 : Int) = 1) || decide ((3 : Int) = 2) || decide ((3 : Int) = 3) || decide ((3 : Int) = 4)) = true from rfl]
    obtain ⟨E, hE⟩ : ∃ x, A.renE nm to = x := ⟨_, rfl⟩
    obtain ⟨A', hA'⟩ : ∃ x, A.ren nm to = x := ⟨_, rfl⟩
    have HAp : Hid (∀ (u : World), DkP u B b A P → Calls Try.prog 37 #[.pointer (some ⟨b, 0, none⟩), .string nm, .string to] u fun e w' => e = .returned (.int .i64 E) ∧ DkP w' B b A' (newP P u w') ∧ DF u w' P) := hid (fun u hu => by
      have := rename_p hu nm to HWr.out
      rw [hE, hA'] at this
      exact this)
    rw [hE, hA']
    clear hE hA'
    go_enter Try.func15, Try.ntmps15
    go_wp2_with (first
      | ((with_reducible refine wpList_box_row (by with_unfolding_all rfl) 36 _ (by with_unfolding_all rfl) [Value.int .i64 3, .int .i64 on, .string nm, .string to, .slice ba bn bc, .int .i64 nv, .int .i64 kv, .slice fa fn fc] (by with_unfolding_all rfl) ?_); intro w1 B1 s1 g1; have HG1 := hid g1; have c0 := B1.cell 0; have c2 := B1.cell 2; have c3 := B1.cell 3; have c5 := B1.cell 5; clear B1 s1 g1)
      | (go_at_call 37; refine (HAp.out _ (HD.out.keep HG1.out)).mono ?_; rintro e w9 ⟨rfl, hd, hf⟩; have HD9 := hid (HS.out HG1.out hd hf); clear hd hf))
    refine bodyPost_ret (results_tmp2 rfl _ _ _) rfl ?_
    exact ⟨rfl, HD9.out⟩
  by_cases h4 : dv = 4
  · as_aux_lemma =>
    subst h4
    rw [if_neg (by decide : ¬ ((4 : Int) = 1)), if_neg (by decide : ¬ ((4 : Int) = 2)), if_neg (by decide : ¬ ((4 : Int) = 3)), if_pos rfl, if_neg (by decide : ¬ ((4 : Int) = 1)), if_neg (by decide : ¬ ((4 : Int) = 2)), if_neg (by decide : ¬ ((4 : Int) = 3)), if_pos rfl, show (decide ((4 : Int) = 1) || decide ((4 : Int) = 2) || decide ((4 : Int) = 3) || decide ((4 : Int) = 4)) = true from rfl]
    obtain ⟨E, hE⟩ : ∃ x, A.remE nm = x := ⟨_, rfl⟩
    obtain ⟨A', hA'⟩ : ∃ x, A.rem nm = x := ⟨_, rfl⟩
    have HAp : Hid (∀ (u : World), DkP u B b A P → Calls Try.prog 38 #[.pointer (some ⟨b, 0, none⟩), .string nm] u fun e w' => e = .returned (.int .i64 E) ∧ DkP w' B b A' (newP P u w') ∧ DF u w' P) := hid (fun u hu => by
      have := remove_p hu nm HWr.out
      rw [hE, hA'] at this
      exact this)
    rw [hE, hA']
    clear hE hA'
    go_enter Try.func15, Try.ntmps15
    go_wp2_with (first
      | ((with_reducible refine wpList_box_row (by with_unfolding_all rfl) 36 _ (by with_unfolding_all rfl) [Value.int .i64 4, .int .i64 on, .string nm, .string to, .slice ba bn bc, .int .i64 nv, .int .i64 kv, .slice fa fn fc] (by with_unfolding_all rfl) ?_); intro w1 B1 s1 g1; have HG1 := hid g1; have c0 := B1.cell 0; have c2 := B1.cell 2; have c3 := B1.cell 3; have c5 := B1.cell 5; clear B1 s1 g1)
      | (go_at_call 38; refine (HAp.out _ (HD.out.keep HG1.out)).mono ?_; rintro e w9 ⟨rfl, hd, hf⟩; have HD9 := hid (HS.out HG1.out hd hf); clear hd hf))
    refine bodyPost_ret (results_tmp2 rfl _ _ _) rfl ?_
    exact ⟨rfl, HD9.out⟩
  · as_aux_lemma =>
    rw [if_neg h1, if_neg h2, if_neg h3, if_neg h4, if_neg h1, if_neg h2, if_neg h3, if_neg h4, decide_eq_false h1, decide_eq_false h2, decide_eq_false h3, decide_eq_false h4]
    go_enter Try.func15, Try.ntmps15
    go_wp2_with ((with_reducible refine wpList_box_row (by with_unfolding_all rfl) 36 _ (by with_unfolding_all rfl) [Value.int .i64 dv, .int .i64 on, .string nm, .string to, .slice ba bn bc, .int .i64 nv, .int .i64 kv, .slice fa fn fc] (by with_unfolding_all rfl) ?_); intro w1 B1 s1 g1; have HG1 := hid g1; have c0 := B1.cell 0; clear B1 s1 g1)
    refine bodyPost_ret (results_tmp2 rfl _ _ _) rfl ?_
    exact ⟨rfl, (HD.out.keep HG1.out).mono (fun k _ _ q => .inl q), DF.of HG1.out⟩
end Go.Proofs.Ytlgjmdianmijeaa
