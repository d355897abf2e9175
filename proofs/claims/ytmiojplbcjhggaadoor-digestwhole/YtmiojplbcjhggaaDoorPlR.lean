/- Place.Rows of one row. -/
import Derived.Test.YtmiojplbcjhggaaDoorPlc
namespace Go.Proofs.YtmiojplbcjhggaaDoor
open Go Go.RowKit
open Go.RowKit (wrap32 wrap64)

theorem idx22b (b n c i : Nat) (h : i < n) (u : World) : (Instr.indexAt 22 (.slice (some ⟨b, 0, none⟩) n c) (.int .i64 (i : Nat))).run Tryd.prog u = .ok (.pointer (some ⟨b, i, none⟩)) u := by
  have h' : (i : Int) < (n : Int) := by omega
  go_simp
theorem ld22 (b i n c : Nat) (a : Option Addr) (u : World) (h : u.cell? ⟨b, i, none⟩ = some (.slice a n c)) : (Instr.loadAt 22 (.pointer (some ⟨b, i, none⟩))).run Tryd.prog u = .ok (.slice a n c) u := by
  go_simp
theorem fld65 (b : Nat) (u : World) : (Instr.fieldAt 65 (.pointer (some ⟨b, 0, none⟩)) 1).run Tryd.prog u = .ok (.pointer (some ⟨b, 1, none⟩)) u := by
  go_simp
theorem yieldsIf_nilCheck {P : Program} {ops : Array Oper} {S : World → Prop} {o : Oper} {a : Act} (hw : Region.wanted o (yielded ops a.tmps) = true) (x : Operand) (ho : o.op = .nilCheck x) (ad : Addr) (hx : a.eval x = .pointer (some ad)) : YieldsIf P ops S o (.pointer (some ad)) a :=
  .inl ⟨hw, fun w _ => by
    unfold execOp
    simp only [ho, hx]
    rfl⟩
theorem yieldsIf_as {P : Program} {ops : Array Oper} {S : World → Prop} {o : Oper} {a : Act} (hw : Region.wanted o (yielded ops a.tmps) = true) (x : Operand) (ho : o.op = .assign x) (v : Value) (hx : a.eval x = v) : YieldsIf P ops S o v a :=
  .inl ⟨hw, fun w _ => by
    unfold execOp
    simp only [ho, hx]
    rfl⟩
theorem yieldsIf_cut0 {P : Program} {ops : Array Oper} {S : World → Prop} {o : Oper} {a : Act} (hw : Region.wanted o (yielded ops a.tmps) = true) (t : TypeId) (x hi : Operand) (ho : o.op = .slice t x none (some hi) none) (vx vh v : Value) (hx : a.eval x = vx) (hh : a.eval hi = vh) (hr : ∀ u : World, (Instr.sliceAt t vx none (some vh) none).run P u = .ok v u) : YieldsIf P ops S o v a :=
  .inl ⟨hw, fun w _ => by
    subst hx hh
    unfold execOp
    simp only [ho, Option.map_none, Option.map_some]
    rw [Sem.run_bind, hr]
    rfl⟩
set_option maxRecDepth 100000 in
set_option maxHeartbeats 1600000 in
theorem rowsU_any (w0 w : World) (pr C gl : Nat) (xv vb : Value) (xl x : List UInt8) (F : Nat → Prop) (go co gi ci : Nat)
    (hp : Blk w0 pr [.slice (some ⟨go, 0, none⟩) 1 co, .slice (some ⟨gi, 0, none⟩) 1 ci] 65) (hCp : C ≤ pr) (hO : Out C w0 xv xl) (ho : RowV C w0 (.slice (some ⟨go, 0, none⟩) 1 co) [xv]) (hi : RowV C w0 (.slice (some ⟨gi, 0, none⟩) 1 ci) [xv]) (hgg : go ≠ gi)
    (hw : w0.grownBy w none) (hgl : w0.heap.size ≤ gl) (hb : Blk w gl [vb] 23) (hx : Rd w F vb x) (hF : ∀ k, F k → k < C) (hxl : x.length ≤ 65536) (hC : C ≤ w0.heap.size) :
    Calls Tryd.prog 42 #[.pointer (some ⟨pr, 0, none⟩), .slice (some ⟨gl, 0, none⟩) 1 1] w fun e w' => ∃ (go' co' : Nat), e = .returned (.slice (some ⟨go', 0, none⟩) 1 co') ∧ ∃ (gi' ci' : Nat) (xv' : Value), Blk w' pr [.slice (some ⟨go', 0, none⟩) 1 co', .slice (some ⟨gi', 0, none⟩) 1 ci'] 65 ∧ Out C w' xv' x ∧ RowV C w' (.slice (some ⟨go', 0, none⟩) 1 co') [xv'] ∧ RowV C w' (.slice (some ⟨gi', 0, none⟩) 1 ci') [xv'] ∧ go' ≠ gi' ∧ Fr w0 w' C xv.ownBlock ∧ (xv'.ownBlock = xv.ownBlock ∨ ∀ g, xv'.ownBlock = some g → w0.heap.size ≤ g) := by
  have HP := hid (hp.keep hw)
  have Ho := hid (ho.keep hw)
  have Hi := hid (hi.keep hw)
  have HB := hid hb
  have HF := hid hF
  have HXl := hid hxl
  have HCw : Hid (C ≤ w.heap.size) := hid (Nat.le_trans hC hw.size)
  have HCp := hid hCp
  have HGl : Hid (w0.heap.size ≤ gl) := hid hgl
  have HFr0 : Hid (Fr w0 w C xv.ownBlock) := hid ((Fr.refl w0 C _).thenN hw)
  obtain ⟨xa, xn, xc, hxe, hrun, hcut, hown⟩ := cut_run C w xv xl (hO.keep hw)
  have HRun : Hid (∀ u : World, (Instr.sliceAt 23 (.slice xa xn xc) none (some (.int .i64 0)) none).run Tryd.prog u = .ok (.slice xa 0 xc) u) := hid (by rw [← hxe]; exact hrun)
  have HCut := hid hcut
  have HOwn := hid hown
  rw [hxe] at Ho Hi
  have hco : (1 : Int) ≤ (co : Int) := by have := ho.cap; simp at this; omega
  have hx0 := hx
  obtain ⟨ba, _, _, bc, hbe, -⟩ := hx0
  obtain ⟨N, hN⟩ : ∃ y, x.length = y := ⟨_, rfl⟩
  rw [hN] at hbe
  have HX := hid hx
  rw [hbe] at HB HX
  have y0 : w.cell? ⟨pr, 0, none⟩ = some (.slice (some ⟨go, 0, none⟩) 1 co) := by rw [HP.out.cell]; rfl
  have y1 := HP.out.frozen 0
  have y2 := HP.out.lt
  obtain ⟨_, hgob, hgoC⟩ := Ho.out.blk (g := go) rfl
  obtain ⟨_, hgib, hgiC⟩ := Hi.out.blk (g := gi) rfl
  have HGob := hid hgob
  have HGib := hid hgib
  have HGgl : Hid (gi < gl ∧ go < gl) := hid ⟨by have := (World.ownsRow.lt hi gi rfl).2; omega, by have := (World.ownsRow.lt ho go rfl).2; omega⟩
  have HGG := hid hgg
  have HXe := hid hxe
  clear hp hCp hO ho hi hgg hw hgl hb hx hF hxl hC hrun hcut hown hgob hgib hN hbe hxe hgoC hgiC
  go_enter Tryd.func42, Tryd.ntmps42
  go_upto_region 2 with fail
  obtain ⟨wB, hwB⟩ : ∃ y, w.setCell ⟨pr, 0, none⟩ (.slice (some ⟨go, 0, none⟩) 0 co) = y := ⟨_, rfl⟩
  rw [hwB]
  have HGB : Hid (w.grownBy wB (some pr)) := hid (by rw [← hwB]; exact gset _ _ _)
  obtain ⟨oa, hoa⟩ : ∃ y : Option Addr, some ⟨go, 0, none⟩ = y := ⟨_, rfl⟩
  obtain ⟨oc, hoc⟩ : ∃ y, co = y := ⟨_, rfl⟩
  have HPB : Hid (Blk wB pr [.slice oa 0 oc, .slice (some ⟨gi, 0, none⟩) 1 ci] 65) := hid (by rw [← hwB, ← hoa, ← hoc]; exact HP.out.set 0 _)
  have n65 : Hid (∀ {k : Nat} {cs : List Value} {t : TypeId}, Blk w k cs t → t ≠ 65 → (some pr : Option Nat) ≠ some k) := hid (fun hb ht e => HP.out.ne hb (fun h => ht h.symm) (Option.some.inj e))
  have HoB : Hid (RowV C wB (.slice oa 0 oc) []) := hid (by rw [← hoa, ← hoc]; exact Ho.out.cut.on HGB.out (fun k hk e => by have e' : go = k := Option.some.inj e; subst e'; exact n65.out HGob.out (by decide) hk))
  have HiB : Hid (RowV C wB (.slice (some ⟨gi, 0, none⟩) 1 ci) [.slice xa xn xc]) := hid (Hi.out.on HGB.out (fun k hk e => by have e' : gi = k := Option.some.inj e; subst e'; exact n65.out HGib.out (by decide) hk))
  have HoI : Hid ((Value.slice oa 0 oc).ownBlock ≠ some gi) := hid (by rw [← hoa]; exact fun e => HGG.out (Option.some.inj e))
  have HCutB := hid (HCut.out.on HGB.out (fun k hk e => by obtain ⟨cs, hb⟩ := HCut.out.cells5 e; exact n65.out hb (by decide) hk))
  have HBB : Hid (Blk wB gl [.slice ba N bc] 23) := hid (HB.out.on HGB.out (n65.out HB.out (by decide)))
  have HxB : Hid (Rd wB F (.slice ba N bc) x) := hid (HX.out.on HGB.out (fun k hk hFk => by have hk' : pr = k := Option.some.inj hk; have := HF.out k hFk; have := HCp.out; omega))
  have HFrB : Hid (Fr w0 wB C xv.ownBlock) := hid (HFr0.out.then HGB.out (fun g e => by have e' : pr = g := Option.some.inj e; subst e'; exact ⟨HCp.out, .inr (.inr (.inl ⟨_, HP.out⟩))⟩))
  have HCB : Hid (C ≤ wB.heap.size) := hid (by have := HCw.out; have := HGB.out.size; omega)
  have y3 : wB.cell? ⟨pr, 1, none⟩ = some (.slice (some ⟨gi, 0, none⟩) 1 ci) := by rw [HPB.out.cell]; rfl
  have y4 := HPB.out.lt
  clear hwB y0 y1 y2 hoa hoc hco HP Ho Hi HB HX HCut HFr0 HCw HGB n65
  go_wp2_with fail
  go_loopw [5] (fun iv wr => (iv = .int .i64 0 ∧ wr = wB) ∨ (iv = .int .i64 1 ∧ Hid (∃ (go' co' gi' ci' : Nat) (xv' : Value), Blk wr pr [.slice (some ⟨go', 0, none⟩) 1 co', .slice (some ⟨gi', 0, none⟩) 1 ci'] 65 ∧ Out C wr xv' x ∧ RowV C wr (.slice (some ⟨go', 0, none⟩) 1 co') [xv'] ∧ RowV C wr (.slice (some ⟨gi', 0, none⟩) 1 ci') [xv'] ∧ go' ≠ gi' ∧ Fr w0 wr C xv.ownBlock ∧ (xv'.ownBlock = xv.ownBlock ∨ ∀ g, xv'.ownBlock = some g → w0.heap.size ≤ g)))) (fun iv _ => 1 - (intOf iv).toNat)
  case atStart => exact .inl ⟨rfl, rfl⟩
  case round =>
    rcases hrel with ⟨rfl, hwr⟩ | ⟨rfl, HFin⟩
    · have hwr' := hwr.symm
      clear hwr
      subst hwr'
      have HSk : Hid (∀ (u : World) (row : Option Nat), wB.grownBy u row → (∀ g, row = some g → ∃ cs, Blk wB g cs 5) → u.cell? ⟨pr, 1, none⟩ = some (.slice (some ⟨gi, 0, none⟩) 1 ci) ∧ u.cell? ⟨gi, 0, none⟩ = some (.slice xa xn xc) ∧ u.cell? ⟨gl, 0, none⟩ = some (.slice ba N bc) ∧ u.cell? ⟨pr, 0, none⟩ = some (.slice oa 0 oc)) := fun u row hu h5 => by
        have n5 : ∀ {k : Nat} {cs : List Value} {t : TypeId}, Blk wB k cs t → t ≠ 5 → row ≠ some k := fun hb ht e => by
          obtain ⟨cs', h⟩ := h5 _ e
          exact hb.ne h ht rfl
        have hp := HPB.out.on hu (n5 HPB.out (by decide))
        have hl := HBB.out.on hu (n5 HBB.out (by decide))
        obtain ⟨cg, hbg, _⟩ := HiB.out.blk (g := gi) rfl
        have hi' := HiB.out.on hu (fun k hk e => by have e' : gi = k := Option.some.inj e; subst e'; exact n5 hbg (by decide) hk)
        exact ⟨by rw [hp.cell]; rfl, by have := hi'.cell 0 _ rfl; rw [this], by rw [hl.cell]; rfl, by rw [hp.cell]; rfl⟩
      obtain ⟨z1, z2, z3, z4⟩ := HSk.out wB none (grefl _ _) (fun g e => by cases e)
      have HS0 : Hid (∀ u, wB.grownBy u none → u.cell? ⟨pr, 1, none⟩ = some (.slice (some ⟨gi, 0, none⟩) 1 ci) ∧ u.cell? ⟨gi, 0, none⟩ = some (.slice xa xn xc) ∧ u.cell? ⟨gl, 0, none⟩ = some (.slice ba N bc)) := fun u hu => by
        obtain ⟨h1, h2, h3, _⟩ := HSk.out u none hu (fun g e => by cases e)
        exact ⟨h1, h2, h3⟩
      go_upto_region 7 with fail
      refine wp_region_held_drew (S := fun u => u.cell? ⟨pr, 1, none⟩ = some (.slice (some ⟨gi, 0, none⟩) 1 ci) ∧ u.cell? ⟨gi, 0, none⟩ = some (.slice xa xn xc) ∧ u.cell? ⟨gl, 0, none⟩ = some (.slice ba N bc)) (by kernel_rfl) ?_ (fun hHeld => ?_)
      · exact HS0.out _ (gdrew1 _ _)
      refine wpAnyH_take (i := 0) (oi := { dst := some 37, op := Op.move (Operand.tmp 0), type := 63, pos := "book.go:1404", after := #[], guard := none }) (v := (.pointer (some ⟨pr, 0, none⟩))) rfl (by kernel_rfl) (by kernel_rfl) (by kernel_rfl) (fun _ _ _ h => h) (yieldsIf_mv rfl (.tmp 0) rfl _ rfl) (by assumption) ?_
      (try simp only [Act.put, List.setIfInBounds_toArray, List.set_cons_zero, List.set_cons_succ])
      refine wpAnyH_take (i := 1) (oi := { dst := some 38, op := Op.nilCheck (Operand.tmp 37), type := 0, pos := "book.go:1404", after := #[{ on := 0, ground := Ground.data }], guard := none }) (v := (.pointer (some ⟨pr, 0, none⟩))) rfl (by kernel_rfl) (by kernel_rfl) (by kernel_rfl) (fun _ _ _ h => h) (yieldsIf_nilCheck rfl (.tmp 37) rfl _ rfl) (by assumption) ?_
      (try simp only [Act.put, List.setIfInBounds_toArray, List.set_cons_zero, List.set_cons_succ])
      refine wpAnyH_take (i := 2) (oi := { dst := some 39, op := Op.fieldAddr 65 (Operand.tmp 38) 1, type := 0, pos := "book.go:1404", after := #[{ on := 1, ground := Ground.data }], guard := none }) (v := (.pointer (some ⟨pr, 1, none⟩))) rfl (by kernel_rfl) (by kernel_rfl) (by kernel_rfl) (fun _ _ _ h => h) (yieldsIf_field rfl 65 (.tmp 38) 1 rfl _ _ rfl (fld65 pr)) (by assumption) ?_
      (try simp only [Act.put, List.setIfInBounds_toArray, List.set_cons_zero, List.set_cons_succ])
      refine wpAnyH_take (i := 3) (oi := { dst := some 40, op := Op.load 22 (Operand.tmp 39), type := 22, pos := "book.go:1404", after := #[{ on := 2, ground := Ground.data }], guard := none }) (v := (.slice (some ⟨gi, 0, none⟩) 1 ci)) rfl (by kernel_rfl) (by kernel_rfl) (by kernel_rfl) (fun _ _ _ h => h) (yieldsIf_ld rfl 22 (.tmp 39) rfl _ _ rfl (fun u hu => ld22 pr 1 1 ci _ u hu.1)) (by assumption) ?_
      (try simp only [Act.put, List.setIfInBounds_toArray, List.set_cons_zero, List.set_cons_succ])
      refine wpAnyH_take (i := 4) (oi := { dst := some 41, op := Op.move (Operand.tmp 5), type := 3, pos := "book.go:1404", after := #[], guard := none }) (v := (.int .i64 0)) rfl (by kernel_rfl) (by kernel_rfl) (by kernel_rfl) (fun _ _ _ h => h) (yieldsIf_mv rfl (.tmp 5) rfl _ rfl) (by assumption) ?_
      (try simp only [Act.put, List.setIfInBounds_toArray, List.set_cons_zero, List.set_cons_succ])
      refine wpAnyH_take (i := 5) (oi := { dst := some 42, op := Op.indexAddr 22 (Operand.tmp 40) (Operand.tmp 41), type := 0, pos := "book.go:1404", after := #[{ on := 3, ground := Ground.data }, { on := 4, ground := Ground.data }], guard := none }) (v := (.pointer (some ⟨gi, 0, none⟩))) rfl (by kernel_rfl) (by kernel_rfl) (by kernel_rfl) (fun _ _ _ h => h) (yieldsIf_idx rfl 22 (.tmp 40) (.tmp 41) rfl _ _ _ rfl rfl (idx22b gi 1 ci 0 (by decide))) (by assumption) ?_
      (try simp only [Act.put, List.setIfInBounds_toArray, List.set_cons_zero, List.set_cons_succ])
      refine wpAnyH_take (i := 6) (oi := { dst := some 43, op := Op.load 23 (Operand.tmp 42), type := 23, pos := "book.go:1404", after := #[{ on := 5, ground := Ground.data }], guard := none }) (v := (.slice xa xn xc)) rfl (by kernel_rfl) (by kernel_rfl) (by kernel_rfl) (fun _ _ _ h => h) (yieldsIf_ld rfl 23 (.tmp 42) rfl _ _ rfl (fun u hu => ld23x gi 0 xn xc xa u hu.2.1)) (by assumption) ?_
      (try simp only [Act.put, List.setIfInBounds_toArray, List.set_cons_zero, List.set_cons_succ])
      refine wpAnyH_take (i := 7) (oi := { dst := some 44, op := Op.slice 23 (Operand.tmp 43) none (some (Operand.const (Value.int IntKind.i64 0))) none, type := 23, pos := "book.go:1404", after := #[{ on := 6, ground := Ground.data }], guard := none }) (v := (.slice xa 0 xc)) rfl (by kernel_rfl) (by kernel_rfl) (by kernel_rfl) (fun _ _ _ h => h) (yieldsIf_cut0 rfl 23 (.tmp 43) (.const (.int .i64 0)) rfl (.slice xa xn xc) (.int .i64 0) _ rfl rfl HRun.out) (by assumption) ?_
      (try simp only [Act.put, List.setIfInBounds_toArray, List.set_cons_zero, List.set_cons_succ])
      refine wpAnyH_take (i := 8) (oi := { dst := some 45, op := Op.move (Operand.tmp 1), type := 22, pos := "book.go:1404", after := #[], guard := none }) (v := (.slice (some ⟨gl, 0, none⟩) 1 1)) rfl (by kernel_rfl) (by kernel_rfl) (by kernel_rfl) (fun _ _ _ h => h) (yieldsIf_mv rfl (.tmp 1) rfl _ rfl) (by assumption) ?_
      (try simp only [Act.put, List.setIfInBounds_toArray, List.set_cons_zero, List.set_cons_succ])
      refine wpAnyH_take (i := 9) (oi := { dst := some 46, op := Op.move (Operand.tmp 5), type := 3, pos := "book.go:1404", after := #[], guard := none }) (v := (.int .i64 0)) rfl (by kernel_rfl) (by kernel_rfl) (by kernel_rfl) (fun _ _ _ h => h) (yieldsIf_mv rfl (.tmp 5) rfl _ rfl) (by assumption) ?_
      (try simp only [Act.put, List.setIfInBounds_toArray, List.set_cons_zero, List.set_cons_succ])
      refine wpAnyH_take (i := 10) (oi := { dst := some 47, op := Op.indexAddr 22 (Operand.tmp 45) (Operand.tmp 46), type := 0, pos := "book.go:1404", after := #[{ on := 8, ground := Ground.data }, { on := 9, ground := Ground.data }], guard := none }) (v := (.pointer (some ⟨gl, 0, none⟩))) rfl (by kernel_rfl) (by kernel_rfl) (by kernel_rfl) (fun _ _ _ h => h) (yieldsIf_idx rfl 22 (.tmp 45) (.tmp 46) rfl _ _ _ rfl rfl (idx22b gl 1 1 0 (by decide))) (by assumption) ?_
      (try simp only [Act.put, List.setIfInBounds_toArray, List.set_cons_zero, List.set_cons_succ])
      refine wpAnyH_take (i := 11) (oi := { dst := some 48, op := Op.load 23 (Operand.tmp 47), type := 23, pos := "book.go:1404", after := #[{ on := 10, ground := Ground.data }], guard := none }) (v := (.slice ba N bc)) rfl (by kernel_rfl) (by kernel_rfl) (by kernel_rfl) (fun _ _ _ h => h) (yieldsIf_ld rfl 23 (.tmp 47) rfl _ _ rfl (fun u hu => ld23x gl 0 N bc ba u hu.2.2)) (by assumption) ?_
      (try simp only [Act.put, List.setIfInBounds_toArray, List.set_cons_zero, List.set_cons_succ])
      refine wpAnyH_ready (rs := [12]) (by kernel_rfl) (by simp) ?_
      refine AllReadyH.cons rfl (fun K hK => ?_) AllReadyH.nil
      refine step_append_at rfl (.tmp 44) (.tmp 48) rfl C _ [] x (HCutB.out.keep (gdrew1 wB none)) (HxB.out.keep (gdrew1 wB none)) (by have := HXl.out; simp; omega) (by have := HCB.out; exact this) ?_
      intro v2 u2 hO2 hg2 hat2
      obtain ⟨ya, _, _, yc, hye, -⟩ := hO2.rd
      obtain ⟨yn, hyn⟩ : ∃ y, ([] ++ x).length = y := ⟨_, rfl⟩
      rw [hyn] at hye
      subst hye
      have HX2 : Hid (Out C u2 (.slice ya yn yc) x) := hid hO2
      have HG2 : Hid (wB.grownBy u2 (Value.slice xa 0 xc).ownBlock) := hid (gtrans (gsome (gdrew1 wB none) _) hg2)
      have HAt2 : Hid ((Value.slice ya yn yc).ownBlock = (Value.slice xa 0 xc).ownBlock ∨ (Value.slice ya yn yc).ownBlock = some wB.heap.size) := hid hat2
      obtain ⟨t1, t2, t3, -⟩ := HSk.out u2 _ HG2.out (fun g e => HCutB.out.cells5 e)
      clear hO2 hg2 hat2 hyn
      refine hK.out _ _ ?_ (fun hHeld => ?_)
      · exact ⟨t1, t2, t3⟩
      clear hK K
      (try simp only [Act.put, List.setIfInBounds_toArray])
      refine wpAnyH_take (i := 13) (oi := { dst := some 6, op := Op.assign (Operand.tmp 49), type := 23, pos := "book.go:1404", after := #[{ on := 12, ground := Ground.data }, { on := 12, ground := Ground.chain }, { on := 0, ground := Ground.phase }, { on := 1, ground := Ground.phase }, { on := 2, ground := Ground.phase }, { on := 3, ground := Ground.phase }, { on := 4, ground := Ground.phase }, { on := 5, ground := Ground.phase }, { on := 6, ground := Ground.phase }, { on := 7, ground := Ground.phase }, { on := 8, ground := Ground.phase }, { on := 9, ground := Ground.phase }, { on := 10, ground := Ground.phase }, { on := 11, ground := Ground.phase }, { on := 12, ground := Ground.phase }], guard := none }) (v := (.slice ya yn yc)) rfl (by kernel_rfl) (by kernel_rfl) (by kernel_rfl) (fun _ _ _ h => h) (yieldsIf_as rfl (.tmp 49) rfl _ rfl) (by assumption) ?_
      (try simp only [Act.put])
      clear t1 t2 t3
      refine wpAnyH_done (by kernel_rfl) ?_ _
      have HGo2 : Hid (wB.grownBy u2 (Value.slice xa 0 xc).ownBlock) := HG2
      have z5 := HPB.out.lt
      clear z1 z2 z3 z4
      have H5 : Hid (∀ g, (Value.slice xa 0 xc).ownBlock = some g → ∃ cs, Blk wB g cs 5) := hid (fun g e => HCutB.out.cells5 e)
      obtain ⟨z1, z2, z3, z4⟩ := HSk.out u2 _ HG2.out H5.out
      have n5 : Hid (∀ {k : Nat} {cs : List Value} {t : TypeId}, Blk wB k cs t → t ≠ 5 → (Value.slice xa 0 xc).ownBlock ≠ some k) := hid (fun hb ht => HCutB.out.apartBlk hb ht)
      have HP2 := hid (HPB.out.on HG2.out (n5.out HPB.out (by decide)))
      have HI2 : Hid (RowV C u2 (.slice (some ⟨gi, 0, none⟩) 1 ci) [.slice xa xn xc]) := hid (HiB.out.on HG2.out (fun k hk e => by obtain ⟨cg, hbg, _⟩ := HiB.out.blk e; exact n5.out hbg (by decide) hk))
      have Ho2 := hid (HoB.out.on HG2.out (fun k hk e => by obtain ⟨cg, hbg, _⟩ := HoB.out.blk e; exact n5.out hbg (by decide) hk))
      have z6 := HI2.out.free 0
      obtain ⟨cg, hbg, hgC⟩ := HI2.out.blk (g := gi) rfl
      have z7 := hbg.lt
      have HGC := hid hgC
      have HBg := hid hbg
      clear hbg hgC
      go_upto_region 9 with fail
      obtain ⟨u3, hu3⟩ : ∃ y, u2.setCell ⟨gi, 0, none⟩ (.slice ya yn yc) = y := ⟨_, rfl⟩
      rw [hu3]
      have HG3 : Hid (u2.grownBy u3 (some gi)) := hid (by rw [← hu3]; exact gset _ _ _)
      have HI3 : Hid (RowV C u3 (.slice (some ⟨gi, 0, none⟩) 1 ci) [.slice ya yn yc]) := hid (by rw [← hu3]; exact HI2.out.set1)
      have HP3 := hid (HP2.out.on HG3.out (fun e => HBg.out.ne HP2.out (by decide) (Option.some.inj e)))
      have Ho3 := hid (Ho2.out.on HG3.out (fun k hk e => by have hk' : gi = k := Option.some.inj hk; exact HoI.out (by rw [hk']; exact e)))
      have HX3 := hid (HX2.out.on HG3.out (fun k hk e => by have hk' : gi = k := Option.some.inj hk; subst hk'; exact HX2.out.apartBlk HBg.out (by decide) e))
      have HF3 : Hid (Fr w0 u3 C xv.ownBlock) := hid ((HFrB.out.then HG2.out (fun g e => ⟨HCutB.out.block _ e, .inr (.inl (by rw [← HOwn.out]; exact e))⟩)).then HG3.out (fun g e => by have e' : gi = g := Option.some.inj e; subst e'; exact ⟨HGC.out, .inr (.inr (.inr ⟨_, HBg.out⟩))⟩))
      have HC3 : Hid (C ≤ u3.heap.size) := hid (by have := HCB.out; have := HG2.out.size; have := HG3.out.size; omega)
      have z8 : u3.cell? ⟨pr, 0, none⟩ = some (.slice oa 0 oc) := by rw [HP3.out.cell]; rfl
      have z9 := HP3.out.lt
      clear hu3 z1 z2 z3 z4 z5 z6 z7
      go_wp2_with (at_builtin; refine wpList_append_v1 rfl _ _ rfl C u3.heap.size (.slice ya yn yc) (Ho3.out.keep (galloc u3 _ none)) rfl (by rw [(Blk.new u3 [.slice ya yn yc] 23).cell]; rfl) rfl (by have := HC3.out; simp; omega) ?_; intro go' co' u4 hO4 hg4 hat4; have HO4 := hid hO4; have HG4 : Hid (u3.grownBy u4 (Value.slice oa 0 oc).ownBlock) := hid (gtrans (galloc u3 _ _) hg4); have HAt4 := hid hat4; clear hO4 hg4 hat4; have HP4 := hid (HP3.out.on HG4.out (fun e => by obtain ⟨cg, hbg, _⟩ := Ho3.out.blk e; exact hbg.ne HP3.out (by decide) rfl)); have q1 : u4.cell? ⟨pr, 0, none⟩ = some (.slice oa 0 oc) := (by rw [HP4.out.cell]; rfl); have q2 := HP4.out.frozen 0; have q3 := HP4.out.lt)
      have HI4 := hid (HI3.out.on HG4.out (fun k hk e => by have e' : gi = k := Option.some.inj e; exact HoI.out (by rw [e']; exact hk)))
      have HX4 := hid (HX3.out.on HG4.out (fun k hk e => by obtain ⟨cg, hbg, _⟩ := Ho3.out.blk hk; exact HX3.out.apartBlk hbg (by decide) e))
      have HF4 : Hid (Fr w0 u4 C xv.ownBlock) := hid (HF3.out.then HG4.out (fun g e => by obtain ⟨cg, hbg, hC⟩ := Ho3.out.blk e; exact ⟨hC, .inr (.inr (.inr ⟨_, hbg⟩))⟩))
      have HNe4 : Hid (go' ≠ gi) := hid (fun e => by
        rcases HAt4.out with h | h
        · exact HoI.out (by rw [← e]; exact h)
        · obtain ⟨cg, hbg, _⟩ := HI3.out.blk (g := gi) rfl
          have := hbg.lt
          have h' : u3.heap.size ≤ go' := Nat.le_trans (by simp) h
          omega)
      go_roundw
      case rel =>
        refine .inr ⟨rfl, hid ⟨go', co', gi, ci, .slice ya yn yc, ?_, ?_, ?_, ?_, HNe4.out, ?_, ?_⟩⟩
        · exact HP4.out.set 0 _
        · exact HX4.out.on (gset _ _ _) (fun k hk e => by have hk' : pr = k := Option.some.inj hk; subst hk'; exact HX4.out.apartBlk HP4.out (by decide) e)
        · exact HO4.out.on (gset _ _ _) (fun k hk e => by have hk' : pr = k := Option.some.inj hk; subst hk'; obtain ⟨cg, hbg, _⟩ := HO4.out.blk e; exact hbg.ne HP4.out (by decide) rfl)
        · exact HI4.out.on (gset _ _ _) (fun k hk e => by have hk' : pr = k := Option.some.inj hk; subst hk'; obtain ⟨cg, hbg, _⟩ := HI4.out.blk e; exact hbg.ne HP4.out (by decide) rfl)
        · exact HF4.out.then (gset _ _ _) (fun g e => by have e' : pr = g := Option.some.inj e; subst e'; exact ⟨HCp.out, .inr (.inr (.inl ⟨_, HP4.out⟩))⟩)
        · rcases HAt2.out with h | h
          · exact .inl (h.trans HOwn.out)
          · exact .inr (fun g e => by rw [h] at e; have e' := Option.some.inj e; have := HFrB.out.size; omega)
      case measure => simp [intOf]
    · obtain ⟨go', co', gi', ci', xv', k1, k2, k3, k4, k5, k6, k7⟩ := HFin.out
      have y0 : wr.cell? ⟨pr, 0, none⟩ = some (.slice (some ⟨go', 0, none⟩) 1 co') := by rw [k1.cell]; rfl
      have y1 := k1.lt
      have HK := hid (And.intro k1 (And.intro k2 (And.intro k3 (And.intro k4 (And.intro k5 (And.intro k6 k7))))))
      clear k1 k2 k3 k4 k5 k6 k7 HFin
      go_wp2_with fail
      go_ret
      obtain ⟨k1, k2, k3, k4, k5, k6, k7⟩ := HK.out
      exact ⟨go', co', rfl, gi', ci', xv', k1, k2, k3, k4, k5, k6, k7⟩
set_option maxRecDepth 100000 in
set_option maxHeartbeats 1600000 in
theorem rowsF_any (w0 w : World) (pr C gl : Nat) (xv vb : Value) (x : List UInt8) (F : Nat → Prop)
    (hp : Blk w0 pr [.slice none 0 0, .slice none 0 0] 65) (hCp : C ≤ pr) (hxv : xv = .slice none 0 0)
    (hw : w0.grownBy w none) (hb : Blk w gl [vb] 23) (hx : Rd w F vb x) (hF : ∀ k, F k → k < C) (hxl : x.length ≤ 65536) (hC : C ≤ w0.heap.size) :
    Calls Tryd.prog 42 #[.pointer (some ⟨pr, 0, none⟩), .slice (some ⟨gl, 0, none⟩) 1 1] w fun e w' => ∃ (go' co' : Nat), e = .returned (.slice (some ⟨go', 0, none⟩) 1 co') ∧ ∃ (gi' ci' : Nat) (xv' : Value), Blk w' pr [.slice (some ⟨go', 0, none⟩) 1 co', .slice (some ⟨gi', 0, none⟩) 1 ci'] 65 ∧ Out C w' xv' x ∧ RowV C w' (.slice (some ⟨go', 0, none⟩) 1 co') [xv'] ∧ RowV C w' (.slice (some ⟨gi', 0, none⟩) 1 ci') [xv'] ∧ go' ≠ gi' ∧ Fr w0 w' C xv.ownBlock ∧ (xv'.ownBlock = xv.ownBlock ∨ ∀ g, xv'.ownBlock = some g → w0.heap.size ≤ g) := by
  have HP := hid (hp.keep hw)
  have HB := hid hb
  have HF := hid hF
  have HXl := hid hxl
  have HCw : Hid (C ≤ w.heap.size) := hid (Nat.le_trans hC hw.size)
  have HCp := hid hCp
  have HFr0 : Hid (Fr w0 w C xv.ownBlock) := hid ((Fr.refl w0 C _).thenN hw)
  obtain ⟨xa, hxa⟩ : ∃ y : Option Addr, none = y := ⟨_, rfl⟩
  obtain ⟨xn, hxn⟩ : ∃ y : Nat, 0 = y := ⟨_, rfl⟩
  obtain ⟨xc, hxc⟩ : ∃ y : Nat, 0 = y := ⟨_, rfl⟩
  have HRun : Hid (∀ u : World, (Instr.sliceAt 23 (.slice xa xn xc) none (some (.int .i64 0)) none).run Tryd.prog u = .ok (.slice xa 0 xc) u) := hid (fun u => by
    rw [← hxa, ← hxn, ← hxc]
    go_simp)
  have HOwn : Hid ((Value.slice xa 0 xc).ownBlock = xv.ownBlock) := hid (by rw [← hxa, hxv]; rfl)
  have HCut : Hid (∀ u, Out C u (.slice xa 0 xc) []) := hid (fun u => by rw [← hxa, ← hxc]; exact Out.nil _ _)
  have HNv : Hid (Value.slice none 0 0 = Value.slice xa xn xc) := hid (by rw [← hxa, ← hxn, ← hxc])
  have hx0 := hx
  obtain ⟨ba, _, _, bc, hbe, -⟩ := hx0
  obtain ⟨N, hN⟩ : ∃ y, x.length = y := ⟨_, rfl⟩
  rw [hN] at hbe
  have HX := hid hx
  rw [hbe] at HB HX
  have y0 : w.cell? ⟨pr, 0, none⟩ = some (.slice none 0 0) := by rw [HP.out.cell]; rfl
  have y1 := HP.out.frozen 0
  have y2 := HP.out.lt
  clear hp hCp hw hb hx hF hxl hC hN hbe hxa hxn hxc hxv
  go_enter Tryd.func42, Tryd.ntmps42
  go_upto_region 2 with fail
  obtain ⟨wA, hwA⟩ : ∃ y, w.setCell ⟨pr, 0, none⟩ (.slice none 0 0) = y := ⟨_, rfl⟩
  rw [hwA]
  have HGA : Hid (w.grownBy wA (some pr)) := hid (by rw [← hwA]; exact gset _ _ _)
  have HPA : Hid (Blk wA pr [.slice none 0 0, .slice none 0 0] 65) := hid (by rw [← hwA]; exact HP.out.set 0 _)
  have HBA : Hid (Blk wA gl [.slice ba N bc] 23) := hid (HB.out.on HGA.out (fun e => HP.out.ne HB.out (by decide) (Option.some.inj e)))
  have HxA : Hid (Rd wA F (.slice ba N bc) x) := hid (HX.out.on HGA.out (fun k hk hFk => by have hk' : pr = k := Option.some.inj hk; have := HF.out k hFk; have := HCp.out; omega))
  have HFrA : Hid (Fr w0 wA C xv.ownBlock) := hid (HFr0.out.then HGA.out (fun g e => by have e' : pr = g := Option.some.inj e; subst e'; exact ⟨HCp.out, .inr (.inr (.inl ⟨_, HP.out⟩))⟩))
  have HCA : Hid (C ≤ wA.heap.size) := hid (by have := HCw.out; have := HGA.out.size; omega)
  have y3 : wA.cell? ⟨pr, 1, none⟩ = some (.slice none 0 0) := by rw [HPA.out.cell]; rfl
  have y4 := HPA.out.lt
  clear hwA y0 y1 y2 HP HB HX HFr0 HCw HGA
  go_wp2_with fail
  go_loopw [5] (fun iv wr => (iv = .int .i64 0 ∧ wr = wA) ∨ (iv = .int .i64 1 ∧ Hid (∃ (go' co' gi' ci' : Nat) (xv' : Value), Blk wr pr [.slice (some ⟨go', 0, none⟩) 1 co', .slice (some ⟨gi', 0, none⟩) 1 ci'] 65 ∧ Out C wr xv' x ∧ RowV C wr (.slice (some ⟨go', 0, none⟩) 1 co') [xv'] ∧ RowV C wr (.slice (some ⟨gi', 0, none⟩) 1 ci') [xv'] ∧ go' ≠ gi' ∧ Fr w0 wr C xv.ownBlock ∧ (xv'.ownBlock = xv.ownBlock ∨ ∀ g, xv'.ownBlock = some g → w0.heap.size ≤ g)))) (fun iv _ => 1 - (intOf iv).toNat)
  case atStart => exact .inl ⟨rfl, rfl⟩
  case round =>
    rcases hrel with ⟨rfl, hwr⟩ | ⟨rfl, HFin⟩
    · have hwr' := hwr.symm
      clear hwr
      subst hwr'
      go_upto_region 7 with (at_builtin; refine wpList_append_v1 rfl _ _ rfl C wA.heap.size (.slice none 0 0) (RowV.nil _ _) rfl (by rw [(Blk.new wA [.slice none 0 0] 23).cell]; rfl) rfl (by have := HCA.out; simp; omega) ?_; intro gi ci w4 hO4 hg4 hat4; have HO4 := hid hO4; have HG4 : Hid (wA.grownBy w4 none) := hid (gtrans (galloc wA _ _) hg4); clear hO4 hg4 hat4; have HP4 := hid (HPA.out.keep HG4.out); have q1 : w4.cell? ⟨pr, 1, none⟩ = some (.slice none 0 0) := (by rw [HP4.out.cell]; rfl); have q2 := HP4.out.frozen 1; have q3 := HP4.out.lt)
      obtain ⟨wB, hwB⟩ : ∃ y, w4.setCell ⟨pr, 1, none⟩ (.slice (some ⟨gi, 0, none⟩) 1 ci) = y := ⟨_, rfl⟩
      rw [hwB]
      have HGB : Hid (w4.grownBy wB (some pr)) := hid (by rw [← hwB]; exact gset _ _ _)
      obtain ⟨oa, hoa⟩ : ∃ y : Option Addr, none = y := ⟨_, rfl⟩
      obtain ⟨oc, hoc⟩ : ∃ y : Nat, 0 = y := ⟨_, rfl⟩
      have HPB : Hid (Blk wB pr [.slice oa 0 oc, .slice (some ⟨gi, 0, none⟩) 1 ci] 65) := hid (by rw [← hwB, ← hoa, ← hoc]; exact HP4.out.set 1 _)
      have HoB : Hid (RowV C wB (.slice oa 0 oc) []) := hid (by rw [← hoa, ← hoc]; exact RowV.nil _ _)
      have HiB : Hid (RowV C wB (.slice (some ⟨gi, 0, none⟩) 1 ci) [.slice xa xn xc]) := hid (by
        rw [← HNv.out]
        exact HO4.out.on HGB.out (fun k hk e => by have hk' : pr = k := Option.some.inj hk; subst hk'; obtain ⟨cg, hbg, _⟩ := HO4.out.blk e; exact hbg.ne HP4.out (by decide) rfl))
      have HoI : Hid ((Value.slice oa 0 oc).ownBlock ≠ some gi) := hid (by rw [← hoa]; simp [Value.ownBlock])
      have HCutB := hid (HCut.out wB)
      have HBB : Hid (Blk wB gl [.slice ba N bc] 23) := hid ((HBA.out.keep HG4.out).on HGB.out (fun e => HP4.out.ne (HBA.out.keep HG4.out) (by decide) (Option.some.inj e)))
      have HxB : Hid (Rd wB F (.slice ba N bc) x) := hid ((HxA.out.keep HG4.out).on HGB.out (fun k hk hFk => by have hk' : pr = k := Option.some.inj hk; have := HF.out k hFk; have := HCp.out; omega))
      have HFrB : Hid (Fr w0 wB C xv.ownBlock) := hid ((HFrA.out.thenN HG4.out).then HGB.out (fun g e => by have e' : pr = g := Option.some.inj e; subst e'; exact ⟨HCp.out, .inr (.inr (.inl ⟨_, HP4.out⟩))⟩))
      have HCB : Hid (C ≤ wB.heap.size) := hid (by have := HCA.out; have := HG4.out.size; have := HGB.out.size; omega)
      have HGold := hid hoa
      clear hwB hoa hoc q1 q2 q3 HP4 HO4 HGB HG4 HGold y3 y4
      have HSk : Hid (∀ (u : World) (row : Option Nat), wB.grownBy u row → (∀ g, row = some g → ∃ cs, Blk wB g cs 5) → u.cell? ⟨pr, 1, none⟩ = some (.slice (some ⟨gi, 0, none⟩) 1 ci) ∧ u.cell? ⟨gi, 0, none⟩ = some (.slice xa xn xc) ∧ u.cell? ⟨gl, 0, none⟩ = some (.slice ba N bc) ∧ u.cell? ⟨pr, 0, none⟩ = some (.slice oa 0 oc)) := fun u row hu h5 => by
        have n5 : ∀ {k : Nat} {cs : List Value} {t : TypeId}, Blk wB k cs t → t ≠ 5 → row ≠ some k := fun hb ht e => by
          obtain ⟨cs', h⟩ := h5 _ e
          exact hb.ne h ht rfl
        have hp := HPB.out.on hu (n5 HPB.out (by decide))
        have hl := HBB.out.on hu (n5 HBB.out (by decide))
        obtain ⟨cg, hbg, _⟩ := HiB.out.blk (g := gi) rfl
        have hi' := HiB.out.on hu (fun k hk e => by have e' : gi = k := Option.some.inj e; subst e'; exact n5 hbg (by decide) hk)
        exact ⟨by rw [hp.cell]; rfl, by have := hi'.cell 0 _ rfl; rw [this], by rw [hl.cell]; rfl, by rw [hp.cell]; rfl⟩
      obtain ⟨z1, z2, z3, z4⟩ := HSk.out wB none (grefl _ _) (fun g e => by cases e)
      have HS0 : Hid (∀ u, wB.grownBy u none → u.cell? ⟨pr, 1, none⟩ = some (.slice (some ⟨gi, 0, none⟩) 1 ci) ∧ u.cell? ⟨gi, 0, none⟩ = some (.slice xa xn xc) ∧ u.cell? ⟨gl, 0, none⟩ = some (.slice ba N bc)) := fun u hu => by
        obtain ⟨h1, h2, h3, _⟩ := HSk.out u none hu (fun g e => by cases e)
        exact ⟨h1, h2, h3⟩
      refine wp_region_held_drew (S := fun u => u.cell? ⟨pr, 1, none⟩ = some (.slice (some ⟨gi, 0, none⟩) 1 ci) ∧ u.cell? ⟨gi, 0, none⟩ = some (.slice xa xn xc) ∧ u.cell? ⟨gl, 0, none⟩ = some (.slice ba N bc)) (by kernel_rfl) ?_ (fun hHeld => ?_)
      · exact HS0.out _ (gdrew1 _ _)
      refine wpAnyH_take (i := 0) (oi := { dst := some 37, op := Op.move (Operand.tmp 0), type := 63, pos := "book.go:1404", after := #[], guard := none }) (v := (.pointer (some ⟨pr, 0, none⟩))) rfl (by kernel_rfl) (by kernel_rfl) (by kernel_rfl) (fun _ _ _ h => h) (yieldsIf_mv rfl (.tmp 0) rfl _ rfl) (by assumption) ?_
      (try simp only [Act.put, List.setIfInBounds_toArray, List.set_cons_zero, List.set_cons_succ])
      refine wpAnyH_take (i := 1) (oi := { dst := some 38, op := Op.nilCheck (Operand.tmp 37), type := 0, pos := "book.go:1404", after := #[{ on := 0, ground := Ground.data }], guard := none }) (v := (.pointer (some ⟨pr, 0, none⟩))) rfl (by kernel_rfl) (by kernel_rfl) (by kernel_rfl) (fun _ _ _ h => h) (yieldsIf_nilCheck rfl (.tmp 37) rfl _ rfl) (by assumption) ?_
      (try simp only [Act.put, List.setIfInBounds_toArray, List.set_cons_zero, List.set_cons_succ])
      refine wpAnyH_take (i := 2) (oi := { dst := some 39, op := Op.fieldAddr 65 (Operand.tmp 38) 1, type := 0, pos := "book.go:1404", after := #[{ on := 1, ground := Ground.data }], guard := none }) (v := (.pointer (some ⟨pr, 1, none⟩))) rfl (by kernel_rfl) (by kernel_rfl) (by kernel_rfl) (fun _ _ _ h => h) (yieldsIf_field rfl 65 (.tmp 38) 1 rfl _ _ rfl (fld65 pr)) (by assumption) ?_
      (try simp only [Act.put, List.setIfInBounds_toArray, List.set_cons_zero, List.set_cons_succ])
      refine wpAnyH_take (i := 3) (oi := { dst := some 40, op := Op.load 22 (Operand.tmp 39), type := 22, pos := "book.go:1404", after := #[{ on := 2, ground := Ground.data }], guard := none }) (v := (.slice (some ⟨gi, 0, none⟩) 1 ci)) rfl (by kernel_rfl) (by kernel_rfl) (by kernel_rfl) (fun _ _ _ h => h) (yieldsIf_ld rfl 22 (.tmp 39) rfl _ _ rfl (fun u hu => ld22 pr 1 1 ci _ u hu.1)) (by assumption) ?_
      (try simp only [Act.put, List.setIfInBounds_toArray, List.set_cons_zero, List.set_cons_succ])
      refine wpAnyH_take (i := 4) (oi := { dst := some 41, op := Op.move (Operand.tmp 5), type := 3, pos := "book.go:1404", after := #[], guard := none }) (v := (.int .i64 0)) rfl (by kernel_rfl) (by kernel_rfl) (by kernel_rfl) (fun _ _ _ h => h) (yieldsIf_mv rfl (.tmp 5) rfl _ rfl) (by assumption) ?_
      (try simp only [Act.put, List.setIfInBounds_toArray, List.set_cons_zero, List.set_cons_succ])
      refine wpAnyH_take (i := 5) (oi := { dst := some 42, op := Op.indexAddr 22 (Operand.tmp 40) (Operand.tmp 41), type := 0, pos := "book.go:1404", after := #[{ on := 3, ground := Ground.data }, { on := 4, ground := Ground.data }], guard := none }) (v := (.pointer (some ⟨gi, 0, none⟩))) rfl (by kernel_rfl) (by kernel_rfl) (by kernel_rfl) (fun _ _ _ h => h) (yieldsIf_idx rfl 22 (.tmp 40) (.tmp 41) rfl _ _ _ rfl rfl (idx22b gi 1 ci 0 (by decide))) (by assumption) ?_
      (try simp only [Act.put, List.setIfInBounds_toArray, List.set_cons_zero, List.set_cons_succ])
      refine wpAnyH_take (i := 6) (oi := { dst := some 43, op := Op.load 23 (Operand.tmp 42), type := 23, pos := "book.go:1404", after := #[{ on := 5, ground := Ground.data }], guard := none }) (v := (.slice xa xn xc)) rfl (by kernel_rfl) (by kernel_rfl) (by kernel_rfl) (fun _ _ _ h => h) (yieldsIf_ld rfl 23 (.tmp 42) rfl _ _ rfl (fun u hu => ld23x gi 0 xn xc xa u hu.2.1)) (by assumption) ?_
      (try simp only [Act.put, List.setIfInBounds_toArray, List.set_cons_zero, List.set_cons_succ])
      refine wpAnyH_take (i := 7) (oi := { dst := some 44, op := Op.slice 23 (Operand.tmp 43) none (some (Operand.const (Value.int IntKind.i64 0))) none, type := 23, pos := "book.go:1404", after := #[{ on := 6, ground := Ground.data }], guard := none }) (v := (.slice xa 0 xc)) rfl (by kernel_rfl) (by kernel_rfl) (by kernel_rfl) (fun _ _ _ h => h) (yieldsIf_cut0 rfl 23 (.tmp 43) (.const (.int .i64 0)) rfl (.slice xa xn xc) (.int .i64 0) _ rfl rfl HRun.out) (by assumption) ?_
      (try simp only [Act.put, List.setIfInBounds_toArray, List.set_cons_zero, List.set_cons_succ])
      refine wpAnyH_take (i := 8) (oi := { dst := some 45, op := Op.move (Operand.tmp 1), type := 22, pos := "book.go:1404", after := #[], guard := none }) (v := (.slice (some ⟨gl, 0, none⟩) 1 1)) rfl (by kernel_rfl) (by kernel_rfl) (by kernel_rfl) (fun _ _ _ h => h) (yieldsIf_mv rfl (.tmp 1) rfl _ rfl) (by assumption) ?_
      (try simp only [Act.put, List.setIfInBounds_toArray, List.set_cons_zero, List.set_cons_succ])
      refine wpAnyH_take (i := 9) (oi := { dst := some 46, op := Op.move (Operand.tmp 5), type := 3, pos := "book.go:1404", after := #[], guard := none }) (v := (.int .i64 0)) rfl (by kernel_rfl) (by kernel_rfl) (by kernel_rfl) (fun _ _ _ h => h) (yieldsIf_mv rfl (.tmp 5) rfl _ rfl) (by assumption) ?_
      (try simp only [Act.put, List.setIfInBounds_toArray, List.set_cons_zero, List.set_cons_succ])
      refine wpAnyH_take (i := 10) (oi := { dst := some 47, op := Op.indexAddr 22 (Operand.tmp 45) (Operand.tmp 46), type := 0, pos := "book.go:1404", after := #[{ on := 8, ground := Ground.data }, { on := 9, ground := Ground.data }], guard := none }) (v := (.pointer (some ⟨gl, 0, none⟩))) rfl (by kernel_rfl) (by kernel_rfl) (by kernel_rfl) (fun _ _ _ h => h) (yieldsIf_idx rfl 22 (.tmp 45) (.tmp 46) rfl _ _ _ rfl rfl (idx22b gl 1 1 0 (by decide))) (by assumption) ?_
      (try simp only [Act.put, List.setIfInBounds_toArray, List.set_cons_zero, List.set_cons_succ])
      refine wpAnyH_take (i := 11) (oi := { dst := some 48, op := Op.load 23 (Operand.tmp 47), type := 23, pos := "book.go:1404", after := #[{ on := 10, ground := Ground.data }], guard := none }) (v := (.slice ba N bc)) rfl (by kernel_rfl) (by kernel_rfl) (by kernel_rfl) (fun _ _ _ h => h) (yieldsIf_ld rfl 23 (.tmp 47) rfl _ _ rfl (fun u hu => ld23x gl 0 N bc ba u hu.2.2)) (by assumption) ?_
      (try simp only [Act.put, List.setIfInBounds_toArray, List.set_cons_zero, List.set_cons_succ])
      refine wpAnyH_ready (rs := [12]) (by kernel_rfl) (by simp) ?_
      refine AllReadyH.cons rfl (fun K hK => ?_) AllReadyH.nil
      refine step_append_at rfl (.tmp 44) (.tmp 48) rfl C _ [] x (HCutB.out.keep (gdrew1 wB none)) (HxB.out.keep (gdrew1 wB none)) (by have := HXl.out; simp; omega) (by have := HCB.out; exact this) ?_
      intro v2 u2 hO2 hg2 hat2
      obtain ⟨ya, _, _, yc, hye, -⟩ := hO2.rd
      obtain ⟨yn, hyn⟩ : ∃ y, ([] ++ x).length = y := ⟨_, rfl⟩
      rw [hyn] at hye
      subst hye
      have HX2 : Hid (Out C u2 (.slice ya yn yc) x) := hid hO2
      have HG2 : Hid (wB.grownBy u2 (Value.slice xa 0 xc).ownBlock) := hid (gtrans (gsome (gdrew1 wB none) _) hg2)
      have HAt2 : Hid ((Value.slice ya yn yc).ownBlock = (Value.slice xa 0 xc).ownBlock ∨ (Value.slice ya yn yc).ownBlock = some wB.heap.size) := hid hat2
      obtain ⟨t1, t2, t3, -⟩ := HSk.out u2 _ HG2.out (fun g e => HCutB.out.cells5 e)
      clear hO2 hg2 hat2 hyn
      refine hK.out _ _ ?_ (fun hHeld => ?_)
      · exact ⟨t1, t2, t3⟩
      clear hK K
      (try simp only [Act.put, List.setIfInBounds_toArray])
      refine wpAnyH_take (i := 13) (oi := { dst := some 6, op := Op.assign (Operand.tmp 49), type := 23, pos := "book.go:1404", after := #[{ on := 12, ground := Ground.data }, { on := 12, ground := Ground.chain }, { on := 0, ground := Ground.phase }, { on := 1, ground := Ground.phase }, { on := 2, ground := Ground.phase }, { on := 3, ground := Ground.phase }, { on := 4, ground := Ground.phase }, { on := 5, ground := Ground.phase }, { on := 6, ground := Ground.phase }, { on := 7, ground := Ground.phase }, { on := 8, ground := Ground.phase }, { on := 9, ground := Ground.phase }, { on := 10, ground := Ground.phase }, { on := 11, ground := Ground.phase }, { on := 12, ground := Ground.phase }], guard := none }) (v := (.slice ya yn yc)) rfl (by kernel_rfl) (by kernel_rfl) (by kernel_rfl) (fun _ _ _ h => h) (yieldsIf_as rfl (.tmp 49) rfl _ rfl) (by assumption) ?_
      (try simp only [Act.put])
      clear t1 t2 t3
      refine wpAnyH_done (by kernel_rfl) ?_ _
      have HGo2 : Hid (wB.grownBy u2 (Value.slice xa 0 xc).ownBlock) := HG2
      have z5 := HPB.out.lt
      clear z1 z2 z3 z4
      have H5 : Hid (∀ g, (Value.slice xa 0 xc).ownBlock = some g → ∃ cs, Blk wB g cs 5) := hid (fun g e => HCutB.out.cells5 e)
      obtain ⟨z1, z2, z3, z4⟩ := HSk.out u2 _ HG2.out H5.out
      have n5 : Hid (∀ {k : Nat} {cs : List Value} {t : TypeId}, Blk wB k cs t → t ≠ 5 → (Value.slice xa 0 xc).ownBlock ≠ some k) := hid (fun hb ht => HCutB.out.apartBlk hb ht)
      have HP2 := hid (HPB.out.on HG2.out (n5.out HPB.out (by decide)))
      have HI2 : Hid (RowV C u2 (.slice (some ⟨gi, 0, none⟩) 1 ci) [.slice xa xn xc]) := hid (HiB.out.on HG2.out (fun k hk e => by obtain ⟨cg, hbg, _⟩ := HiB.out.blk e; exact n5.out hbg (by decide) hk))
      have Ho2 := hid (HoB.out.on HG2.out (fun k hk e => by obtain ⟨cg, hbg, _⟩ := HoB.out.blk e; exact n5.out hbg (by decide) hk))
      have z6 := HI2.out.free 0
      obtain ⟨cg, hbg, hgC⟩ := HI2.out.blk (g := gi) rfl
      have z7 := hbg.lt
      have HGC := hid hgC
      have HBg := hid hbg
      clear hbg hgC
      go_upto_region 9 with fail
      obtain ⟨u3, hu3⟩ : ∃ y, u2.setCell ⟨gi, 0, none⟩ (.slice ya yn yc) = y := ⟨_, rfl⟩
      rw [hu3]
      have HG3 : Hid (u2.grownBy u3 (some gi)) := hid (by rw [← hu3]; exact gset _ _ _)
      have HI3 : Hid (RowV C u3 (.slice (some ⟨gi, 0, none⟩) 1 ci) [.slice ya yn yc]) := hid (by rw [← hu3]; exact HI2.out.set1)
      have HP3 := hid (HP2.out.on HG3.out (fun e => HBg.out.ne HP2.out (by decide) (Option.some.inj e)))
      have Ho3 := hid (Ho2.out.on HG3.out (fun k hk e => by have hk' : gi = k := Option.some.inj hk; exact HoI.out (by rw [hk']; exact e)))
      have HX3 := hid (HX2.out.on HG3.out (fun k hk e => by have hk' : gi = k := Option.some.inj hk; subst hk'; exact HX2.out.apartBlk HBg.out (by decide) e))
      have HF3 : Hid (Fr w0 u3 C xv.ownBlock) := hid ((HFrB.out.then HG2.out (fun g e => ⟨HCutB.out.block _ e, .inr (.inl (by rw [← HOwn.out]; exact e))⟩)).then HG3.out (fun g e => by have e' : gi = g := Option.some.inj e; subst e'; exact ⟨HGC.out, .inr (.inr (.inr ⟨_, HBg.out⟩))⟩))
      have HC3 : Hid (C ≤ u3.heap.size) := hid (by have := HCB.out; have := HG2.out.size; have := HG3.out.size; omega)
      have z8 : u3.cell? ⟨pr, 0, none⟩ = some (.slice oa 0 oc) := by rw [HP3.out.cell]; rfl
      have z9 := HP3.out.lt
      clear hu3 z1 z2 z3 z4 z5 z6 z7
      go_wp2_with (at_builtin; refine wpList_append_v1 rfl _ _ rfl C u3.heap.size (.slice ya yn yc) (Ho3.out.keep (galloc u3 _ none)) rfl (by rw [(Blk.new u3 [.slice ya yn yc] 23).cell]; rfl) rfl (by have := HC3.out; simp; omega) ?_; intro go' co' u4 hO4 hg4 hat4; have HO4 := hid hO4; have HG4 : Hid (u3.grownBy u4 (Value.slice oa 0 oc).ownBlock) := hid (gtrans (galloc u3 _ _) hg4); have HAt4 := hid hat4; clear hO4 hg4 hat4; have HP4 := hid (HP3.out.on HG4.out (fun e => by obtain ⟨cg, hbg, _⟩ := Ho3.out.blk e; exact hbg.ne HP3.out (by decide) rfl)); have q1 : u4.cell? ⟨pr, 0, none⟩ = some (.slice oa 0 oc) := (by rw [HP4.out.cell]; rfl); have q2 := HP4.out.frozen 0; have q3 := HP4.out.lt)
      have HI4 := hid (HI3.out.on HG4.out (fun k hk e => by have e' : gi = k := Option.some.inj e; exact HoI.out (by rw [e']; exact hk)))
      have HX4 := hid (HX3.out.on HG4.out (fun k hk e => by obtain ⟨cg, hbg, _⟩ := Ho3.out.blk hk; exact HX3.out.apartBlk hbg (by decide) e))
      have HF4 : Hid (Fr w0 u4 C xv.ownBlock) := hid (HF3.out.then HG4.out (fun g e => by obtain ⟨cg, hbg, hC⟩ := Ho3.out.blk e; exact ⟨hC, .inr (.inr (.inr ⟨_, hbg⟩))⟩))
      have HNe4 : Hid (go' ≠ gi) := hid (fun e => by
        rcases HAt4.out with h | h
        · exact HoI.out (by rw [← e]; exact h)
        · obtain ⟨cg, hbg, _⟩ := HI3.out.blk (g := gi) rfl
          have := hbg.lt
          have h' : u3.heap.size ≤ go' := Nat.le_trans (by simp) h
          omega)
      go_roundw
      case rel =>
        refine .inr ⟨rfl, hid ⟨go', co', gi, ci, .slice ya yn yc, ?_, ?_, ?_, ?_, HNe4.out, ?_, ?_⟩⟩
        · exact HP4.out.set 0 _
        · exact HX4.out.on (gset _ _ _) (fun k hk e => by have hk' : pr = k := Option.some.inj hk; subst hk'; exact HX4.out.apartBlk HP4.out (by decide) e)
        · exact HO4.out.on (gset _ _ _) (fun k hk e => by have hk' : pr = k := Option.some.inj hk; subst hk'; obtain ⟨cg, hbg, _⟩ := HO4.out.blk e; exact hbg.ne HP4.out (by decide) rfl)
        · exact HI4.out.on (gset _ _ _) (fun k hk e => by have hk' : pr = k := Option.some.inj hk; subst hk'; obtain ⟨cg, hbg, _⟩ := HI4.out.blk e; exact hbg.ne HP4.out (by decide) rfl)
        · exact HF4.out.then (gset _ _ _) (fun g e => by have e' : pr = g := Option.some.inj e; subst e'; exact ⟨HCp.out, .inr (.inr (.inl ⟨_, HP4.out⟩))⟩)
        · rcases HAt2.out with h | h
          · exact .inl (h.trans HOwn.out)
          · exact .inr (fun g e => by rw [h] at e; have e' := Option.some.inj e; have := HFrB.out.size; omega)
      case measure => simp [intOf]
    · obtain ⟨go', co', gi', ci', xv', k1, k2, k3, k4, k5, k6, k7⟩ := HFin.out
      have y0 : wr.cell? ⟨pr, 0, none⟩ = some (.slice (some ⟨go', 0, none⟩) 1 co') := by rw [k1.cell]; rfl
      have y1 := k1.lt
      have HK := hid (And.intro k1 (And.intro k2 (And.intro k3 (And.intro k4 (And.intro k5 (And.intro k6 k7))))))
      clear k1 k2 k3 k4 k5 k6 k7 HFin
      go_wp2_with fail
      go_ret
      obtain ⟨k1, k2, k3, k4, k5, k6, k7⟩ := HK.out
      exact ⟨go', co', rfl, gi', ci', xv', k1, k2, k3, k4, k5, k6, k7⟩
set_option maxRecDepth 100000 in
theorem bytes_any (w : World) (pr C : Nat) (xv vb : Value) (xl x : List UInt8) (F : Nat → Prop) (h : Plc w pr C xv xl) (hx : Rd w F vb x) (hF : ∀ k, F k → k < C) (hxl : x.length ≤ 65536) (hC : C ≤ w.heap.size) :
    Calls Tryd.prog 29 #[.pointer (some ⟨pr, 0, none⟩), vb] w fun e w' => ∃ xv', e = .returned xv' ∧ Plc w' pr C xv' x ∧ Fr w w' C xv.ownBlock ∧ (xv'.ownBlock = xv.ownBlock ∨ ∀ g, xv'.ownBlock = some g → w.heap.size ≤ g) := by
  obtain ⟨W1, hW1⟩ : ∃ y, w.alloc (.cells #[vb] 23) = y := ⟨_, rfl⟩
  have hg : w.grownBy W1 none := by rw [← hW1]; exact galloc _ _ _
  have hb : Blk W1 w.heap.size [vb] 23 := by rw [← hW1]; exact Blk.new w [vb] 23
  have HR : Hid (Calls Tryd.prog 42 #[.pointer (some ⟨pr, 0, none⟩), .slice (some ⟨w.heap.size, 0, none⟩) 1 1] W1 fun e w' => ∃ (go' co' : Nat), e = .returned (.slice (some ⟨go', 0, none⟩) 1 co') ∧ ∃ (gi' ci' : Nat) (xv' : Value), Blk w' pr [.slice (some ⟨go', 0, none⟩) 1 co', .slice (some ⟨gi', 0, none⟩) 1 ci'] 65 ∧ Out C w' xv' x ∧ RowV C w' (.slice (some ⟨go', 0, none⟩) 1 co') [xv'] ∧ RowV C w' (.slice (some ⟨gi', 0, none⟩) 1 ci') [xv'] ∧ go' ≠ gi' ∧ Fr w w' C xv.ownBlock ∧ (xv'.ownBlock = xv.ownBlock ∨ ∀ g, xv'.ownBlock = some g → w.heap.size ≤ g)) := hid (by
    obtain ⟨vo, vi, hp, hCp, hO, hcase⟩ := h
    rcases hcase with ⟨rfl, rfl, hxv⟩ | ⟨go, co, gi, ci, rfl, rfl, ho, hi, hgg⟩
    · exact rowsF_any w W1 pr C w.heap.size xv vb x F hp hCp hxv hg hb (hx.keep hg) hF hxl hC
    · exact rowsU_any w W1 pr C w.heap.size xv vb xl x F go co gi ci hp hCp hO ho hi hgg hg (Nat.le_refl _) hb (hx.keep hg) hF hxl hC)
  have HCp : Hid (C ≤ pr) := hid (by obtain ⟨_, _, _, h2, _⟩ := h; exact h2)
  obtain ⟨ba, _, _, bc, hbe, -⟩ := hx
  subst hbe
  clear h hb hg hF hxl hC
  go_enter Tryd.func29, Tryd.ntmps29
  go_wp2_with (go_at_call 42; (with_reducible refine HR.out.mono ?_); rintro e w2 ⟨go', co', rfl, gi', ci', xv', k1, k2, k3, k4, k5, k6, k7⟩; obtain ⟨ya, _, _, yc, hye, -⟩ := k2.rd; have y0 : w2.cell? ⟨go', 0, none⟩ = some xv' := k3.cell 0 _ rfl; rw [hye] at y0; obtain ⟨cg, hcg, -⟩ := k3.blk (g := go') rfl; have y1 := hcg.lt; have HK := hid (And.intro k1 (And.intro k2 (And.intro k3 (And.intro k4 (And.intro k5 (And.intro k6 k7)))))); have HYe := hid hye; clear k1 k2 k3 k4 k5 k6 k7 hcg hye)
  go_ret
  obtain ⟨k1, k2, k3, k4, k5, k6, k7⟩ := HK.out
  exact ⟨xv', by rw [HYe.out]; rfl, ⟨_, _, k1, HCp.out, k2, .inr ⟨go', co', gi', ci', rfl, rfl, k3, k4, k5⟩⟩, k6, k7⟩
end Go.Proofs.YtmiojplbcjhggaaDoor
