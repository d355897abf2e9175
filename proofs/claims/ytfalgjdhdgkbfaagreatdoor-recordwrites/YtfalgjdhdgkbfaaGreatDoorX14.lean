/- The law's take: a field from both readers. -/
import Derived.Test.YtfalgjdhdgkbfaaGreatDoorX12
import Derived.Test.YtfalgjdhdgkbfaaGreatDoorX13
import Derived.Deep.RegionHeld3
import Derived.Stop.BytesEq
import Derived.Test.YtfalgjdhdgkbfaaGreatDoorX11
namespace Go.Proofs.YtfalgjdhdgkbfaaGreatDoor.Bk
open Go Go.RowKit
open Go.RowKit (wrap32 wrap64)

theorem STx.same' {w w' : World} {B bk lt T : Nat} {ps : List Item} {n A : Nat} {D : Int} {v0 v1 : Value} {U : Int} {gs : List Value} {ms : List Nat} {vg vw : Value} {xs : List Value} (h : STx w B bk lt T ps n A D v0 v1 U gs ms vg vw xs)
    (s : ∀ e, e = 5 ∨ e = 28 ∨ e = 3 ∨ e = 59 ∨ e = 62 → Same e w w') (hsz : w.heap.size ≤ w'.heap.size) : STx w' B bk lt T ps n A D v0 v1 U gs ms vg vw xs := by
  have s5 := s 5 (by simp)
  have s28 := s 28 (by simp)
  have s62 := s 62 (by simp)
  exact ⟨⟨h.sl.book.same (fun e he => s e (by rcases he with rfl | rfl | rfl | rfl <;> simp)) hsz, h.sl.ale, h.sl.use, h.sl.u0, h.sl.u1, lt_same h.sl.cells s62, own_same h.sl.row0 s28, h.sl.ap, fun p hp => ⟨own_same (h.sl.own p hp).1 s5, (h.sl.own p hp).2⟩, h.sl.alone, h.sl.apart, ⟨h.sl.hB.1, h.sl.hB.2.1, Nat.le_trans h.sl.hB.2.2 hsz⟩⟩, own_same h.row1 s28, h.apg, h.apw, fun i x p hx hp => (h.want i x p hx hp).same s5 hsz, h.wap, fun x hx b hbk => Nat.lt_of_lt_of_le (h.wlow x hx b hbk) hsz, h.nle⟩
/-- A call that changes one block, and makes others: the change first, then what is new. -/
theorem grown_split {w w2 : World} {b : Nat} (hb : b < w.heap.size) (hg : w.grownBy w2 (some b)) : ∃ wm, But w wm b ∧ Below wm.heap.size wm w2 := by
  have hb2 : b < w2.heap.size := Nat.lt_of_lt_of_le hb hg.size
  refine ⟨{ w with heap := w.heap.setIfInBounds b (w2.heap[b]'hb2) }, ⟨rfl, rfl, rfl, by simp, fun k hk => ?_⟩, ⟨hg.os, hg.tape, hg.output, ?_, fun k hk => ?_⟩⟩
  · simp [Ne.symm hk]
  · simpa using hg.size
  · have hk' : k < w.heap.size := by simpa using hk
    by_cases e : b = k
    · subst e
      simp [hb, hb2]
    · rw [show (({ w with heap := w.heap.setIfInBounds b (w2.heap[b]'hb2) } : World).heap[k]?) = w.heap[k]? by simp [e]]
      exact hg.block k hk' (fun x => e (by injection x with x; exact x.symm))
theorem ST.read {w w2 : World} {B bk lt T : Nat} {ps : List Item} {n b t : Nat} {cs : Array Value} {fr : Nat × Nat} (h : ST w B bk lt T ps n) (hb : w.heap[b]? = some (.cells cs t fr)) (ht : t = 113 ∨ t = 114) (hg : w.grownBy w2 (some b)) :
    ∃ wm, ST wm B bk lt T ps n ∧ Below wm.heap.size wm w2 ∧ wm.heap.size = w.heap.size := by
  obtain ⟨wm, h1, h2⟩ := grown_split (Array.getElem?_eq_some_iff.1 hb).1 hg
  obtain ⟨A, D, v0, v1, U, gs, ms, vg, vw, xs, h⟩ := h
  exact ⟨wm, ⟨A, D, v0, v1, U, gs, ms, vg, vw, xs, h.same' (fun e he => Same.but hb (by rcases ht with rfl | rfl <;> rcases he with rfl | rfl | rfl | rfl | rfl <;> decide) h1) (Nat.le_of_eq h1.size.symm)⟩, h2, h1.size⟩
theorem ST.own {w : World} {B bk lt T : Nat} {ps : List Item} {n : Nat} (h : ST w B bk lt T ps n) {p : Item} (hp : p ∈ ps) : w.ownsRow B 5 1 p.1 p.2.length (cb p.2) := by
  obtain ⟨A, D, v0, v1, U, gs, ms, vg, vw, xs, h⟩ := h
  exact (h.sl.own p hp).1
theorem ST.base {w : World} {B bk lt T : Nat} {ps : List Item} {n : Nat} (h : ST w B bk lt T ps n) : B ≤ w.heap.size := by
  obtain ⟨A, D, v0, v1, U, gs, ms, vg, vw, xs, h⟩ := h
  exact h.sl.hB.2.2

/-- The two readers of one row. -/
structure RP (w : World) (B b d : Nat) (F G : Nat → Prop) (l : List UInt8) (bad : Nat) : Prop where
  r : Rr w b F l bad
  v : Rv w d G l bad
  bB : b < B
  dB : d < B
  fB : ∀ k, F k → k < B
  gB : ∀ k, G k → k < B
  fd : ¬ F d
  gb : ¬ G b
  ne : b ≠ d
theorem Rv.bel {w w' : World} {B b : Nat} {F : Nat → Prop} {l : List UInt8} {bad : Nat} (h : Rv w b F l bad) (hb : Below B w w') (hF : ∀ k, F k → k < B) (hbB : b < B) : Rv w' b F l bad := by
  obtain ⟨v, hh, hv, hFb, hl⟩ := h
  exact ⟨v, (hb.block b hbB).trans hh, hv.bel hb hF, hFb, hl⟩
theorem RP.bel {w w' : World} {B b d : Nat} {F G : Nat → Prop} {l : List UInt8} {bad : Nat} (h : RP w B b d F G l bad) (hb : Below B w w') : RP w' B b d F G l bad :=
  ⟨h.r.bel hb h.fB h.bB, Rv.bel h.v hb h.gB h.dB, h.bB, h.dB, h.fB, h.gB, h.fd, h.gb, h.ne⟩
theorem RP.keep {w w' : World} {B b d : Nat} {F G : Nat → Prop} {l : List UInt8} {bad : Nat} (h : RP w B b d F G l bad) (hg : w.grownBy w' none) : RP w' B b d F G l bad :=
  ⟨h.r.keep hg, h.v.keep hg, h.bB, h.dB, h.fB, h.gB, h.fd, h.gb, h.ne⟩
theorem RP.next {w w1 w2 : World} {B b d : Nat} {F G : Nat → Prop} {l l' : List UInt8} {bad bad' : Nat} (h : RP w B b d F G l bad) (hv : Rv w2 d G l' bad') (hr1 : Rr w1 b F l' bad') (hg : w1.grownBy w2 (some d)) : RP w2 B b d F G l' bad' :=
  ⟨hr1.on hg (fun e => h.ne (by injection e with e; exact e.symm)) (fun k hk => by injection hk with hk; rw [← hk]; exact h.fd), hv, h.bB, h.dB, h.fB, h.gB, h.fd, h.gb, h.ne⟩
/-- What a step leaves as it was: all blocks ahead of B but the readers' own. -/
structure KB (w w' : World) (B b d : Nat) : Prop where
  os : w'.os = w.os
  tape : w'.tape = w.tape
  output : w'.output = w.output
  size : w.heap.size ≤ w'.heap.size
  block : ∀ k, k < B → k ≠ b → k ≠ d → w'.heap[k]? = w.heap[k]?
theorem KB.refl (w : World) (B b d : Nat) : KB w w B b d := ⟨rfl, rfl, rfl, Nat.le_refl _, fun _ _ _ _ => rfl⟩
theorem KB.trans {w w' w'' : World} {B b d : Nat} (h : KB w w' B b d) (k : KB w' w'' B b d) : KB w w'' B b d :=
  ⟨k.os.trans h.os, k.tape.trans h.tape, k.output.trans h.output, Nat.le_trans h.size k.size, fun i h1 h2 h3 => (k.block i h1 h2 h3).trans (h.block i h1 h2 h3)⟩
theorem KB.new {w w' : World} {B b d : Nat} (hg : w.grownBy w' none) (hB : B ≤ w.heap.size) : KB w w' B b d :=
  ⟨hg.os, hg.tape, hg.output, hg.size, fun k h1 _ _ => hg.block k (by omega) (by simp)⟩
theorem KB.one {w w' : World} {B b d : Nat} (hg : w.grownBy w' (some b)) (hB : B ≤ w.heap.size) : KB w w' B b d :=
  ⟨hg.os, hg.tape, hg.output, hg.size, fun k h1 h2 _ => hg.block k (by omega) (fun e => h2 (by injection e))⟩
theorem KB.two {w w' : World} {B b d : Nat} (hg : w.grownBy w' (some d)) (hB : B ≤ w.heap.size) : KB w w' B b d :=
  ⟨hg.os, hg.tape, hg.output, hg.size, fun k h1 _ h3 => hg.block k (by omega) (fun e => h3 (by injection e))⟩
theorem KB.bel {w w' : World} {B b d : Nat} (hb : Below B w w') : KB w w' B b d := ⟨hb.os, hb.tape, hb.output, hb.size, fun k h1 _ _ => hb.block k h1⟩

/-- All that a field's taking leaves. -/
def After (w w' : World) (B b d : Nat) (F G : Nat → Prop) (bk lt T : Nat) (ps : List Item) : Prop :=
  ∃ l' bad' ps', RP w' B b d F G l' bad' ∧ ST w' B bk lt T ps' ps'.length ∧ ps'.length ≤ ps.length + 1 ∧ KB w w' B b d
theorem Rr.block {w : World} {b : Nat} {F : Nat → Prop} {l : List UInt8} {bad : Nat} (h : Rr w b F l bad) : ∃ cs, w.heap[b]? = some (.cells cs 113 (0, 0)) := by
  obtain ⟨v, hh, _⟩ := h; exact ⟨_, hh⟩
theorem Rv.block {w : World} {b : Nat} {F : Nat → Prop} {l : List UInt8} {bad : Nat} (h : Rv w b F l bad) : ∃ cs, w.heap[b]? = some (.cells cs 114 (0, 0)) := by
  obtain ⟨v, hh, _⟩ := h; exact ⟨_, hh⟩
/-- Both have taken: the program first. -/
theorem after_two {w w1 w2 w3 : World} {B b d : Nat} {F G : Nat → Prop} {l l' : List UInt8} {bad bad' bk lt T : Nat} {ps : List Item} (hP : RP w1 B b d F G l bad) (hS : ST w1 B bk lt T ps ps.length) (h1 : w.grownBy w1 none) (hw : B ≤ w.heap.size)
    (hr : Rr w2 b F l' bad') (hg2 : w1.grownBy w2 (some b)) (hv : Rv w3 d G l' bad') (hg3 : w2.grownBy w3 (some d)) : After w w3 B b d F G bk lt T ps := by
  obtain ⟨cs, hb⟩ := Rr.block hP.r
  obtain ⟨wm, hSm, hbm, hsm⟩ := hS.read hb (.inl rfl) hg2
  have hS2 := hSm.below hbm
  have hv2 : Rv w2 d G l bad := hP.v.on hg2 (fun e => hP.ne (by injection e)) (fun k hk => by injection hk with hk; rw [← hk]; exact hP.gb)
  obtain ⟨cs2, hd⟩ := Rv.block hv2
  obtain ⟨wm2, hSm2, hbm2, hsm2⟩ := hS2.read hd (.inr rfl) hg3
  have hB1 := hS.base
  have hB2 := hS2.base
  exact ⟨l', bad', ps, hP.next hv hr hg3, hSm2.below hbm2, by omega, ((KB.new h1 hw).trans (KB.one hg2 hB1)).trans (KB.two hg3 hB2)⟩
set_option maxRecDepth 100000 in
theorem eql65 (x : List UInt8) (hx : x.length = 16) {p q : Operand} (u : World) : (do eqGuard .eql 65 p q (.agg (Lib.byteCells x).toArray) (.agg (Lib.byteCells x).toArray); binOp .eql 65 (.agg (Lib.byteCells x).toArray) (.agg (Lib.byteCells x).toArray) : Sem Value).run Tryz.prog u = .ok (.bool true) u := by
  rw [Sem.run_bind, run_eqGuard_agg u .eql 65 p q _ _ (by kernel_rfl)]
  have := run_eql_bytes (P := Tryz.prog) u 65 5 16 Tryz.underlying65 Tryz.underlying5 (fun u => by kernel_rfl) x x hx hx
  rw [beq_self_eq_true] at this
  exact this
theorem wpList_bin' {P : Program} {ops : Array Oper} {rest : List Oper} {o : Oper} {a : Act} {w : World} {Q : Exit → Act → World → Prop} (hgd : o.guard = none) (op : BinOp) (t : TypeId) (x y : Operand) (ty : TypeId) (ho : o.op = .binOp op t x y ty) (vx vy v : Value) (hx : a.eval x = vx) (hy : a.eval y = vy) (hr : (do eqGuard op t x y vx vy; binOp op t vx vy : Sem Value).run P w = .ok v w)
    (h : wpList P ops Q rest (a.put o.dst v) w) : wpList P ops Q (o :: rest) a w :=
  wpList_plain hgd fun _ hK => by
    subst hx hy
    unfold Oper.wp execOp
    simp only [ho]
    rw [Sem.run_bind, hr]
    exact hK _ _ h
set_option maxRecDepth 100000 in
set_option maxHeartbeats 3200000 in
theorem take_law (w : World) (B b d : Nat) (F G : Nat → Prop) (l : List UInt8) (bad bk lt T : Nat) (ps : List Item) (OC : List Value) (dv wd : Int) (hP : RP w B b d F G l bad) (hS : ST w B bk lt T ps ps.length) (hn : ps.length ≤ 8388607) (h0 : OC[0]? = some (.int .i64 dv)) (h3 : OC[3]? = some (.int .i64 wd)) :
    Calls Tryz.prog 16 #[.pointer (some ⟨b, 0, none⟩), .pointer (some ⟨d, 0, none⟩), .agg OC.toArray, .pointer (some ⟨lt, 0, none⟩)] w fun e w' => e = .returned (.bool true) ∧ Hid (After w w' B b d F G bk lt T ps) := by
  have HP := hid hP
  have HS := hid hS
  have hB := hS.base
  have HO0 := hid h0
  have HO3 := hid h3
  clear hP hS h0 h3
  have BX : Hid (∀ w1, Blk w1 w.heap.size OC 67 → w.grownBy w1 none → RP w1 B b d F G l bad ∧ ST w1 B bk lt T ps ps.length ∧ w1.cell? ⟨w.heap.size, 0, none⟩ = some (.int .i64 dv) ∧ w1.cell? ⟨w.heap.size, 3, none⟩ = some (.int .i64 wd)) := hid (fun w1 hb hg => ⟨HP.out.keep hg, HS.out.below (gbelow hg), (hb.cell 0).trans HO0.out, (hb.cell 3).trans HO3.out⟩)
  rcases (show dv = 1 ∨ dv = 2 ∨ dv = 3 ∨ dv = 4 ∨ dv = 5 ∨ dv = 6 ∨ (¬ dv = 1 ∧ ¬ dv = 2 ∧ ¬ dv = 3 ∧ ¬ dv = 4 ∧ ¬ dv = 5 ∧ ¬ dv = 6) by omega) with rfl | rfl | rfl | rfl | rfl | rfl | ⟨m1, m2, m3, m4, m5, m6⟩
  · as_aux_lemma =>
    obtain ⟨X, l1, e1, hC1, hC2⟩ : ∃ (X : Nat) (l1 : List UInt8) (e1 : Nat), (∀ u, Rr u b F l bad → Calls Tryz.prog 45 #[.pointer (some ⟨b, 0, none⟩), .int .i64 wd] u fun e w' => e = .returned (.int .u64 (X : Int)) ∧ Rr w' b F l1 e1 ∧ u.grownBy w' (some b)) ∧ (∀ u, Rv u d G l bad → Calls Tryz.prog 52 #[.pointer (some ⟨d, 0, none⟩), .int .i64 wd] u fun e w' => e = .returned (.int .u64 (X : Int)) ∧ Rv w' d G l1 e1 ∧ u.grownBy w' (some d)) := by
      by_cases hw : 1 ≤ wd ∧ wd ≤ 8
      · obtain ⟨k, rfl⟩ : ∃ k : Nat, wd = k := ⟨wd.toNat, by omega⟩
        exact ⟨_, _, _, fun u hu => rnum_ok u b F l bad k hu (by omega) (by omega), fun u hu => rvnum_ok u d G l bad k hu (by omega) (by omega)⟩
      · exact ⟨0, _, _, fun u hu => rnum_no u b F l bad wd hu hw, fun u hu => rvnum_no u d G l bad wd hu hw⟩
    have HC1 := hid hC1
    have HC2 := hid hC2
    clear hC1 hC2
    have HNE : Hid (b ≠ w.heap.size ∧ d ≠ w.heap.size) := hid ⟨by have := HP.out.bB; omega, by have := HP.out.dB; omega⟩
    go_enter Tryz.func16, Tryz.ntmps16
    go_wp2_with (first | ((with_reducible refine wpList_box_row (by with_unfolding_all rfl) 67 _ (by with_unfolding_all rfl) OC (by with_unfolding_all rfl) ?_); intro w1 B1 s1 g1; obtain ⟨hp1, hs1, x0, x3⟩ := BX.out w1 B1 g1; have HP1 := hid hp1; have HS1 := hid hs1; have HG1 := hid g1; have HB1 := hid B1; clear B1 s1 g1 hp1 hs1))
    have HX3 := hid x3
    go_region_held3 (fun u => u.cell? ⟨w.heap.size, 3, none⟩ = some (.int .i64 wd)) (first | assumption) (first
      | (go_at_call 45; refine (HC1.out _ (HP1.out.r.keep (gdrew1 _ _))).mono ?_; rintro e w2 ⟨rfl, hR2, hg2⟩; have HR2 := hid hR2; have HG2 := hid (gtrans (gdrew1 w1 (some b)) hg2); have HV2 := hid (HP1.out.v.on HG2.out (fun e => HP1.out.ne (by injection e)) (fun k hk => by injection hk with hk; rw [← hk]; exact HP1.out.gb)); have hS2 : w2.cell? ⟨w.heap.size, 3, none⟩ = some (.int .i64 wd) := (by rw [cell_at HG2.out HB1.out.lt (fun e => HNE.out.1 (by injection e))]; exact HX3.out); clear hR2 hg2)
      | (go_at_call 52; refine (HC2.out _ HV2.out).mono ?_; rintro e w3 ⟨rfl, hR3, hg3⟩; have HR3 := hid hR3; have HG3 := hid hg3; have hS3 : w3.cell? ⟨w.heap.size, 3, none⟩ = some (.int .i64 wd) := (by rw [cell_at HG3.out (Nat.lt_of_lt_of_le HB1.out.lt HG2.out.size) (fun e => HNE.out.2 (by injection e))]; exact hS2); clear hR3 hg3))
    all_goals
      go_wp2_with fail
      go_ret
      exact ⟨by simp, hid (after_two HP1.out HS1.out HG1.out hB HR2.out HG2.out HR3.out HG3.out)⟩
  · as_aux_lemma =>
    obtain ⟨X, hX⟩ : ∃ X : Int, u64i (numL (rt l bad 8)) = X := ⟨_, rfl⟩
    obtain ⟨l1, hl1⟩ : ∃ l1, rl l bad 8 = l1 := ⟨_, rfl⟩
    obtain ⟨e1, he1⟩ : ∃ e1, rb l bad 8 = e1 := ⟨_, rfl⟩
    have HC1 : Hid (∀ u, Rr u b F l bad → Calls Tryz.prog 53 #[.pointer (some ⟨b, 0, none⟩)] u fun e w' => e = .returned (.int .i64 X) ∧ Rr w' b F l1 e1 ∧ u.grownBy w' (some b)) := hid (fun u hu => by have := rint_any u b F l bad hu; rw [hX, hl1, he1] at this; exact this)
    have HC2 : Hid (∀ u, Rv u d G l bad → Calls Tryz.prog 54 #[.pointer (some ⟨d, 0, none⟩)] u fun e w' => e = .returned (.int .i64 X) ∧ Rv w' d G l1 e1 ∧ u.grownBy w' (some d)) := hid (fun u hu => by have := rvint_any u d G l bad hu; rw [hX, hl1, he1] at this; exact this)
    clear hX hl1 he1
    go_enter Tryz.func16, Tryz.ntmps16
    go_wp2_with (first | ((with_reducible refine wpList_box_row (by with_unfolding_all rfl) 67 _ (by with_unfolding_all rfl) OC (by with_unfolding_all rfl) ?_); intro w1 B1 s1 g1; obtain ⟨hp1, hs1, x0, x3⟩ := BX.out w1 B1 g1; have HP1 := hid hp1; have HS1 := hid hs1; have HG1 := hid g1; have HB1 := hid B1; clear B1 s1 g1 hp1 hs1))
    refine (HC1.out _ HP1.out.r).mono ?_
    rintro e w2 ⟨rfl, hR2, hg2⟩
    have HR2 := hid hR2
    have HG2 := hid hg2
    have HV2 := hid (HP1.out.v.on HG2.out (fun e => HP1.out.ne (by injection e)) (fun k hk => by injection hk with hk; rw [← hk]; exact HP1.out.gb))
    clear hR2 hg2
    go_wp2_with fail
    refine (HC2.out _ HV2.out).mono ?_
    rintro e w3 ⟨rfl, hR3, hg3⟩
    have HR3 := hid hR3
    have HG3 := hid hg3
    clear hR3 hg3
    go_wp2_with fail
    go_ret
    exact ⟨by simp, hid (after_two HP1.out HS1.out HG1.out hB HR2.out HG2.out HR3.out HG3.out)⟩
  · as_aux_lemma =>
    obtain ⟨X, hX⟩ : ∃ X : Bool, (numL (rt l (fb l bad) 1) == 1) = X := ⟨_, rfl⟩
    obtain ⟨l1, hl1⟩ : ∃ l1, rl l (fb l bad) 1 = l1 := ⟨_, rfl⟩
    obtain ⟨e1, he1⟩ : ∃ e1, rb l (fb l bad) 1 = e1 := ⟨_, rfl⟩
    have HC1 : Hid (∀ u, Rr u b F l bad → Calls Tryz.prog 55 #[.pointer (some ⟨b, 0, none⟩)] u fun e w' => e = .returned (.bool X) ∧ Rr w' b F l1 e1 ∧ u.grownBy w' (some b)) := hid (fun u hu => by have := rflag_any u b F l bad hu; rw [hX, hl1, he1] at this; exact this)
    have HC2 : Hid (∀ u, Rv u d G l bad → Calls Tryz.prog 56 #[.pointer (some ⟨d, 0, none⟩)] u fun e w' => e = .returned (.bool X) ∧ Rv w' d G l1 e1 ∧ u.grownBy w' (some d)) := hid (fun u hu => by have := rvflag_any u d G l bad hu; rw [hX, hl1, he1] at this; exact this)
    clear hX hl1 he1
    go_enter Tryz.func16, Tryz.ntmps16
    go_wp2_with (first | ((with_reducible refine wpList_box_row (by with_unfolding_all rfl) 67 _ (by with_unfolding_all rfl) OC (by with_unfolding_all rfl) ?_); intro w1 B1 s1 g1; obtain ⟨hp1, hs1, x0, x3⟩ := BX.out w1 B1 g1; have HP1 := hid hp1; have HS1 := hid hs1; have HG1 := hid g1; have HB1 := hid B1; clear B1 s1 g1 hp1 hs1))
    refine (HC1.out _ HP1.out.r).mono ?_
    rintro e w2 ⟨rfl, hR2, hg2⟩
    have HR2 := hid hR2
    have HG2 := hid hg2
    have HV2 := hid (HP1.out.v.on HG2.out (fun e => HP1.out.ne (by injection e)) (fun k hk => by injection hk with hk; rw [← hk]; exact HP1.out.gb))
    clear hR2 hg2
    go_wp2_with fail
    refine (HC2.out _ HV2.out).mono ?_
    rintro e w3 ⟨rfl, hR3, hg3⟩
    have HR3 := hid hR3
    have HG3 := hid hg3
    clear hR3 hg3
    go_wp2_with fail
    go_ret
    exact ⟨by simp, hid (after_two HP1.out HS1.out HG1.out hB HR2.out HG2.out HR3.out HG3.out)⟩
  · as_aux_lemma =>
    have HC1 := hid (fun u (hu : Rr u b F l bad) => rbytes_any u b F l bad hu)
    have HC2 := hid (fun u (hu : Rv u d G l bad) => rvbytes_any u d G l bad hu)
    have HXL : Hid ((rowT l bad).length ≤ 2097152) := hid (by have := rowT_length l bad; omega)
    obtain ⟨X, hX⟩ : ∃ X, rowT l bad = X := ⟨_, rfl⟩
    obtain ⟨l1, hl1⟩ : ∃ l1, rowL l bad = l1 := ⟨_, rfl⟩
    obtain ⟨e1, he1⟩ : ∃ e1, rowE l bad = e1 := ⟨_, rfl⟩
    rw [hX] at HC1 HC2 HXL
    rw [hl1, he1] at HC1 HC2
    clear hX hl1 he1
    go_enter Tryz.func16, Tryz.ntmps16
    go_wp2_with (first | ((with_reducible refine wpList_box_row (by with_unfolding_all rfl) 67 _ (by with_unfolding_all rfl) OC (by with_unfolding_all rfl) ?_); intro w1 B1 s1 g1; obtain ⟨hp1, hs1, x0, x3⟩ := BX.out w1 B1 g1; have HP1 := hid hp1; have HS1 := hid hs1; have HG1 := hid g1; have HB1 := hid B1; clear B1 s1 g1 hp1 hs1))
    refine (HC1.out _ HP1.out.r).mono ?_
    rintro e w2 ⟨g, rfl, hO2, hR2, hg2⟩
    have HR2 := hid hR2
    have HG2 := hid hg2
    have HV2 := hid (HP1.out.v.on HG2.out (fun e => HP1.out.ne (by injection e)) (fun k hk => by injection hk with hk; rw [← hk]; exact HP1.out.gb))
    have HS2 : Hid (ST w2 B bk lt T (ps ++ [(g, X)]) ps.length) := hid (by
      obtain ⟨cs, hb⟩ := Rr.block HP1.out.r
      obtain ⟨wm, hSm, hbm, hsm⟩ := HS1.out.read hb (.inl rfl) hg2
      exact ST.item hSm hbm (by rw [hsm]; exact hO2) HXL.out)
    clear hR2 hg2 hO2
    go_wp2_with fail
    refine (HC2.out _ HV2.out).mono ?_
    rintro e w3 ⟨y, rfl, hO3, hR3, hg3⟩
    have HR3 := hid hR3
    have HG3 := hid hg3
    have HS3 : Hid (ST w3 B bk lt T (ps ++ [(g, X)]) ps.length) := hid (by
      obtain ⟨cs, hb⟩ := Rv.block HV2.out
      obtain ⟨wm, hSm, hbm, hsm⟩ := HS2.out.read hb (.inr rfl) hg3
      exact hSm.below hbm)
    have HY3 : Hid (Rd5 w3 y X) := hid (own_rd5 (out_own hO3))
    have HK3 := hid (((KB.new (b := b) (d := d) HG1.out hB).trans (KB.one HG2.out HS1.out.base)).trans (KB.two HG3.out HS2.out.base))
    have HP3 := hid (HP1.out.next HR3.out HR2.out HG3.out)
    have HAd := hid (ST.add HS3.out (p := (g, X)) (by simp) HY3.out hn)
    clear hR3 hg3 hO3
    go_wp2_with fail
    refine (HAd.out).mono ?_
    rintro e w4 ⟨rfl, hS4, hb4, hs4⟩
    have HS4 := hid hS4
    have HP4 := hid (HP3.out.bel hb4)
    have HK4 := hid (HK3.out.trans (KB.bel hb4))
    have k1 := (own_rd5 (hS4.own (p := (g, X)) (by simp))).convert
    have k2 := (HY3.out.same hs4 hb4.size).convert
    clear hS4 hb4 hs4
    go_wp2_with fail
    go_ret
    exact ⟨by simp, hid ⟨l1, e1, ps ++ [(g, X)], HP4.out, by have := HS4.out; simpa using this, by simp, HK4.out⟩⟩
  · as_aux_lemma =>
    obtain ⟨X, hX⟩ : ∃ X : ByteArray, str (rowT l bad) = X := ⟨_, rfl⟩
    obtain ⟨l1, hl1⟩ : ∃ l1, rowL l bad = l1 := ⟨_, rfl⟩
    obtain ⟨e1, he1⟩ : ∃ e1, rowE l bad = e1 := ⟨_, rfl⟩
    have HC1 : Hid (∀ u, Rr u b F l bad → Calls Tryz.prog 46 #[.pointer (some ⟨b, 0, none⟩)] u fun e w' => e = .returned (.string X) ∧ Rr w' b F l1 e1 ∧ u.grownBy w' (some b)) := hid (fun u hu => by have := rtext_any u b F l bad hu; rw [hX, hl1, he1] at this; exact this)
    have HC2 : Hid (∀ u, Rv u d G l bad → Calls Tryz.prog 59 #[.pointer (some ⟨d, 0, none⟩)] u fun e w' => e = .returned (.string X) ∧ Rv w' d G l1 e1 ∧ u.grownBy w' (some d)) := hid (fun u hu => by have := rvtext_any u d G l bad hu; rw [hX, hl1, he1] at this; exact this)
    clear hX hl1 he1
    go_enter Tryz.func16, Tryz.ntmps16
    go_wp2_with (first | ((with_reducible refine wpList_box_row (by with_unfolding_all rfl) 67 _ (by with_unfolding_all rfl) OC (by with_unfolding_all rfl) ?_); intro w1 B1 s1 g1; obtain ⟨hp1, hs1, x0, x3⟩ := BX.out w1 B1 g1; have HP1 := hid hp1; have HS1 := hid hs1; have HG1 := hid g1; have HB1 := hid B1; clear B1 s1 g1 hp1 hs1))
    refine (HC1.out _ HP1.out.r).mono ?_
    rintro e w2 ⟨rfl, hR2, hg2⟩
    have HR2 := hid hR2
    have HG2 := hid hg2
    have HV2 := hid (HP1.out.v.on HG2.out (fun e => HP1.out.ne (by injection e)) (fun k hk => by injection hk with hk; rw [← hk]; exact HP1.out.gb))
    clear hR2 hg2
    go_wp2_with fail
    refine (HC2.out _ HV2.out).mono ?_
    rintro e w3 ⟨rfl, hR3, hg3⟩
    have HR3 := hid hR3
    have HG3 := hid hg3
    clear hR3 hg3
    go_wp2_with fail
    go_ret
    exact ⟨by simp, hid (after_two HP1.out HS1.out HG1.out hB HR2.out HG2.out HR3.out HG3.out)⟩
  · as_aux_lemma =>
    have hl16 : (idL (rt l bad 16)).length = 16 := idL_length _ (rt_length l bad 16).1
    obtain ⟨X, hX⟩ : ∃ X : List UInt8, idL (rt l bad 16) = X := ⟨_, rfl⟩
    obtain ⟨l1, hl1⟩ : ∃ l1, rl l bad 16 = l1 := ⟨_, rfl⟩
    obtain ⟨e1, he1⟩ : ∃ e1, rb l bad 16 = e1 := ⟨_, rfl⟩
    have HC1 : Hid (∀ u, Rr u b F l bad → Calls Tryz.prog 60 #[.pointer (some ⟨b, 0, none⟩)] u fun e w' => e = .returned (.agg (Lib.byteCells X).toArray) ∧ Rr w' b F l1 e1 ∧ u.grownBy w' (some b)) := hid (fun u hu => by have := rid_any u b F l bad hu; rw [hX, hl1, he1] at this; exact this)
    have HC2 : Hid (∀ u, Rv u d G l bad → Calls Tryz.prog 61 #[.pointer (some ⟨d, 0, none⟩)] u fun e w' => e = .returned (.agg (Lib.byteCells X).toArray) ∧ Rv w' d G l1 e1 ∧ u.grownBy w' (some d)) := hid (fun u hu => by have := rvid_any u d G l bad hu; rw [hX, hl1, he1] at this; exact this)
    rw [hX] at hl16
    have HEq := hid (fun p q u => eql65 X hl16 (p := p) (q := q) u)
    clear hX hl1 he1 hl16
    go_enter Tryz.func16, Tryz.ntmps16
    go_wp2_with (first | ((with_reducible refine wpList_box_row (by with_unfolding_all rfl) 67 _ (by with_unfolding_all rfl) OC (by with_unfolding_all rfl) ?_); intro w1 B1 s1 g1; obtain ⟨hp1, hs1, x0, x3⟩ := BX.out w1 B1 g1; have HP1 := hid hp1; have HS1 := hid hs1; have HG1 := hid g1; have HB1 := hid B1; clear B1 s1 g1 hp1 hs1))
    refine (HC1.out _ HP1.out.r).mono ?_
    rintro e w2 ⟨rfl, hR2, hg2⟩
    have HR2 := hid hR2
    have HG2 := hid hg2
    have HV2 := hid (HP1.out.v.on HG2.out (fun e => HP1.out.ne (by injection e)) (fun k hk => by injection hk with hk; rw [← hk]; exact HP1.out.gb))
    clear hR2 hg2
    go_wp2_with fail
    refine (HC2.out _ HV2.out).mono ?_
    rintro e w3 ⟨rfl, hR3, hg3⟩
    have HR3 := hid hR3
    have HG3 := hid hg3
    clear hR3 hg3
    go_wp2_with (first | (with_reducible refine wpList_bin' (by with_unfolding_all rfl) .eql 65 _ _ 65 (by with_unfolding_all rfl) _ _ (.bool true) (by with_unfolding_all rfl) (by with_unfolding_all rfl) (HEq.out _ _ _) ?_))
    go_ret
    exact ⟨rfl, hid (after_two HP1.out HS1.out HG1.out hB HR2.out HG2.out HR3.out HG3.out)⟩
  · as_aux_lemma =>
    go_enter Tryz.func16, Tryz.ntmps16
    go_wp2_with (first | ((with_reducible refine wpList_box_row (by with_unfolding_all rfl) 67 _ (by with_unfolding_all rfl) OC (by with_unfolding_all rfl) ?_); intro w1 B1 s1 g1; obtain ⟨hp1, hs1, x0, x3⟩ := BX.out w1 B1 g1; have HP1 := hid hp1; have HS1 := hid hs1; have HG1 := hid g1; have HB1 := hid B1; clear B1 s1 g1 hp1 hs1))
    go_ret
    exact ⟨rfl, hid ⟨l, bad, ps, HP1.out, HS1.out, by omega, KB.new HG1.out hB⟩⟩
end Go.Proofs.YtfalgjdhdgkbfaaGreatDoor.Bk

namespace Go.Proofs.YtfalgjdhdgkbfaaGreatDoor.Bk
open Go Go.RowKit
open Go.RowKit (wrap32 wrap64)

theorem ST.front {w : World} {B bk lt T n : Nat} {ps qs : List Item} {x : Item} (h : ST w B bk lt T (ps ++ qs ++ [x]) n) (hn : n ≤ ps.length) (hq : qs.length ≤ 1) : ST w B bk lt T (ps ++ [x] ++ qs) n := by
  match qs, hq, h with
  | [], _, h => rw [List.append_nil] at h ⊢; exact h
  | [y], _, h =>
    rw [List.append_assoc] at h ⊢
    exact ST.swap h hn
theorem front_at (ps qs : List Item) (x : Item) : (ps ++ [x] ++ qs)[ps.length]? = some x := by
  rw [List.append_assoc, List.getElem?_append_right (Nat.le_refl _), Nat.sub_self]
  rfl

set_option maxRecDepth 100000 in
set_option maxHeartbeats 2000000 in
theorem framed2_any (w : World) (B bk lt T : Nat) (ps qs : List Item) (hq : qs.length ≤ 1) (l : List UInt8) (v b : Value) (h : ST w B bk lt T (ps ++ qs) ps.length) (hv : ∀ u, Below B w u → Same 5 w u → Rd u v l) (hb : ∀ u, Below B w u → Same 5 w u → Rd u b l) (hT : ∀ u, Below B w u → Tab u) (hB : B ≤ w.heap.size) (hl : l.length ≤ 2097139) (hn : ps.length ≤ 8388607) :
    Calls Tryz.prog 22 #[v, b, .pointer (some ⟨lt, 0, none⟩)] w fun e w' => e = .returned (.bool true) ∧ Hid (∃ g, ST w' B bk lt T (ps ++ [(g, frameL l)] ++ qs) (ps ++ [(g, frameL l)]).length ∧ Below B w w' ∧ Same 5 w w') := by
  have HF1 := hid (frame_ok l _ v w (by omega) (hv w (Below.refl _ _) (Same.refl _ _)).up (hT w (Below.refl _ _)))
  have HF2 : Hid (∀ u, Below B w u → Same 5 w u → Calls Tryz.prog 62 #[b] u fun e w' => ∃ v', e = .returned (.tuple #[v', .int .i64 0]) ∧ Out u.heap.size w' v' (frameL l) ∧ u.grownBy w' none) := hid (fun u h1 h2 => frameR_ok l _ b u (by omega) (hb u h1 h2).up)
  have HS1 : Hid (∀ u, Below B w u → Same 5 w u → Calls Tryz.prog 63 #[v] u fun e w' => e = .returned (.int .u32 (sumL l)) ∧ w' = u) := hid (fun u h1 h2 => sum_any l _ v u (by omega) (hv u h1 h2).up (hT u h1))
  have HS2 : Hid (∀ u, Below B w u → Same 5 w u → Calls Tryz.prog 64 #[b] u fun e w' => e = .returned (.int .u32 (sumL l)) ∧ w' = u) := hid (fun u h1 h2 => sumR_any l _ b u (by omega) (hb u h1 h2).up)
  have hfl : (frameL l).length ≤ 2097152 := by rw [frameL_length]; omega
  have HFL := hid hfl
  have HST := hid h
  have HQ := hid hq
  have HB0 := hid hB
  have HNn := hid hn
  obtain ⟨fl, HFl⟩ : ∃ z, Hid (frameL l = z) := ⟨_, hid rfl⟩
  obtain ⟨S, HSm⟩ : ∃ z : Nat, Hid (sumL l = z) := ⟨_, hid rfl⟩
  obtain ⟨s, HSs⟩ : ∃ z : ByteArray, Hid ((⟨fl.toArray⟩ : ByteArray) = z) := ⟨_, hid rfl⟩
  rw [HFl.out] at HF1 HF2 HFL ⊢
  rw [HSm.out] at HS1 HS2
  clear h hq hv hb hT hB hl hn hfl
  go_enter Tryz.func22, Tryz.ntmps22
  go_wp2_with (first
    | (go_at_call 47; (with_reducible refine HF1.out.mono ?_); rintro e w1 ⟨v1, rfl, hO1, hg1⟩; have HO1 := hid hO1; have HL1 := hid (gbelow hg1); have HB1 : Hid (Below B w w1) := hid ((gbelow hg1).mono HB0.out); have HM1 : Hid (Same 5 w w1) := hid (Same.below (gbelow hg1)); clear hO1 hg1)
    | (go_at_call 62; (refine (HF2.out w1 HB1.out HM1.out).mono ?_); rintro e w2 ⟨v2, rfl, hO2, hg2⟩; have HO2 := hid hO2; have HO1' := hid (HO1.out.keep hg2); have HL2 := hid (gbelow hg2); have HB2 : Hid (Below B w w2) := hid (HB1.out.trans ((gbelow hg2).mono (Nat.le_trans HB0.out HL1.out.size))); have HM2 : Hid (Same 5 w w2) := hid (HM1.out.trans (Same.below (gbelow hg2))); clear hO2 hg2)
    | (go_at_call 40; (refine ((((HST.out.item HL1.out (out_own HO1.out) HFL.out).front (Nat.le_refl _) HQ.out).below HL2.out).add (p := (v1, fl)) (front_at ps qs (v1, fl)) (own_rd5 (out_own HO2.out)) HNn.out).mono ?_); rintro e w3 ⟨rfl, hST3, hb3, hs3⟩; have HST3 : Hid (ST w3 B bk lt T (ps ++ [(v1, fl)] ++ qs) (ps ++ [(v1, fl)]).length) := hid (by rw [List.length_append]; exact hST3); have HB3 : Hid (Below B w w3) := hid (HB2.out.trans hb3); have HM3 : Hid (Same 5 w w3) := hid (HM2.out.trans hs3); have k1 : (convert 28 9 v1).run Tryz.prog w3 = .ok (.string s) w3 := (by rw [← HSs.out]; exact (Rd.own (own_same (out_own HO1'.out) hs3)).convert); have k2 : (convert 28 9 v2).run Tryz.prog w3 = .ok (.string s) w3 := (by rw [← HSs.out]; exact (Rd.own (own_same (out_own HO2.out) hs3)).convert); clear hST3 hb3 hs3)
    | (go_at_call 19; (with_reducible refine (num19_any _ _).mono ?_); rintro e w4 ⟨rfl, hw⟩; have hw' := hw.symm; clear hw; subst hw')
    | (go_at_call 63; (refine (HS1.out _ HB3.out HM3.out).mono ?_); rintro e w4 ⟨rfl, hw⟩; have hw' := hw.symm; clear hw; subst hw')
    | (go_at_call 64; (refine (HS2.out _ HB3.out HM3.out).mono ?_); rintro e w4 ⟨rfl, hw⟩; have hw' := hw.symm; clear hw; subst hw'))
  go_ret
  exact ⟨rfl, hid ⟨v1, HST3.out, HB3.out, HM3.out⟩⟩

set_option maxRecDepth 100000 in
set_option maxHeartbeats 2000000 in
theorem unframed2_any (w : World) (B bk lt T : Nat) (ps qs : List Item) (hq : qs.length ≤ 1) (l : List UInt8) (v b : Value) (h : ST w B bk lt T (ps ++ qs) ps.length) (hv : ∀ u, Below B w u → Same 5 w u → Rd u v l) (hb : ∀ u, Below B w u → Same 5 w u → Rd u b l) (hT : ∀ u, Below B w u → Tab u) (hB : B ≤ w.heap.size) (hl : l.length ≤ 2097152) (hn : ps.length ≤ 8388607) :
    Calls Tryz.prog 25 #[v, b, .pointer (some ⟨lt, 0, none⟩)] w fun e w' => e = .returned (.bool true) ∧ Hid (∃ g, ST w' B bk lt T (ps ++ [(g, unfB l)] ++ qs) (ps ++ [(g, unfB l)]).length ∧ Below B w w' ∧ Same 5 w w') := by
  have HF1 := hid (unframe_any l _ v w (by omega) (hv w (Below.refl _ _) (Same.refl _ _)).up (hT w (Below.refl _ _)))
  have HF2 : Hid (∀ u, Below B w u → Same 5 w u → Calls Tryz.prog 65 #[b] u fun e w' => ∃ v', e = .returned (.tuple #[v', .int .i64 (if unfrE l = 0 then ((Go.Proofs.YtfalgjdhdgkbfaaGreatDoor.cnt l + 13 : Nat) : Int) else 0), .int .i64 (unfrE l)]) ∧ Out u.heap.size w' v' (unfB l) ∧ u.grownBy w' none) := hid (fun u h1 h2 => unframeR_any l _ b u (by omega) (hb u h1 h2).up)
  have HFL : Hid ((unfB l).length ≤ 2097152) := hid (Nat.le_trans (unfB_length l) hl)
  have HST := hid h
  have HQ := hid hq
  have HB0 := hid hB
  have HNn := hid hn
  obtain ⟨fl, HFl⟩ : ∃ z, Hid (unfB l = z) := ⟨_, hid rfl⟩
  obtain ⟨E, HE⟩ : ∃ z : Int, Hid ((unfrE l : Int) = z) := ⟨_, hid rfl⟩
  obtain ⟨N, HN⟩ : ∃ z : Int, Hid ((if unfrE l = 0 then ((Go.Proofs.YtfalgjdhdgkbfaaGreatDoor.cnt l + 13 : Nat) : Int) else 0) = z) := ⟨_, hid rfl⟩
  obtain ⟨s, HSs⟩ : ∃ z : ByteArray, Hid ((⟨fl.toArray⟩ : ByteArray) = z) := ⟨_, hid rfl⟩
  rw [HFl.out] at HF1 HF2 HFL ⊢
  rw [HN.out, HE.out] at HF1 HF2
  clear h hq hv hb hT hB hl hn HN HE
  go_enter Tryz.func25, Tryz.ntmps25
  go_wp2_with (first
    | (go_at_call 48; (with_reducible refine HF1.out.mono ?_); rintro e w1 ⟨v1, rfl, hO1, hg1⟩; have HO1 := hid hO1; have HL1 := hid (gbelow hg1); have HB1 : Hid (Below B w w1) := hid ((gbelow hg1).mono HB0.out); have HM1 : Hid (Same 5 w w1) := hid (Same.below (gbelow hg1)); clear hO1 hg1)
    | (go_at_call 65; (refine (HF2.out w1 HB1.out HM1.out).mono ?_); rintro e w2 ⟨v2, rfl, hO2, hg2⟩; have HO2 := hid hO2; have HO1' := hid (HO1.out.keep hg2); have HL2 := hid (gbelow hg2); have HB2 : Hid (Below B w w2) := hid (HB1.out.trans ((gbelow hg2).mono (Nat.le_trans HB0.out HL1.out.size))); have HM2 : Hid (Same 5 w w2) := hid (HM1.out.trans (Same.below (gbelow hg2))); clear hO2 hg2)
    | (go_at_call 40; (refine ((((HST.out.item HL1.out (out_own HO1.out) HFL.out).front (Nat.le_refl _) HQ.out).below HL2.out).add (p := (v1, fl)) (front_at ps qs (v1, fl)) (own_rd5 (out_own HO2.out)) HNn.out).mono ?_); rintro e w3 ⟨rfl, hST3, hb3, hs3⟩; have HST3 : Hid (ST w3 B bk lt T (ps ++ [(v1, fl)] ++ qs) (ps ++ [(v1, fl)]).length) := hid (by rw [List.length_append]; exact hST3); have HB3 : Hid (Below B w w3) := hid (HB2.out.trans hb3); have HM3 : Hid (Same 5 w w3) := hid (HM2.out.trans hs3); have k1 : (convert 28 9 v1).run Tryz.prog w3 = .ok (.string s) w3 := (by rw [← HSs.out]; exact (Rd.own (own_same (out_own HO1'.out) hs3)).convert); have k2 : (convert 28 9 v2).run Tryz.prog w3 = .ok (.string s) w3 := (by rw [← HSs.out]; exact (Rd.own (own_same (out_own HO2.out) hs3)).convert); clear hST3 hb3 hs3)
    | (go_at_call 19; (with_reducible refine (num19_any _ _).mono ?_); rintro e w4 ⟨rfl, hw⟩; have hw' := hw.symm; clear hw; subst hw'))
  go_ret
  exact ⟨rfl, hid ⟨v1, HST3.out, HB3.out, HM3.out⟩⟩
end Go.Proofs.YtfalgjdhdgkbfaaGreatDoor.Bk
