/- Whole rows. -/
import Derived.Test.YtfalgjdhdgkbfaaGreatDoorX12
import Derived.Deep.MidRow
import Derived.Deep.WholeRow
import Derived.Deep.Cut
namespace Go.Proofs.YtfalgjdhdgkbfaaGreatDoor
open Go Go.RowKit
open Go.RowKit (wrap32 wrap64)

/-- Block b is a row of cells cs. -/
def Blk (w : World) (b : Nat) (cs : List Value) (t : TypeId) : Prop := w.heap[b]? = some (.cells cs.toArray t (0, 0))
theorem Blk.lt {w : World} {b : Nat} {cs : List Value} {t : TypeId} (h : Blk w b cs t) : b < w.heap.size := (Array.getElem?_eq_some_iff.1 h).1
theorem Blk.on {w w' : World} {b : Nat} {cs : List Value} {t : TypeId} {row : Option Nat} (h : Blk w b cs t) (hg : w.grownBy w' row) (hr : row ≠ some b) : Blk w' b cs t := heap_at hg hr h
theorem Blk.keep {w w' : World} {b : Nat} {cs : List Value} {t : TypeId} (h : Blk w b cs t) (hg : w.grownBy w' none) : Blk w' b cs t := h.on hg (by simp)
theorem Blk.cell {w : World} {b : Nat} {cs : List Value} {t : TypeId} (h : Blk w b cs t) (i : Nat) : w.cell? ⟨b, i, none⟩ = cs[i]? := by
  rw [cell_of_row w b i cs.toArray t (0, 0) h]
  simp
theorem Blk.cellD {w : World} {b : Nat} {cs : List Value} {t : TypeId} (h : Blk w b cs t) (i : Nat) (hi : i < cs.length) : w.cell? ⟨b, i, none⟩ = some (cs.getD i undef) := by
  rw [h.cell i, List.getD_eq_getElem?_getD, List.getElem?_eq_getElem hi]
  rfl
theorem Blk.frozen {w : World} {b : Nat} {cs : List Value} {t : TypeId} (h : Blk w b cs t) (i : Nat) : w.frozen? ⟨b, i, none⟩ = false := frozen_of_row w b i cs.toArray t h
theorem Blk.range {w : World} {b : Nat} {cs : List Value} {t : TypeId} (h : Blk w b cs t) (A B C : List Value) (o : Nat) (e : cs = A ++ (B ++ C)) (ho : A.length = o) : w.rangeAt b o B := fun j v hv => by
  have hj : j < B.length := (List.getElem?_eq_some_iff.1 hv).1
  rw [h.cell, e, ← ho, List.getElem?_append_right (by omega), show A.length + j - A.length = j by omega, List.getElem?_append_left hj]
  exact hv
theorem Blk.whole {w : World} {b : Nat} {cs : List Value} {t : TypeId} (h : Blk w b cs t) : w.rangeAt b 0 cs := h.range [] cs [] 0 (by simp) rfl
theorem Blk.set {w : World} {b : Nat} {cs : List Value} {t : TypeId} (h : Blk w b cs t) (i : Nat) (v : Value) : Blk (w.setCell ⟨b, i, none⟩ v) b (cs.set i v) t := by
  unfold Blk
  rw [heap_setCell_same w b i cs.toArray t v h]
  simp
theorem Blk.new (w : World) (cs : List Value) (t : TypeId) : Blk (w.alloc (.cells cs.toArray t)) w.heap.size cs t := heap_new w _ _
theorem splice_mid (A B C B' : List Value) (o : Nat) (ho : A.length = o) (hB : B'.length = B.length) : splice (A ++ (B ++ C)) o B' = A ++ (B' ++ C) := by
  unfold splice
  rw [← ho, hB, List.take_left, ← List.drop_drop, List.drop_left, List.drop_left]
theorem Blk.agree {w : World} {b : Nat} {cs cs' : List Value} {t t' : TypeId} (h : Blk w b cs t) (h' : Blk w b cs' t') : cs = cs' ∧ t = t' := by
  unfold Blk at h h'
  rw [h] at h'
  injection h' with e
  injection e with e1 e2
  exact ⟨by simpa using e1, e2⟩
theorem grow_setRow (w : World) (b : Nat) (cs : Array Value) : w.grownBy (w.setRow b cs) (some b) :=
  ⟨rfl, rfl, rfl, by simp [World.setRow], fun k _ hk => setRow_other w b k cs (fun e => hk (by rw [e]))⟩

section
variable {P : Program} {ops : Array Oper} {rest : List Oper} {o : Oper} {a : Act} {w : World} {Q : Exit → Act → World → Prop} {K : Act → World → Prop}

theorem wp_alloc_row (t : TypeId) (ho : o.op = .alloc t) (z : List Value) (hz : (P.info? t).map (fun i => i.zero) = some (some (.agg z.toArray)))
    (h : ∀ w', Blk w' w.heap.size z t → w'.heap.size = w.heap.size + 1 → w.grownBy w' none → K (a.put o.dst (.pointer (some ⟨w.heap.size, 0, none⟩))) w') : o.wp P a w K Q := by
  cases hq : P.info? t with
  | none => simp [hq] at hz
  | some i =>
    have hs : i.zero = some (.agg z.toArray) := by simpa [hq] using hz
    unfold Oper.wp execOp
    simp [ho, Instr.alloc, zeroValue, typeInfo, hq, hs, newVar, newRow, Value.cells]
    exact h _ (Blk.new w z t) (by simp) (galloc _ _ _)
theorem wpList_alloc_row (hgd : o.guard = none) (t : TypeId) (ho : o.op = .alloc t) (z : List Value) (hz : (P.info? t).map (fun i => i.zero) = some (some (.agg z.toArray)))
    (h : ∀ w', Blk w' w.heap.size z t → w'.heap.size = w.heap.size + 1 → w.grownBy w' none → wpList P ops Q rest (a.put o.dst (.pointer (some ⟨w.heap.size, 0, none⟩))) w') : wpList P ops Q (o :: rest) a w :=
  wpList_plain hgd fun _ hK => wp_alloc_row t ho z hz (fun w' h1 h2 h3 => hK _ _ (h w' h1 h2 h3))
theorem wp_box_row (t : TypeId) (x : Operand) (ho : o.op = .box t x) (cs : List Value) (hx : a.eval x = .agg cs.toArray)
    (h : ∀ w', Blk w' w.heap.size cs t → w'.heap.size = w.heap.size + 1 → w.grownBy w' none → K (a.put o.dst (.pointer (some ⟨w.heap.size, 0, none⟩))) w') : o.wp P a w K Q := by
  unfold Oper.wp execOp
  simp [ho, hx, Instr.box, newVar, newRow, Value.cells]
  exact h _ (Blk.new w cs t) (by simp) (galloc _ _ _)
theorem wpList_box_row (hgd : o.guard = none) (t : TypeId) (x : Operand) (ho : o.op = .box t x) (cs : List Value) (hx : a.eval x = .agg cs.toArray)
    (h : ∀ w', Blk w' w.heap.size cs t → w'.heap.size = w.heap.size + 1 → w.grownBy w' none → wpList P ops Q rest (a.put o.dst (.pointer (some ⟨w.heap.size, 0, none⟩))) w') : wpList P ops Q (o :: rest) a w :=
  wpList_plain hgd fun _ hK => wp_box_row t x ho cs hx (fun w' h1 h2 h3 => hK _ _ (h w' h1 h2 h3))
theorem wpList_build_row (hgd : o.guard = none) (t : TypeId) (ho : o.op = .build t #[]) (z : List Value) (hz : P.built t [] = some z.toArray)
    (h : wpList P ops Q rest (a.put o.dst (.agg z.toArray)) w) : wpList P ops Q (o :: rest) a w := by
  have e0 : ((#[] : Array (Nat × Operand)).map fun (i, x) => (i, a.eval x)).toList = [] := by simp
  have e : P.built t ((#[] : Array (Nat × Operand)).map fun (i, x) => (i, a.eval x)).toList = some z.toArray := by rw [e0]; exact hz
  refine wpList_build hgd t #[] ho (by rw [e]; rfl) ?_
  rw [e]
  exact h
theorem run_store_part (ty : TypeId) (b off : Nat) (cs vs : List Value) (t : TypeId) (hb : Blk w b cs t) (hfit : off + vs.length ≤ cs.length) (hi : (P.info? ty).map (·.size) = some vs.length) (h1 : ∀ v ∈ vs, v.oneCell' = true) :
    (storeVar ty ⟨b, off, none⟩ (.agg vs.toArray)).run P w = .ok () (w.setRow b (splice cs off vs).toArray) := by
  have := run_storeCells_at P b off t vs 0 cs.toArray w hb (by simpa using hfit) h1
  cases hq : P.info? ty with
  | none => simp [hq] at hi
  | some i =>
    have hs : i.size = vs.length := by simpa [hq] using hi
    simp [storeVar, sizeOf, typeInfo, hq, Value.cells, hs, this, splice]
theorem wp_store_part (ty : TypeId) (x y : Operand) (ho : o.op = .store ty x y) (b off : Nat) (cs vs : List Value) (t : TypeId) (hx : a.eval x = .pointer (some ⟨b, off, none⟩)) (hy : a.eval y = .agg vs.toArray)
    (hb : Blk w b cs t) (hfit : off + vs.length ≤ cs.length) (hi : (P.info? ty).map (·.size) = some vs.length) (h1 : ∀ v ∈ vs, v.oneCell' = true)
    (h : ∀ w', Blk w' b (splice cs off vs) t → w.grownBy w' (some b) → w'.heap.size = w.heap.size → K (a.put o.dst undef) w') : o.wp P a w K Q := by
  unfold Oper.wp execOp
  simp only [ho, hx, hy, Instr.storeAt, Instr.sureAddr, Sem.run_bind, Sem.run_pure, Result.andThen_ok, run_store_part ty b off cs vs t hb hfit hi h1]
  exact h _ (setRow_heap w b _ _ t _ hb) (grow_setRow _ _ _) (by simp)
theorem wpList_store_part (hgd : o.guard = none) (ty : TypeId) (x y : Operand) (ho : o.op = .store ty x y) (b off : Nat) (cs vs : List Value) (t : TypeId) (hx : a.eval x = .pointer (some ⟨b, off, none⟩)) (hy : a.eval y = .agg vs.toArray)
    (hb : Blk w b cs t) (hfit : off + vs.length ≤ cs.length) (hi : (P.info? ty).map (·.size) = some vs.length) (h1 : ∀ v ∈ vs, v.oneCell' = true)
    (h : ∀ w', Blk w' b (splice cs off vs) t → w.grownBy w' (some b) → w'.heap.size = w.heap.size → wpList P ops Q rest (a.put o.dst undef) w') : wpList P ops Q (o :: rest) a w :=
  wpList_plain hgd fun _ hK => wp_store_part ty x y ho b off cs vs t hx hy hb hfit hi h1 (fun w' h1 h2 h3 => hK _ _ (h w' h1 h2 h3))
/-- the same in a region that draws its order. -/
theorem step_store_part {E : Prop} (hgd : o.guard = none) (ty : TypeId) (x y : Operand) (ho : o.op = .store ty x y) (b off : Nat) (cs vs : List Value) (t : TypeId) (hx : a.eval x = .pointer (some ⟨b, off, none⟩)) (hy : a.eval y = .agg vs.toArray)
    (hb : Blk w b cs t) (hfit : off + vs.length ≤ cs.length) (hi : (P.info? ty).map (·.size) = some vs.length) (h1 : ∀ v ∈ vs, v.oneCell' = true)
    (h : ∀ w', Blk w' b (splice cs off vs) t → w.grownBy w' (some b) → w'.heap.size = w.heap.size → K (a.put o.dst undef) w') : if Region.wanted o (yielded ops a.tmps) = true then Oper.wp P o a w K Q else E := by
  have hw : Region.wanted o (yielded ops a.tmps) = true := by simp [Region.wanted, hgd]
  rw [if_pos hw]
  exact wp_store_part ty x y ho b off cs vs t hx hy hb hfit hi h1 h
/-- a whole row. -/
theorem wpList_store_all (hgd : o.guard = none) (ty : TypeId) (x y : Operand) (ho : o.op = .store ty x y) (b : Nat) (cs vs : List Value) (t : TypeId) (hx : a.eval x = .pointer (some ⟨b, 0, none⟩)) (hy : a.eval y = .agg vs.toArray)
    (hb : Blk w b cs t) (hfit : vs.length = cs.length) (hi : (P.info? ty).map (·.size) = some vs.length) (h1 : ∀ v ∈ vs, v.oneCell' = true)
    (h : ∀ w', Blk w' b vs t → w.grownBy w' (some b) → w'.heap.size = w.heap.size → wpList P ops Q rest (a.put o.dst undef) w') : wpList P ops Q (o :: rest) a w := by
  refine wpList_store_part hgd ty x y ho b 0 cs vs t hx hy hb (by omega) hi h1 (fun w' h1 h2 h3 => h w' ?_ h2 h3)
  have e : splice cs 0 vs = vs := by unfold splice; rw [List.take_zero, List.nil_append, Nat.zero_add, hfit, List.drop_length, List.append_nil]
  rw [e] at h1
  exact h1
theorem wpList_load_part (hgd : o.guard = none) (ty : TypeId) (x : Operand) (ho : o.op = .load ty x) (b off : Nat) (vs : List Value) (d : TypeDesc) (hx : a.eval x = .pointer (some ⟨b, off, none⟩)) (hc : w.rangeAt b off vs)
    (hu : P.underlying ty = some d) (hd : d.isRow = true) (hi : (P.info? ty).map (·.size) = some vs.length)
    (h : wpList P ops Q rest (a.put o.dst (.agg vs.toArray)) w) : wpList P ops Q (o :: rest) a w :=
  wpList_load_mid hgd ty x ho b off hx vs d hc hu hd hi h
/-- a result that lies in a row. -/
theorem results_blk {fn : Func} {p : Tmp} {ty : TypeId} (h : fn.results = #[.cell p ty]) (tmps : Array Value) (b : Nat) (t : TypeId) (cs : List Value) (d : TypeDesc)
    (hp : tmps.getD p undef = .pointer (some ⟨b, 0, none⟩)) (hb : Blk w b cs t) (hu : P.underlying ty = some d) (hd : d.isRow = true) (hi : (P.info? ty).map (·.size) = some cs.length) :
    (results fn tmps).run P w = .ok (.agg cs.toArray) w :=
  results_cell_row h tmps w b t cs.toArray (0, 0) d hp hb hu (by cases d <;> first | rfl | (simp [TypeDesc.isRow] at hd)) (by simpa using hi)
end

end Go.Proofs.YtfalgjdhdgkbfaaGreatDoor

namespace Go.Proofs.YtfalgjdhdgkbfaaGreatDoor
open Go Go.RowKit
open Go.RowKit (wrap32 wrap64)

theorem zero65 : (Tryz.prog.info? 65).map (fun i => i.zero) = some (some (.agg (Lib.byteCells (List.replicate 16 0)).toArray)) := by kernel_rfl
theorem size65 : (Tryz.prog.info? 65).map (·.size) = some 16 := by kernel_rfl
theorem idx65 (p i : Nat) (h : i < 16) (u : World) : (Instr.indexAt 65 (.pointer (some ⟨p, 0, none⟩)) (.int .i64 (i : Nat))).run Tryz.prog u = .ok (.pointer (some ⟨p, i, none⟩)) u := by
  have h' : (i : Int) < 16 := by omega
  go_simp
def idP (x : List UInt8) (i : Nat) : List UInt8 := x.take i ++ List.replicate (16 - i) 0
theorem idP_set (x : List UInt8) (i : Nat) (hi : i < 16) (hx : x.length = 16) : (idP x i).set i (x[i]'(by omega)) = idP x (i + 1) := by
  unfold idP
  obtain ⟨k, hk⟩ : ∃ k, 16 - i = k + 1 := ⟨15 - i, by omega⟩
  rw [hk, show 16 - (i + 1) = k by omega, List.replicate_succ, List.set_append_right _ _ (by rw [List.length_take]; omega), show i - (List.take i x).length = 0 by rw [List.length_take]; omega, List.set_cons_zero, List.take_succ_eq_append_getElem (by omega), List.append_assoc]
  rfl
theorem idP_len (x : List UInt8) (i : Nat) (hi : i ≤ 16) (hx : x.length = 16) : (idP x i).length = 16 := by unfold idP; rw [List.length_append, List.length_take, List.length_replicate]; omega
theorem bcs_one (l : List UInt8) : ∀ v ∈ Lib.byteCells l, v.oneCell' = true := by
  intro v hv
  unfold Lib.byteCells at hv
  obtain ⟨_, _, rfl⟩ := List.mem_map.1 hv
  rfl
theorem bc_set (l : List UInt8) (i : Nat) (x : UInt8) : (Lib.byteCells l).set i (.int .u8 x.toNat) = Lib.byteCells (l.set i x) := by simp [Lib.byteCells, List.map_set]
set_option maxRecDepth 100000 in
set_option maxHeartbeats 2000000 in
theorem rvid_any (w : World) (d : Nat) (F : Nat → Prop) (l : List UInt8) (bad : Nat) (h0 : Rv w d F l bad) :
    Calls Tryz.prog 61 #[.pointer (some ⟨d, 0, none⟩)] w fun r w' => r = .returned (.agg (Lib.byteCells (idL (rt l bad 16))).toArray) ∧ Rv w' d F (rl l bad 16) (rb l bad 16) ∧ w.grownBy w' (some d) := by
  have hdl := h0.lt
  have HFd : Hid (¬ F d) := hid (by obtain ⟨v, _, _, h3, _⟩ := h0; exact h3)
  have h : Rv w d (fun k => k < w.heap.size ∧ F k) l bad := h0.mono (fun k hk hF => ⟨hk, hF⟩) (fun hx => HFd.out hx.2)
  have HR := hid h
  have HZ : Hid ((Lib.byteCells (List.replicate 16 0)).length = 16) := hid (by rw [byteCells_length, List.length_replicate])
  clear h0
  by_cases hok : bad = 0 ∧ 16 ≤ l.length
  · obtain ⟨rfl, h16⟩ := hok
    obtain ⟨e1, e2, e3⟩ := rb_good (l := l) (n := 16) h16
    have e4 : idL (l.take 16) = l.take 16 := by unfold idL; rw [List.length_take, Nat.min_eq_left h16, Nat.sub_self]; simp
    rw [e1, e2, e3, e4]
    have HT : Hid (∀ u, Rv u d (fun k => k < w.heap.size ∧ F k) l 0 → Calls Tryz.prog 115 #[.pointer (some ⟨d, 0, none⟩), .int .i64 16] u fun r w' => ∃ v, r = .returned v ∧ Rd w' (fun k => k < w.heap.size ∧ F k) v (l.take 16) ∧ Rv w' d (fun k => k < w.heap.size ∧ F k) (l.drop 16) 0 ∧ u.grownBy w' (some d)) := hid (fun u hu => rvtake_any u d _ l 0 16 hu h16)
    have HX : Hid ((l.take 16).length = 16) := hid (by rw [List.length_take]; omega)
    have h16' : ¬ (l.length : Int) < 16 := by omega
    obtain ⟨x, hx⟩ : ∃ x, l.take 16 = x := ⟨_, rfl⟩
    rw [hx] at HT HX ⊢
    clear e1 e2 e3 e4 hx h
    go_enter Tryz.func61, Tryz.ntmps61
    go_upto_region 2 with (first
      | (have := HG1; clear this; (with_reducible refine wpList_alloc_row (by with_unfolding_all rfl) 65 (by with_unfolding_all rfl) (Lib.byteCells (List.replicate 16 0)) zero65 ?_); intro w2 B2 s2 g2; have HD2 := hid B2; have HA2 := hid (HA1.out.keep g2); have HR2 := hid (HR1.out.keep g2); have HG2 := hid (gtrans HG1.out g2); clear B2 s2 g2)
      | ((with_reducible refine wpList_alloc_row (by with_unfolding_all rfl) 65 (by with_unfolding_all rfl) (Lib.byteCells (List.replicate 16 0)) zero65 ?_); intro w1 B1 s1 g1; have HA1 := hid B1; have HR1 := hid (HR.out.keep g1); have HG1 := hid g1; clear B1 s1 g1))
    obtain ⟨p2, hp2⟩ : ∃ q, w.heap.size = q := ⟨_, rfl⟩
    obtain ⟨p3, hp3⟩ : ∃ q, w1.heap.size = q := ⟨_, rfl⟩
    rw [hp2] at HA2
    rw [hp3] at HD2
    simp only [hp2, hp3]
    have HPn : Hid (w.heap.size ≤ p2 ∧ w.heap.size ≤ p3 ∧ p2 ≠ p3 ∧ d ≠ p2 ∧ d ≠ p3) := hid (by have h1 := HG1.out.size; have h2 := HA1.out.lt; omega)
    clear hp2 hp3 HA1 HR1 HG1
    obtain ⟨a, c, c0, c1, fz⟩ := HR2.out.open
    go_wp2_with fail
    refine (HT.out _ HR2.out).mono ?_
    rintro e w3 ⟨v3, rfl, hv3, hR3, hg3⟩
    have HR3 := hid hR3
    have HA3 := hid (HA2.out.on hg3 (by have := HPn.out; simp; omega))
    have HD3 := hid (HD2.out.on hg3 (by have := HPn.out; simp; omega))
    have HG3 := hid (gtrans (gsome HG2.out (some d)) hg3)
    clear hR3 hg3 c0 c1 fz HR2 HA2 HD2 HG2
    obtain ⟨xa, xb, xo, xc, rfl, hxc, hxn, hxa, hxcell⟩ := hv3
    obtain ⟨rfl, hxb, hxF⟩ := hxa (by rw [HX.out]; omega)
    have HXC : Hid (∀ u, w3.grownBy u (some p3) → ∀ i (h : i < x.length), u.cell? ⟨xb, xo + i, none⟩ = some (.int .u8 x[i].toNat)) := hid (fun u hu i hi => by
      rw [cell_at hu hxb (by have := HPn.out; simp; omega)]; exact hxcell i hi)
    rw [HX.out] at hxc ⊢
    clear hxcell hxa hxn hxF hxb
    go_wp2_with fail
    go_loopw [5] (fun iv wr => ∃ i : Nat, iv = .int .i64 i ∧ i ≤ 16 ∧ Hid (Blk wr p3 (Lib.byteCells (idP x i)) 65) ∧ Hid (Blk wr p2 (Lib.byteCells (List.replicate 16 0)) 65) ∧ Hid (Rv wr d (fun k => k < w.heap.size ∧ F k) (l.drop 16) 0) ∧ Hid (w3.grownBy wr (some p3)) ∧ Hid (w.grownBy wr (some d))) (fun iv _ => 16 - (intOf iv).toNat)
    case atStart => exact ⟨0, rfl, by omega, hid (by have := HD3.out; unfold idP; simpa using this), HA3, HR3, hid (grefl _ _), HG3⟩
    case round =>
      obtain ⟨i, rfl, hi, HDx, HAx, HRx, HGp, HGx⟩ := hrel
      clear HD3 HA3 HR3 HG3
      by_cases hlt : i < 16
      · have hlt' : (i : Int) < 16 := by omega
        have hix : i < x.length := by rw [HX.out]; exact hlt
        have cx := HXC.out wr HGp.out i hix
        have hcell := HDx.out.cell i
        have hfz := HDx.out.frozen i
        have hpl : (Lib.byteCells (idP x i)).length = 16 := by rw [byteCells_length]; exact idP_len x i hi HX.out
        rw [List.getElem?_eq_getElem (by omega)] at hcell
        have HST : Hid ((idP x i).set i x[i] = idP x (i + 1)) := hid (idP_set x i hlt HX.out)
        generalize x[i] = y at cx HST
        go_upto_region 8 with fail
        obtain ⟨w7, hw7⟩ : ∃ q, wr.setCell ⟨p3, i, none⟩ (.int .u8 (y.toNat : Int)) = q := ⟨_, rfl⟩
        rw [hw7]
        have HD7 : Hid (Blk w7 p3 (Lib.byteCells (idP x (i + 1))) 65) := hid (by rw [← hw7, ← HST.out, ← bc_set]; exact HDx.out.set i _)
        have HG7 : Hid (wr.grownBy w7 (some p3)) := hid (by rw [← hw7]; exact gset _ _ _)
        have HA7 := hid (HAx.out.on HG7.out (by have := HPn.out; simp; omega))
        have HR7 := hid (HRx.out.on HG7.out (by have := HPn.out; simp; omega) (fun k hk => by injection hk with hk; intro h; have := HPn.out; omega))
        have HGq := hid (gtrans HGp.out HG7.out)
        have HGw := hid (HGx.out.andThen HG7.out (fun j hj => .inl (by injection hj with hj; have := HPn.out; omega)))
        clear hw7 hcell hfz cx
        go_wp2_with fail
        go_roundw
        case rel => exact ⟨i + 1, by go_num, by omega, HD7, HA7, HR7, HGq, HGw⟩
        case measure => simp [intOf]; omega
      · have hi16 : i = 16 := by omega
        subst hi16
        have e5 : idP x 16 = x := by unfold idP; rw [List.take_of_length_le (by rw [HX.out]; omega)]; simp
        rw [e5] at HDx
        have HLn : Hid ((Lib.byteCells x).length = 16) := hid (by rw [byteCells_length]; exact HX.out)
        clear e5 hlt
        go_wp2_with (first
          | ((with_reducible refine wpList_load_part (by with_unfolding_all rfl) 65 _ (by with_unfolding_all rfl) p3 0 (Lib.byteCells x) _ (by with_unfolding_all rfl) HDx.out.whole Tryz.underlying65 (by with_unfolding_all rfl) (by rw [HLn.out]; exact size65) ?_))
          | ((with_reducible refine wpList_store_all (by with_unfolding_all rfl) 65 _ _ (by with_unfolding_all rfl) p2 (Lib.byteCells (List.replicate 16 0)) (Lib.byteCells x) 65 (by with_unfolding_all rfl) (by with_unfolding_all rfl) HAx.out (by rw [HLn.out, HZ.out]) (by rw [HLn.out]; exact size65) (bcs_one _) ?_); intro w9 B9 g9 s9; have HA9 := hid B9; have HR9 := hid (HRx.out.on g9 (by have := HPn.out; simp; omega) (fun k hk => by injection hk with hk; intro h; have := HPn.out; omega)); have HG9 := hid (HGx.out.andThen g9 (fun j hj => .inl (by injection hj with hj; have := HPn.out; omega))); clear B9 g9 s9))
        refine bodyPost_ret (results_blk rfl _ p2 65 (Lib.byteCells x) _ rfl HA9.out Tryz.underlying65 rfl (by rw [HLn.out]; exact size65)) rfl ?_
        exact ⟨rfl, HR9.out.mono (fun k _ hk => hk.2) HFd.out, HG9.out⟩
  · have HX : rt l bad 16 = [] ∧ rl l bad 16 = l ∧ ((bad = 0 ∧ l.length < 16 ∧ rb l bad 16 = 30) ∨ (bad ≠ 0 ∧ rb l bad 16 = bad)) := by
      by_cases hb : bad = 0
      · subst hb
        have hs : l.length < 16 := by omega
        obtain ⟨e1, e2, e3⟩ := rb_short hs
        exact ⟨e2, e3, .inl ⟨rfl, hs, e1⟩⟩
      · obtain ⟨e1, e2, e3⟩ := rb_bad (l := l) (n := 16) hb
        exact ⟨e2, e3, .inr ⟨hb, e1⟩⟩
    obtain ⟨e1, e2, hcs⟩ := HX
    have e4 : idL [] = List.replicate 16 0 := rfl
    rw [e1, e2, e4]
    have HLn : Hid ((Lib.byteCells (List.replicate 16 0)).length = 16) := HZ
    clear e1 e2 e4 hok h
    rcases hcs with ⟨rfl, hs, e3⟩ | ⟨hb, e3⟩
    · rw [e3]
      have hs' : (l.length : Int) < 16 := by omega
      clear e3
      go_enter Tryz.func61, Tryz.ntmps61
      go_upto_region 2 with (first
        | (have := HG1; clear this; (with_reducible refine wpList_alloc_row (by with_unfolding_all rfl) 65 (by with_unfolding_all rfl) (Lib.byteCells (List.replicate 16 0)) zero65 ?_); intro w2 B2 s2 g2; have HD2 := hid B2; have HA2 := hid (HA1.out.keep g2); have HR2 := hid (HR1.out.keep g2); have HG2 := hid (gtrans HG1.out g2); clear B2 s2 g2)
        | ((with_reducible refine wpList_alloc_row (by with_unfolding_all rfl) 65 (by with_unfolding_all rfl) (Lib.byteCells (List.replicate 16 0)) zero65 ?_); intro w1 B1 s1 g1; have HA1 := hid B1; have HR1 := hid (HR.out.keep g1); have HG1 := hid g1; clear B1 s1 g1))
      obtain ⟨p2, hp2⟩ : ∃ q, w.heap.size = q := ⟨_, rfl⟩
      obtain ⟨p3, hp3⟩ : ∃ q, w1.heap.size = q := ⟨_, rfl⟩
      rw [hp2] at HA2
      rw [hp3] at HD2
      simp only [hp2, hp3]
      have HPn : Hid (w.heap.size ≤ p2 ∧ w.heap.size ≤ p3 ∧ p2 ≠ p3 ∧ d ≠ p2 ∧ d ≠ p3) := hid (by have h1 := HG1.out.size; have h2 := HA1.out.lt; omega)
      clear hp2 hp3 HA1 HR1 HG1
      obtain ⟨a, c, c0, c1, fz⟩ := HR2.out.open
      go_upto_region 4 with fail
      obtain ⟨w7, hw7⟩ : ∃ q, w2.setCell ⟨d, 1, none⟩ (.int .i64 30) = q := ⟨_, rfl⟩
      rw [hw7]
      have HRx : Hid (Rv w7 d (fun k => k < w.heap.size ∧ F k) l 30) := hid (by rw [← hw7]; exact HR2.out.setBad)
      have HG7 : Hid (w2.grownBy w7 (some d)) := hid (by rw [← hw7]; exact gset _ _ _)
      have HAx := hid (HA2.out.on HG7.out (by have := HPn.out; simp; omega))
      have HDx := hid (HD2.out.on HG7.out (by have := HPn.out; simp; omega))
      have HGx := hid (gtrans (gsome HG2.out (some d)) HG7.out)
      obtain ⟨a7, q7, d0, d1, dz⟩ := HRx.out.open
      clear hw7 c0 c1 fz HR2 HA2 HD2 HG2
      go_wp2_with (first
        | ((with_reducible refine wpList_load_part (by with_unfolding_all rfl) 65 _ (by with_unfolding_all rfl) p3 0 (Lib.byteCells (List.replicate 16 0)) _ (by with_unfolding_all rfl) HDx.out.whole Tryz.underlying65 (by with_unfolding_all rfl) (by rw [HLn.out]; exact size65) ?_))
        | ((with_reducible refine wpList_store_all (by with_unfolding_all rfl) 65 _ _ (by with_unfolding_all rfl) p2 (Lib.byteCells (List.replicate 16 0)) (Lib.byteCells (List.replicate 16 0)) 65 (by with_unfolding_all rfl) (by with_unfolding_all rfl) HAx.out rfl (by rw [HLn.out]; exact size65) (bcs_one _) ?_); intro w9 B9 g9 s9; have HA9 := hid B9; have HR9 := hid (HRx.out.on g9 (by have := HPn.out; simp; omega) (fun k hk => by injection hk with hk; intro h; have := HPn.out; omega)); have HG9 := hid (HGx.out.andThen g9 (fun j hj => .inl (by injection hj with hj; have := HPn.out; omega))); clear B9 g9 s9))
      refine bodyPost_ret (results_blk rfl _ p2 65 (Lib.byteCells (List.replicate 16 0)) _ rfl HA9.out Tryz.underlying65 rfl (by rw [HLn.out]; exact size65)) rfl ?_
      exact ⟨rfl, HR9.out.mono (fun k _ hk => hk.2) HFd.out, HG9.out⟩
    · rw [e3]
      have hb' : ¬ (bad : Int) = 0 := by omega
      clear e3
      go_enter Tryz.func61, Tryz.ntmps61
      go_upto_region 2 with (first
        | (have := HG1; clear this; (with_reducible refine wpList_alloc_row (by with_unfolding_all rfl) 65 (by with_unfolding_all rfl) (Lib.byteCells (List.replicate 16 0)) zero65 ?_); intro w2 B2 s2 g2; have HD2 := hid B2; have HA2 := hid (HA1.out.keep g2); have HR2 := hid (HR1.out.keep g2); have HG2 := hid (gtrans HG1.out g2); clear B2 s2 g2)
        | ((with_reducible refine wpList_alloc_row (by with_unfolding_all rfl) 65 (by with_unfolding_all rfl) (Lib.byteCells (List.replicate 16 0)) zero65 ?_); intro w1 B1 s1 g1; have HA1 := hid B1; have HR1 := hid (HR.out.keep g1); have HG1 := hid g1; clear B1 s1 g1))
      obtain ⟨p2, hp2⟩ : ∃ q, w.heap.size = q := ⟨_, rfl⟩
      obtain ⟨p3, hp3⟩ : ∃ q, w1.heap.size = q := ⟨_, rfl⟩
      rw [hp2] at HA2
      rw [hp3] at HD2
      simp only [hp2, hp3]
      have HPn : Hid (w.heap.size ≤ p2 ∧ w.heap.size ≤ p3 ∧ p2 ≠ p3 ∧ d ≠ p2 ∧ d ≠ p3) := hid (by have h1 := HG1.out.size; have h2 := HA1.out.lt; omega)
      clear hp2 hp3 HA1 HR1 HG1
      obtain ⟨a, c, c0, c1, fz⟩ := HR2.out.open
      have HRx := HR2
      have HAx := HA2
      have HDx := HD2
      have HGx := hid (gsome HG2.out (some d))
      go_wp2_with (first
        | ((with_reducible refine wpList_load_part (by with_unfolding_all rfl) 65 _ (by with_unfolding_all rfl) p3 0 (Lib.byteCells (List.replicate 16 0)) _ (by with_unfolding_all rfl) HDx.out.whole Tryz.underlying65 (by with_unfolding_all rfl) (by rw [HLn.out]; exact size65) ?_))
        | ((with_reducible refine wpList_store_all (by with_unfolding_all rfl) 65 _ _ (by with_unfolding_all rfl) p2 (Lib.byteCells (List.replicate 16 0)) (Lib.byteCells (List.replicate 16 0)) 65 (by with_unfolding_all rfl) (by with_unfolding_all rfl) HAx.out rfl (by rw [HLn.out]; exact size65) (bcs_one _) ?_); intro w9 B9 g9 s9; have HA9 := hid B9; have HR9 := hid (HRx.out.on g9 (by have := HPn.out; simp; omega) (fun k hk => by injection hk with hk; intro h; have := HPn.out; omega)); have HG9 := hid (HGx.out.andThen g9 (fun j hj => .inl (by injection hj with hj; have := HPn.out; omega))); clear B9 g9 s9))
      refine bodyPost_ret (results_blk rfl _ p2 65 (Lib.byteCells (List.replicate 16 0)) _ rfl HA9.out Tryz.underlying65 rfl (by rw [HLn.out]; exact size65)) rfl ?_
      exact ⟨rfl, HR9.out.mono (fun k _ hk => hk.2) HFd.out, HG9.out⟩
end Go.Proofs.YtfalgjdhdgkbfaaGreatDoor
