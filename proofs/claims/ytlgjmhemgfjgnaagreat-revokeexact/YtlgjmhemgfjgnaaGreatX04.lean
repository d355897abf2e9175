/- Building keys: a struct out of its parts, a slice of one key. -/
import Derived.Test.YtlgjmhemgfjgnaaGreatX03
import Derived.Lib.BytesEntry
import Derived.Deep.Cut
namespace Go.Proofs.YtlgjmhemgfjgnaaGreat
open Go Go.RowKit
open Go.RowKit (wrap32 wrap64)

theorem list16 (l : List UInt8) (h : l.length = 16) : ∃ b0 b1 b2 b3 b4 b5 b6 b7 b8 b9 b10 b11 b12 b13 b14 b15 : UInt8, l = [b0, b1, b2, b3, b4, b5, b6, b7, b8, b9, b10, b11, b12, b13, b14, b15] := by
  match l, h with
  | [b0, b1, b2, b3, b4, b5, b6, b7, b8, b9, b10, b11, b12, b13, b14, b15], _ => exact ⟨b0, b1, b2, b3, b4, b5, b6, b7, b8, b9, b10, b11, b12, b13, b14, b15, rfl⟩
theorem built_add (g : Nat) (id : List UInt8) (ex : Int) (h : id.length = 16) : Tryz.prog.built 85 [(1, .int .u64 (g : Int)), (2, .agg (Lib.byteCells id).toArray), (3, .int .i64 ex)] = some (Ky.mk false g id ex).cells.toArray := by
  obtain ⟨b0, b1, b2, b3, b4, b5, b6, b7, b8, b9, b10, b11, b12, b13, b14, b15, rfl⟩ := list16 id h
  kernel_rfl
theorem built_kill (g : Nat) (ex : Int) : Tryz.prog.built 85 [(0, .bool true), (1, .int .u64 (g : Int)), (3, .int .i64 ex)] = some (Ky.mk true g z16 ex).cells.toArray := by
  kernel_rfl
theorem fill_one (k : Ky) (h : k.id.length = 16) : Instr.fill (fun i => some (i * 19, 19)) ((Array.range (1 * 19)).map (zky.cells.toArray[· % zky.cells.toArray.size]!)) [(0, .agg k.cells.toArray)] = some k.cells.toArray := by
  obtain ⟨wh, g, id, ex⟩ := k
  obtain ⟨b0, b1, b2, b3, b4, b5, b6, b7, b8, b9, b10, b11, b12, b13, b14, b15, rfl⟩ := list16 id h
  kernel_rfl
theorem run_slice1 (k : Ky) (h : k.id.length = 16) (w : World) : (Instr.buildSlice 57 1 #[(0, .agg k.cells.toArray)]).run Tryz.prog w = .ok (.slice (some ⟨w.heap.size, 0, none⟩) 1 1) (w.alloc (.cells k.cells.toArray 85)) := by
  have h1 : (sizeOf 85).run Tryz.prog w = .ok 19 w := by kernel_rfl
  have h2 : (zeroValue 85).run Tryz.prog w = .ok (.agg zky.cells.toArray) w := by kernel_rfl
  unfold Instr.buildSlice
  simp only [Sem.run_bind, run_underlying Tryz.underlying57, Result.andThen_ok, h1]
  rw [if_neg (by decide), if_neg (by decide)]
  simp only [Sem.run_bind, Sem.run_pure, Result.andThen_ok, h2, Value.cells, fill_one k h]
  rfl
section
variable {ops : Array Oper} {rest : List Oper} {o : Oper} {a : Act} {w : World} {Q : Exit → Act → World → Prop}
theorem wpList_slice1 (hgd : o.guard = none) (x : Operand) (ho : o.op = .buildSlice 57 1 #[(0, x)]) (k : Ky) (hk : k.id.length = 16) (hx : a.eval x = .agg k.cells.toArray)
    (h : ∀ w', Blk w' w.heap.size k.cells 85 → w'.heap.size = w.heap.size + 1 → w.grownBy w' none → wpList Tryz.prog ops Q rest (a.put o.dst (.slice (some ⟨w.heap.size, 0, none⟩) 1 1)) w') : wpList Tryz.prog ops Q (o :: rest) a w :=
  wpList_plain hgd fun _ hK => by
    have e : (#[(0, x)] : Array (Nat × Operand)).map (fun (i, x) => (i, a.eval x)) = #[(0, .agg k.cells.toArray)] := by simp [hx]
    unfold Oper.wp execOp
    simp only [ho]
    rw [e, Sem.run_bind, run_slice1 k hk w]
    exact hK _ _ (h _ (Blk.new w k.cells 85) (by simp) (galloc _ _ _))
theorem wpList_build_of {P : Program} {ops : Array Oper} {rest : List Oper} {o : Oper} {a : Act} {w : World} {Q : Exit → Act → World → Prop} (hgd : o.guard = none) (t : TypeId) (xs : Array (Nat × Operand)) (ho : o.op = .build t xs) (vs : List (Nat × Value)) (hx : (xs.map fun (i, x) => (i, a.eval x)).toList = vs) (z : List Value) (hz : P.built t vs = some z.toArray)
    (h : wpList P ops Q rest (a.put o.dst (.agg z.toArray)) w) : wpList P ops Q (o :: rest) a w := by
  have e : P.built t (xs.map fun (i, x) => (i, a.eval x)).toList = some z.toArray := by rw [hx]; exact hz
  refine wpList_build hgd t xs ho (by rw [e]; rfl) ?_
  rw [e]
  exact h
end
theorem OutK.ne_blk {B : Nat} {w : World} {v : Value} {l : List Ky} {b : Nat} {cs : List Value} {t : TypeId} (h : OutK B w v l) (hb : Blk w b cs t) (ht : t ≠ 85) : ∀ j, v.ownBlock = some j → j ≠ b := by
  intro j hj e
  subst e
  rcases h.2.2 with ⟨rfl, _⟩ | ⟨g, cap, cur, rfl, _, hg, _⟩
  · simp [Value.ownBlock] at hj
  · simp [Value.ownBlock] at hj
    subst hj
    unfold Blk at hb
    rw [hb] at hg
    injection hg with hg
    injection hg with _ hg
    exact ht hg
theorem results_blk_tmp {P : Program} {w : World} {fn : Func} {p q : Tmp} {ty : TypeId} (h : fn.results = #[.cell p ty, .tmp q]) (tmps : Array Value) (b : Nat) (t : TypeId) (cs : List Value) (d : TypeDesc) (v : Value)
    (hp : tmps.getD p undef = .pointer (some ⟨b, 0, none⟩)) (hq : tmps.getD q undef = v) (hb : Blk w b cs t) (hu : P.underlying ty = some d) (hd : d.isRow = true) (hi : (P.info? ty).map (·.size) = some cs.length) :
    (results fn tmps).run P w = .ok (.tuple #[.agg cs.toArray, v]) w := by
  rw [results_cell_tmp h, hp, hq]
  have ha : (asAddr (.pointer (some ⟨b, 0, none⟩))).run P w = .ok ⟨b, 0, none⟩ w := rfl
  rw [ha, Result.andThen_ok, run_loadVar_mid w b 0 ty cs d hb.whole hu hd hi]
  rfl
end Go.Proofs.YtlgjmhemgfjgnaaGreat

namespace Go.Proofs.YtlgjmhemgfjgnaaGreat
open Go Go.RowKit
open Go.RowKit (wrap32 wrap64)

theorem bytesOf_cells (l : List UInt8) : Lib.bytesOf (l.map fun b => (b.toNat : Int)) = l := by
  induction l with
  | nil => rfl
  | cons x l ih =>
    have : Lib.bytesOf ((x :: l).map fun b => (b.toNat : Int)) = (x.toNat : Int).toNat.toUInt8 :: Lib.bytesOf (l.map fun b => (b.toNat : Int)) := rfl
    rw [this, ih]
    simp
theorem run_load_bytes {w : World} {b o : Nat} {l : List UInt8} (h : w.rangeAt b o (Lib.byteCells l)) : (Extern.Bytes.loadBytes ⟨b, o, none⟩ l.length .empty).run Tryz.prog w = .ok ⟨l.toArray⟩ w := by
  have := Lib.run_loadBytesX (P := Tryz.prog) w (l.map fun b => (b.toNat : Int)) ⟨b, o, none⟩ .empty (fun j x hj => by
    rw [Addr.add_lit]
    refine h j _ ?_
    unfold Lib.byteCells
    rw [List.getElem?_map] at hj ⊢
    cases hl : l[j]? with
    | none => rw [hl] at hj; cases hj
    | some y =>
      rw [hl] at hj
      injection hj with hj
      rw [← hj]
      rfl)
  rw [List.length_map, bytesOf_cells] at this
  rw [this]
  congr 1
  apply ByteArray.ext
  show (#[] : Array UInt8) ++ l.toArray = l.toArray
  simp
theorem run_compare {w : World} {b1 o1 b2 o2 c1 c2 : Nat} {s t : List UInt8} (h1 : w.rangeAt b1 o1 (Lib.byteCells s)) (h2 : w.rangeAt b2 o2 (Lib.byteCells t)) :
    (Extern.BytealgCompare.compare #[.slice (some ⟨b1, o1, none⟩) s.length c1, .slice (some ⟨b2, o2, none⟩) t.length c2]).run Tryz.prog w = .ok (.int .i64 (Lib.compareBytes s t)) w := by
  change Sem.run Tryz.prog (do pure (goInt (Extern.BytealgCompare.cmp (← Extern.Bytes.loadBytes ⟨b1, o1, none⟩ s.length .empty) (← Extern.Bytes.loadBytes ⟨b2, o2, none⟩ t.length .empty)))) w = _
  simp only [Sem.run_bind, run_load_bytes h1, run_load_bytes h2, Sem.run_pure, Result.andThen]
  rw [Lib.cmp_eq]
  rfl
set_option maxRecDepth 100000 in
set_option maxHeartbeats 800000 in
/-- bytes.Compare. -/
theorem compare_any (w : World) (b1 o1 b2 o2 c1 c2 n m : Nat) (s t : List UInt8) (hn : s.length = n) (hm : t.length = m) (h1 : w.rangeAt b1 o1 (Lib.byteCells s)) (h2 : w.rangeAt b2 o2 (Lib.byteCells t)) :
    Calls Tryz.prog 73 #[.slice (some ⟨b1, o1, none⟩) n c1, .slice (some ⟨b2, o2, none⟩) m c2] w fun e w' => e = .returned (.int .i64 (Lib.compareBytes s t)) ∧ w' = w := by
  have HR := hid (run_compare (c1 := c1) (c2 := c2) h1 h2)
  rw [hn, hm] at HR
  obtain ⟨R, HRR⟩ : ∃ R, Hid (Lib.compareBytes s t = R) := ⟨_, hid rfl⟩
  rw [HRR.out] at HR ⊢
  clear h1 h2 hn hm HRR
  go_enter Tryz.func73, Tryz.ntmps73
  go_wp2
  rw [run_callFunc_extern Tryz.func104 (by kernel_rfl) (by kernel_rfl) (by kernel_rfl) (e := Extern.BytealgCompare.compare) (by kernel_rfl), HR.out]
  simp only [Result.andThen]
  rw [Oper.upon_value]
  go_wp2
  go_ret
  exact ⟨rfl, rfl⟩
theorem arr27 (b o : Nat) (u : World) : (Instr.sliceAt 69 (.pointer (some ⟨b, o, none⟩)) none none none).run Tryz.prog u = .ok (.slice (some ⟨b, o, none⟩) 16 16) u := by
  go_simp
theorem quietAt_slice0 {P : Program} {C : World → Prop} {o : Oper} {a : Act} {u : World} (t : TypeId) (x : Operand) (vx v : Value) (ho : o.op = .slice t x none none none) (hx : a.eval x = vx) (hr : (Instr.sliceAt t vx none none none).run P u = .ok v u) : o.quietAt P a C u v := by
  subst hx
  unfold Oper.quietAt execOp
  simp only [ho, Option.map_none]
  rw [Sem.run_bind, hr]
  exact ⟨rfl, rfl⟩
theorem Blk.idr {w : World} {b : Nat} {k : Ky} {t : TypeId} (h : Blk w b k.cells t) : w.rangeAt b 2 (Lib.byteCells k.id) :=
  h.range [.bool k.wh, .int .u64 k.g] (Lib.byteCells k.id) [.int .i64 k.ex] 2 (Ky.mid k) rfl
set_option maxRecDepth 100000 in
set_option maxHeartbeats 800000 in
/-- placeOf's test. -/
theorem lt_id (w : World) (k : Ky) (p : Nat) (id : List UInt8) (hk : k.id.length = 16) (hid' : id.length = 16) (hp : Blk w p (Lib.byteCells id) 69) :
    Calls Tryz.prog 78 #[.agg k.cells.toArray, .pointer (some ⟨p, 0, none⟩)] w fun e w' => e = .returned (.bool (ltB k.id id)) ∧ w.grownBy w' none := by
  have HP := hid hp
  have hcmp := fun (u : World) (B : Nat) (h : Blk u B k.cells 85) (hq : Blk u p (Lib.byteCells id) 69) => (fun n => compare_any (u.drewN n) B 2 p 0 16 16 16 16 k.id id hk hid' h.idr hq.whole)
  obtain ⟨K, HK⟩ : ∃ K, Hid (k.cells = K) := ⟨_, hid rfl⟩
  obtain ⟨J, HJ⟩ : ∃ J, Hid (Lib.byteCells id = J) := ⟨_, hid rfl⟩
  obtain ⟨R, HR⟩ : ∃ R, Hid (Lib.compareBytes k.id id = R) := ⟨_, hid rfl⟩
  have HD := hid (ltB_cmp k.id id)
  rw [HK.out, HJ.out, HR.out] at hcmp
  rw [HJ.out] at HP
  rw [HR.out] at HD
  rw [HK.out, ← HD.out]
  have HC := hid hcmp
  clear hcmp hp HK HJ HR HD
  go_enter Tryz.func78, Tryz.ntmps78
  go_upto_region 1 with (with_reducible refine wpList_box_row (by with_unfolding_all rfl) 85 _ (by with_unfolding_all rfl) K (by with_unfolding_all rfl) ?_; intro w1 B1 s1 g1; have HB1 := hid B1; have HG1 := hid g1; have HS1 := hid s1; clear B1 g1 s1)
  have HCq := hid (HC.out w1 _ HB1.out (HP.out.keep HG1.out))
  go_quiet ((go_at_call 73; exact Calls.quiet_of_same (HCq.out _)))
  go_wp2
  go_ret
  exact ⟨rfl, gtrans HG1.out (gdrew _ _ _)⟩
end Go.Proofs.YtlgjmhemgfjgnaaGreat
