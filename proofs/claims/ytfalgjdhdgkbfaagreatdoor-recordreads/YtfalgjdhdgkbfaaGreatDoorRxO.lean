/- What a reading of the argument gives RecordReads' walk. -/
import Derived.Test.YtfalgjdhdgkbfaaGreatDoorRx1
import Derived.Test.YtfalgjdhdgkbfaaGreatDoorFxZ
import Derived.Deep.SlicePairs
namespace Go.Proofs.YtfalgjdhdgkbfaaGreatDoor.Bk
open Go Go.RowKit Go.ChangeShapes Go.WideShapes Go.ChangeAt Go.Joins Go.Deep

theorem Tryz.cells77 : Tryz.prog.cellsOf 77 = 3 := by kernel_rfl
theorem Tryz.cells75 : Tryz.prog.cellsOf 75 = 2 := by kernel_rfl
theorem Tryz.cells22 : Tryz.prog.cellsOf 22 = 1 := by kernel_rfl
theorem Tryz.cells67 : Tryz.prog.cellsOf 67 = 23 := by kernel_rfl
theorem Tryz.cells3 : Tryz.prog.cellsOf 3 = 1 := by kernel_rfl
theorem Tryz.bytes67 : Tryz.prog.bytesOf 67 = 88 := by kernel_rfl
section
variable {H : Type} {enc : TypeId × Value → H} {W : World}
/-- A slice of bytes. -/
theorem open_bytes {fuel : Nat} {c : Value} {y : DataW H × List MemPlace} (h : DataW.trod enc Tryz.prog W 0 (fun _ => true) true fuel 28 [c] = some y) (hsz : (y.1.weights Tryz.prog 28).all (· ≤ reachBytes) = true) : ∃ l : List UInt8, Go.Proofs.YtfalgjdhdgkbfaaGreatDoor.Rd W (fun _ => True) c l ∧ l.length ≤ 140737488355328 := by
  rcases DataW.trod_slice Tryz.underlying28 h with ⟨hcs, _⟩ | ⟨a, len, cap, elems, rest, n2, _, hcs, hx, _, hl', _, hlen, hel, _, _⟩
  · simp only [List.cons.injEq, and_true] at hcs
    subst hcs
    exact ⟨[], Go.Proofs.YtfalgjdhdgkbfaaGreatDoor.Rd.nil _ _, by simp⟩
  · simp only [List.cons.injEq, and_true] at hcs
    subst hcs
    rw [hx] at hsz
    obtain ⟨hs1, _⟩ := all_slice Tryz.underlying28 hsz
    rw [Tryz.bytes5] at hs1
    simp at hs1
    have hrb := reachBytes_lt
    rw [Tryz.cells5] at hel
    have hex : ∀ i, i < len → ∃ z : UInt8, W.cell? (a.add i) = some (.int .u8 z.toNat) := by
      intro i hi
      have hi' := hel i hi
      rw [List.getElem?_eq_getElem (by omega), Option.bind_eq_some_iff] at hi'
      obtain ⟨cs', hc', ht'⟩ := hi'
      obtain ⟨_, hl6, hc6⟩ := World.cells?_some hc'
      obtain ⟨z, e, _, w0⟩ := DataW.trod_int (k := .u8) Tryz.underlying5 ht'
      have hbd := bounds_u8 w0
      have := hc6 0 (by omega)
      subst e
      refine ⟨UInt8.ofNat z.toNat, ?_⟩
      have e0 : (a.add (i * 1)).add 0 = a.add i := by cases a; simp [Addr.add]
      rw [e0] at this
      rw [this]
      simp
      omega
    obtain ⟨f, hf⟩ := choose_lt hex
    refine ⟨(List.range len).map f, ?_, by simp; omega⟩
    have hll : ((List.range len).map f).length = len := by simp
    by_cases h0 : len = 0
    · exact ⟨some a, 0, 0, cap, by rw [hll], by rw [hll]; exact hl', (fun h => by cases h), fun h => by rw [hll] at h; omega, fun i h => by rw [hll] at h; omega⟩
    · obtain ⟨b, off, spot⟩ := a
      have c0 := hf 0 (by omega)
      have hspot : spot = none := by simpa [Addr.add] using World.cell?_spot c0
      subst hspot
      have hblt : b < W.heap.size := by
        rw [add_none] at c0
        exact World.block_lt_of_cell? W _ c0
      refine ⟨some ⟨b, off, none⟩, b, off, cap, by rw [hll], by rw [hll]; exact hl', (fun h => by cases h), fun _ => ⟨rfl, hblt, trivial⟩, fun j hj => ?_⟩
      have dj := hf j (by rw [hll] at hj; exact hj)
      rw [add_none] at dj
      rw [dj]
      simp
set_option maxRecDepth 100000 in
/-- A slice of structs, its elements' cells. -/
theorem open_rows {t e : TypeId} {k : Nat} (ht : Tryz.prog.underlying t = some (.slice e)) (hk : Tryz.prog.cellsOf e = k) (hk0 : 0 < k) (hby : 0 < Tryz.prog.bytesOf e) {fuel : Nat} {v : Value} {y : DataW H × List MemPlace}
    (h : DataW.trod enc Tryz.prog W 0 (fun _ => true) true fuel t [v] = some y) (hsz : (y.1.weights Tryz.prog t).all (· ≤ reachBytes) = true) :
    ∃ (a : Option Addr) (b o n c : Nat), v = .slice a n c ∧ n ≤ c ∧ n ≤ 140737488355328 ∧ (0 < n → a = some ⟨b, o, none⟩ ∧ b < W.heap.size) ∧
      ∀ i, i < n → ∃ (cs : List Value) (m : Nat) (x : DataW H × List MemPlace), cs.length = k ∧ (∀ j, j < k → W.cell? ⟨b, o + (i * k + j), none⟩ = cs[j]?) ∧ DataW.trod enc Tryz.prog W 0 (fun _ => true) true m e cs = some x ∧ (x.1.weights Tryz.prog e).all (· ≤ reachBytes) = true := by
  rcases DataW.trod_slice ht h with ⟨hcs, _⟩ | ⟨a, len, cap, elems, rest, n2, _, hcs, hx, _, hl', _, hlen, hel, _, _⟩
  · simp only [List.cons.injEq, and_true] at hcs
    subst hcs
    exact ⟨none, 0, 0, 0, 0, rfl, Nat.le_refl _, by omega, fun h => by omega, fun i h => by omega⟩
  · simp only [List.cons.injEq, and_true] at hcs
    subst hcs
    rw [hx] at hsz
    obtain ⟨hs1, hs2⟩ := all_slice ht hsz
    simp only [List.length_map] at hs1
    have hrb := reachBytes_lt
    have hlb : len ≤ 140737488355328 := by
      have : (elems.length + rest.length) * 1 ≤ (elems.length + rest.length) * Tryz.prog.bytesOf e := Nat.mul_le_mul_left _ hby
      omega
    rw [hk] at hel
    have hex : ∀ i, i < len → ∃ (cs : List Value) (x : DataW H × List MemPlace), cs.length = k ∧ (∀ j, j < k → W.cell? ((a.add (i * k)).add j) = cs[j]?) ∧ DataW.trod enc Tryz.prog W 0 (fun _ => true) true n2 e cs = some x ∧ (x.1.weights Tryz.prog e).all (· ≤ reachBytes) = true := by
      intro i hi
      have hi' := hel i hi
      rw [List.getElem?_eq_getElem (by omega), Option.bind_eq_some_iff] at hi'
      obtain ⟨cs', hc', ht'⟩ := hi'
      obtain ⟨_, hl6, hc6⟩ := World.cells?_some hc'
      exact ⟨cs', elems[i], hl6, fun j hj => hc6 j hj, ht', hs2 _ (List.mem_map.2 ⟨elems[i], List.getElem_mem _, rfl⟩)⟩
    by_cases h0 : len = 0
    · exact ⟨some a, 0, 0, len, cap, rfl, hl', hlb, fun h => by omega, fun i h => by omega⟩
    · obtain ⟨b, off, spot⟩ := a
      obtain ⟨cs0, x0, hl0, hc0, _, _⟩ := hex 0 (by omega)
      have c0 := hc0 0 hk0
      rw [List.getElem?_eq_getElem (by omega)] at c0
      have hspot : spot = none := by simpa [Addr.add] using World.cell?_spot c0
      subst hspot
      have hblt : b < W.heap.size := by
        rw [add_none, add_none] at c0
        exact World.block_lt_of_cell? W _ c0
      refine ⟨some ⟨b, off, none⟩, b, off, len, cap, rfl, hl', hlb, fun _ => ⟨rfl, hblt⟩, fun i hi => ?_⟩
      obtain ⟨cs, x, hl1, hc1, ht1, hs3⟩ := hex i hi
      refine ⟨cs, n2, x, hl1, fun j hj => ?_, ht1, hs3⟩
      have := hc1 j hj
      rw [add_none, add_none, Nat.add_assoc] at this
      exact this
theorem down {v : Value} {l : List UInt8} (h : Go.Proofs.YtfalgjdhdgkbfaaGreatDoor.Rd W (fun _ => True) v l) : Rd W v l := by
  obtain ⟨a, b, off, c, hv, hc, hn, ha, hcell⟩ := h
  exact ⟨a, b, off, c, hv, hc, hn, fun hl => ⟨(ha hl).1, (ha hl).2.1⟩, hcell⟩
set_option maxRecDepth 100000 in
theorem open_ofd {fuel : Nat} {cs : List Value} {x : DataW H × List MemPlace} (h : DataW.trod enc Tryz.prog W 0 (fun _ => true) true fuel 67 cs = some x) : ∃ o : Ofd, o.cs = cs ∧ o.ok := by
  obtain ⟨xs, k, _, hx, hl, hxl, hf⟩ := DataW.trod_struct Tryz.underlying67 h
  rw [Tryz.cells67] at hl
  obtain ⟨x0, x1, x2, x3, x4, x5, x6, x7, rfl⟩ : ∃ x0 x1 x2 x3 x4 x5 x6 x7, xs = [x0, x1, x2, x3, x4, x5, x6, x7] := by
    match xs, (show xs.length = 8 from hxl) with
    | [a, b, c, d, e, f, g, h], _ => exact ⟨a, b, c, d, e, f, g, h, rfl⟩
  obtain ⟨c0, c1, c2, c3, ds, rfl⟩ : ∃ c0 c1 c2 c3 ds, cs = c0 :: c1 :: c2 :: c3 :: ds := by
    match cs, hl with
    | c0 :: c1 :: c2 :: c3 :: ds, _ => exact ⟨c0, c1, c2, c3, ds, rfl⟩
  have f0 : DataW.trod enc Tryz.prog W 0 (fun _ => true) true k 3 [c0] = some x0 := by
    have := hf 0 _ rfl
    change DataW.trod enc Tryz.prog W 0 (fun _ => true) true k 3 (((c0 :: c1 :: c2 :: c3 :: ds).drop 0).take (Tryz.prog.cellsOf 3)) = some x0 at this
    rw [Tryz.cells3] at this
    exact this
  have f1 : DataW.trod enc Tryz.prog W 0 (fun _ => true) true k 3 [c1] = some x1 := by
    have := hf 1 _ rfl
    change DataW.trod enc Tryz.prog W 0 (fun _ => true) true k 3 (((c0 :: c1 :: c2 :: c3 :: ds).drop 1).take (Tryz.prog.cellsOf 3)) = some x1 at this
    rw [Tryz.cells3] at this
    exact this
  have f3 : DataW.trod enc Tryz.prog W 0 (fun _ => true) true k 3 [c3] = some x3 := by
    have := hf 3 _ rfl
    change DataW.trod enc Tryz.prog W 0 (fun _ => true) true k 3 (((c0 :: c1 :: c2 :: c3 :: ds).drop 3).take (Tryz.prog.cellsOf 3)) = some x3 at this
    rw [Tryz.cells3] at this
    exact this
  obtain ⟨z0, e0, _, _⟩ := DataW.trod_int (k := .i64) Tryz.underlying3 f0
  obtain ⟨z1, e1, _, _⟩ := DataW.trod_int (k := .i64) Tryz.underlying3 f1
  obtain ⟨z3, e3, _, _⟩ := DataW.trod_int (k := .i64) Tryz.underlying3 f3
  simp only [List.cons.injEq, and_true] at e0 e1 e3
  subst e0 e1 e3
  exact ⟨⟨_, z0, z1, z3⟩, rfl, hl, rfl, rfl, rfl⟩
theorem reads_sized {d0 d1 d2 : DataW H} (h : ((DataW.agg [DataW.agg [d0, d1], d2]).weights Tryz.prog 77).all (· ≤ reachBytes) = true) : (d0.weights Tryz.prog 28).all (· ≤ reachBytes) = true ∧ (d1.weights Tryz.prog 28).all (· ≤ reachBytes) = true ∧ (d2.weights Tryz.prog 22).all (· ≤ reachBytes) = true := by
  rw [List.all_eq_true] at h
  simp only [DataW.weights, Tryz.underlying77, Tryz.underlying75, DataW.weightsEach, DataW.weightsAll, List.map_cons, List.map_nil, List.append_nil] at h
  refine ⟨List.all_eq_true.2 fun n hn => h n ?_, List.all_eq_true.2 fun n hn => h n ?_, List.all_eq_true.2 fun n hn => h n ?_⟩ <;> simp [hn]
set_option maxRecDepth 100000 in
theorem open_reads {fuel : Nat} {cs : List Value} {x : DataW H × List MemPlace} (h : DataW.trod enc Tryz.prog W 0 (fun _ => true) true fuel 77 cs = some x) (hs : (x.1.weights Tryz.prog 77).all (· ≤ reachBytes) = true) :
    ∃ (V0 V1 : Value) (L0 L1 : List UInt8) (oa : Option Addr) (ob oo on oc : Nat) (f : Nat → Ofd), cs = [V0, V1, .slice oa on oc] ∧ Rd W V0 L0 ∧ Rd W V1 L1 ∧ L0.length ≤ 140737488355328 ∧ L1.length ≤ 140737488355328 ∧ on ≤ 140737488355328 ∧ RowsF W oa ob oo on f := by
  obtain ⟨xs, k, _, hx, hl, hxl, hf⟩ := DataW.trod_struct Tryz.underlying77 h
  rw [Tryz.cells77] at hl
  obtain ⟨c0, c1, c2, rfl⟩ : ∃ c0 c1 c2, cs = [c0, c1, c2] := by
    match cs, hl with
    | [a, b, c], _ => exact ⟨a, b, c, rfl⟩
  obtain ⟨x0, x1, rfl⟩ : ∃ x0 x1, xs = [x0, x1] := by
    match xs, (show xs.length = 2 from hxl) with
    | [a, b], _ => exact ⟨a, b, rfl⟩
  have f0 : DataW.trod enc Tryz.prog W 0 (fun _ => true) true k 75 [c0, c1] = some x0 := by
    have := hf 0 _ rfl
    change DataW.trod enc Tryz.prog W 0 (fun _ => true) true k 75 ((List.drop 0 [c0, c1, c2]).take (Tryz.prog.cellsOf 75)) = some x0 at this
    rw [Tryz.cells75] at this
    exact this
  have f1 : DataW.trod enc Tryz.prog W 0 (fun _ => true) true k 22 [c2] = some x1 := by
    have := hf 1 _ rfl
    change DataW.trod enc Tryz.prog W 0 (fun _ => true) true k 22 ((List.drop 2 [c0, c1, c2]).take (Tryz.prog.cellsOf 22)) = some x1 at this
    rw [Tryz.cells22] at this
    exact this
  obtain ⟨ys, m, _, hy, hyl, hyxl, hyf⟩ := DataW.trod_array Tryz.underlying75 f0
  obtain ⟨y0, y1, rfl⟩ : ∃ y0 y1, ys = [y0, y1] := by
    match ys, (show ys.length = 2 from hyxl) with
    | [a, b], _ => exact ⟨a, b, rfl⟩
  have g0 : DataW.trod enc Tryz.prog W 0 (fun _ => true) true m 28 [c0] = some y0 := by
    have := hyf 0 (by omega)
    rw [Tryz.cells28] at this
    exact this
  have g1 : DataW.trod enc Tryz.prog W 0 (fun _ => true) true m 28 [c1] = some y1 := by
    have := hyf 1 (by omega)
    rw [Tryz.cells28] at this
    exact this
  have hs' : ((DataW.agg [DataW.agg [y0.1, y1.1], x1.1]).weights Tryz.prog 77).all (· ≤ reachBytes) = true := by
    rw [hx] at hs
    simp only [List.map_cons, List.map_nil] at hs
    rw [hy] at hs
    exact hs
  obtain ⟨s0, s1, s2⟩ := reads_sized hs'
  obtain ⟨L0, r0, b0⟩ := open_bytes g0 s0
  obtain ⟨L1, r1, b1⟩ := open_bytes g1 s1
  obtain ⟨a, b, o, n, cc, hv, hnc, hn, ha, hel⟩ := open_rows Tryz.underlying22 Tryz.cells67 (by decide) (by rw [Tryz.bytes67]; decide) f1 s2
  have hex : ∀ i, i < n → ∃ q : Ofd, W.rangeAt b (o + i * 23) q.cs ∧ q.ok := by
    intro i hi
    obtain ⟨cs', m', x', hcl, hcell, ht, _⟩ := hel i hi
    obtain ⟨q, hq, hok⟩ := open_ofd ht
    refine ⟨q, fun j v hj => ?_, hok⟩
    rw [hq] at hj
    have hj' : j < 23 := by
      have := (List.getElem?_eq_some_iff.1 hj).1
      omega
    rw [← hj, ← hcell j hj', Nat.add_assoc]
  haveI : Inhabited Ofd := ⟨⟨[], 0, 0, 0⟩⟩
  obtain ⟨f, hf'⟩ := choose_lt hex
  exact ⟨c0, c1, L0, L1, a, b, o, n, cc, f, by rw [hv], down r0, down r1, b0, b1, hn, ha, fun i hi => hf' i hi⟩
end
end Go.Proofs.YtfalgjdhdgkbfaaGreatDoor.Bk
