/- The argument of DiskMoves, DiskHolds, opened. -/
import Derived.Test.YtlgjmdianmijeaaGreatX34
import Derived.Test.YtlgjmdianmijeaaGreatChecked
import Derived.Test.YtlgjmdianmijeaaGreatRows
import Derived.ProofKit
import Derived.OpenShut
import Derived.SizedLaws
import Derived.Lib.LaidTab
import Derived.Stop.LaidErr
import Derived.LaidMore
import Derived.MakeChecks
import Derived.ChangeOld
import Derived.Handed
import Derived.Lib.SmallJoins
import Derived.Deep.Matrix
import Derived.Deep.SlicePairs
import Derived.Deep.Strs
namespace Go.Proofs.YtlgjmdianmijeaaGreat
open Go Go.RowKit Go.ChangeShapes Go.WideShapes Go.ChangeAt Go.Joins Go.Deep

theorem Tryz.cells5 : Tryz.prog.cellsOf 5 = 1 := by kernel_rfl
theorem Tryz.cells3 : Tryz.prog.cellsOf 3 = 1 := by kernel_rfl
theorem Tryz.cells9 : Tryz.prog.cellsOf 9 = 1 := by kernel_rfl
theorem Tryz.cells58 : Tryz.prog.cellsOf 58 = 1 := by kernel_rfl
theorem Tryz.cells66 : Tryz.prog.cellsOf 66 = 1 := by kernel_rfl
theorem Tryz.cells130 : Tryz.prog.cellsOf 130 = 2 := by kernel_rfl
theorem Tryz.cells83 : Tryz.prog.cellsOf 83 = 8 := by kernel_rfl
theorem Tryz.cells23 : Tryz.prog.cellsOf 23 = 1 := by kernel_rfl
theorem Tryz.cells22 : Tryz.prog.cellsOf 22 = 2 := by kernel_rfl
theorem Tryz.cells25 : Tryz.prog.cellsOf 25 = 3 := by kernel_rfl
theorem Tryz.bytes5 : Tryz.prog.bytesOf 5 = 1 := by kernel_rfl
theorem Tryz.bytes130 : Tryz.prog.bytesOf 130 = 40 := by kernel_rfl
theorem Tryz.bytes83 : Tryz.prog.bytesOf 83 = 112 := by kernel_rfl

theorem bytes_of : ∀ (cs : List Value), (∀ i, i < cs.length → ∃ b : UInt8, cs[i]? = some (.int .u8 b.toNat)) → ∃ D : List UInt8, cs = Lib.byteCells D ∧ D.length = cs.length
  | [], _ => ⟨[], rfl, rfl⟩
  | c :: cs, h => by
    obtain ⟨D, hD, hl⟩ := bytes_of cs (fun i hi => by simpa using h (i + 1) (by simp; omega))
    obtain ⟨b, hb⟩ := h 0 (by simp)
    simp only [List.getElem?_cons_zero, Option.some.injEq] at hb
    exact ⟨b :: D, by rw [hb, hD]; rfl, by simp [hl]⟩
theorem u8_of {n : Int} (h : (Lit.int .u8 n).wf = true) : ∃ b : UInt8, n = b.toNat := by
  simp [Lit.wf, IntKind.min, IntKind.max, IntKind.signed, IntKind.bits] at h
  refine ⟨UInt8.ofNat n.toNat, ?_⟩
  rw [UInt8.toNat_ofNat']
  omega
theorem u64_of {n : Int} (h : (Lit.int .u64 n).wf = true) : ∃ b : Nat, n = b ∧ b < 18446744073709551616 := by
  simp [Lit.wf, IntKind.min, IntKind.max, IntKind.signed, IntKind.bits] at h
  exact ⟨n.toNat, by omega, by omega⟩
theorem i64_of {n : Int} (h : (Lit.int .i64 n).wf = true) : -9223372036854775808 ≤ n ∧ n ≤ 9223372036854775807 := by
  simp [Lit.wf, IntKind.min, IntKind.max, IntKind.signed, IntKind.bits] at h
  omega
theorem add_none {b o i : Nat} : (⟨b, o, none⟩ : Addr).add i = ⟨b, o + i, none⟩ := Addr.add_lit ..
theorem weightsAll_mem {H : Type} {P : Program} {e : TypeId} {d : DataW H} : ∀ {l : List (DataW H)}, d ∈ l → ∀ n ∈ d.weights P e, n ∈ DataW.weightsAll P e l
  | x :: r, hd, n, hn => by
    simp only [DataW.weightsAll, List.mem_append]
    rcases List.mem_cons.1 hd with rfl | h
    · exact .inl hn
    · exact .inr (weightsAll_mem h n hn)
theorem all_slice {H : Type} {P : Program} {t e : TypeId} {elems spare : List (DataW H)} (hu : P.underlying t = some (.slice e)) (h : ((DataW.slice elems spare).weights P t).all (· ≤ reachBytes) = true) :
    (elems.length + spare.length) * P.bytesOf e ≤ reachBytes ∧ ∀ d ∈ elems, (d.weights P e).all (· ≤ reachBytes) = true := by
  simp only [DataW.weights, hu] at h
  rw [List.all_eq_true] at h
  refine ⟨of_decide_eq_true (h _ (List.mem_cons_self ..)), fun d hd => List.all_eq_true.2 fun n hn => h n (List.mem_cons_of_mem _ (List.mem_append_left _ (weightsAll_mem hd n hn)))⟩

section
variable {H : Type} {enc : TypeId × Value → H} {W : World}
set_option maxRecDepth 100000 in
/-- A slice of structs, its elements' cells. -/
theorem open_rows {t e : TypeId} {k : Nat} (ht : Tryz.prog.underlying t = some (.slice e)) (hk : Tryz.prog.cellsOf e = k) (hk0 : 0 < k) (hby : 0 < Tryz.prog.bytesOf e) {fuel : Nat} {v : Value} {y : DataW H × List MemPlace}
    (h : DataW.trod enc Tryz.prog W 0 (fun _ => true) true fuel t [v] = some y) (hsz : (y.1.weights Tryz.prog t).all (· ≤ reachBytes) = true) :
    ∃ (a : Option Addr) (b o n c : Nat), v = .slice a n c ∧ n ≤ c ∧ n ≤ 140737488355328 ∧ (0 < n → a = some ⟨b, o, none⟩ ∧ b < W.heap.size) ∧
      ∀ i, i < n → ∃ (cs : List Value) (m : Nat) (x : DataW H × List MemPlace), cs.length = k ∧ (∀ j, j < k → W.cell? ⟨b, o + (i * k + j), none⟩ = cs[j]?) ∧ DataW.trod enc Tryz.prog W 0 (fun _ => true) true m e cs = some x ∧ (x.1.weights Tryz.prog e).all (· ≤ reachBytes) = true := by
  rcases DataW.trod_slice ht h with ⟨hcs, _⟩ | ⟨a, len, cap, elems, rest, n2, _, hcs, hx, _, hl', _, hlen, hel, _, _⟩
  · simp only [List.cons.injEq, and_true] at hcs
    subst hcs
    exact ⟨none, 0, 0, 0, 0, rfl, Nat.le_refl _, by omega, fun h => by omega, fun i h => by omega⟩
  · simp only [List.cons.injEq, and_true] at hcs
    subst hcs
    rw [hx] at hsz
    obtain ⟨hs1, hs2⟩ := all_slice ht hsz
    simp only [List.length_map] at hs1
    have hrb := reachBytes_lt
    have hlb : len ≤ 140737488355328 := by
      have : (elems.length + rest.length) * 1 ≤ (elems.length + rest.length) * Tryz.prog.bytesOf e := Nat.mul_le_mul_left _ hby
      omega
    rw [hk] at hel
    have hex : ∀ i, i < len → ∃ (cs : List Value) (x : DataW H × List MemPlace), cs.length = k ∧ (∀ j, j < k → W.cell? ((a.add (i * k)).add j) = cs[j]?) ∧ DataW.trod enc Tryz.prog W 0 (fun _ => true) true n2 e cs = some x ∧ (x.1.weights Tryz.prog e).all (· ≤ reachBytes) = true := by
      intro i hi
      have hi' := hel i hi
      rw [List.getElem?_eq_getElem (by omega), Option.bind_eq_some_iff] at hi'
      obtain ⟨cs', hc', ht'⟩ := hi'
      obtain ⟨_, hl6, hc6⟩ := World.cells?_some hc'
      exact ⟨cs', elems[i], hl6, fun j hj => hc6 j hj, ht', hs2 _ (List.mem_map.2 ⟨elems[i], List.getElem_mem _, rfl⟩)⟩
    by_cases h0 : len = 0
    · exact ⟨some a, 0, 0, len, cap, rfl, hl', hlb, fun h => by omega, fun i h => by omega⟩
    · obtain ⟨b, off, spot⟩ := a
      obtain ⟨cs0, x0, hl0, hc0, _, _⟩ := hex 0 (by omega)
      have c0 := hc0 0 hk0
      rw [List.getElem?_eq_getElem (by omega)] at c0
      have hspot : spot = none := by simpa [Addr.add] using World.cell?_spot c0
      subst hspot
      have hblt : b < W.heap.size := by
        rw [add_none, add_none] at c0
        exact World.block_lt_of_cell? W _ c0
      refine ⟨some ⟨b, off, none⟩, b, off, len, cap, rfl, hl', hlb, fun _ => ⟨rfl, hblt⟩, fun i hi => ?_⟩
      obtain ⟨cs, x, hl1, hc1, ht1, hs3⟩ := hex i hi
      refine ⟨cs, n2, x, hl1, fun j hj => ?_, ht1, hs3⟩
      have := hc1 j hj
      rw [add_none, add_none, Nat.add_assoc] at this
      exact this
/-- A slice of bytes. -/
theorem open_bytes {fuel : Nat} {c : Value} {y : DataW H × List MemPlace} (h : DataW.trod enc Tryz.prog W 0 (fun _ => true) true fuel 58 [c] = some y) (hsz : (y.1.weights Tryz.prog 58).all (· ≤ reachBytes) = true) : ∃ l : List UInt8, Rd W (fun _ => True) c l ∧ l.length ≤ 140737488355328 := by
  rcases DataW.trod_slice Tryz.underlying58 h with ⟨hcs, _⟩ | ⟨a, len, cap, elems, rest, n2, _, hcs, hx, _, hl', _, hlen, hel, _, _⟩
  · simp only [List.cons.injEq, and_true] at hcs
    subst hcs
    exact ⟨[], Rd.nil _ _, by simp⟩
  · simp only [List.cons.injEq, and_true] at hcs
    subst hcs
    rw [hx] at hsz
    obtain ⟨hs1, _⟩ := all_slice Tryz.underlying58 hsz
    rw [Tryz.bytes5] at hs1
    simp at hs1
    have hrb := reachBytes_lt
    rw [Tryz.cells5] at hel
    have hex : ∀ i, i < len → ∃ z : UInt8, W.cell? (a.add i) = some (.int .u8 z.toNat) := by
      intro i hi
      have hi' := hel i hi
      rw [List.getElem?_eq_getElem (by omega), Option.bind_eq_some_iff] at hi'
      obtain ⟨cs', hc', ht'⟩ := hi'
      obtain ⟨_, hl6, hc6⟩ := World.cells?_some hc'
      obtain ⟨z, e, _, w0⟩ := DataW.trod_int (k := .u8) Tryz.underlying5 ht'
      have hbd := bounds_u8 w0
      have := hc6 0 (by omega)
      subst e
      refine ⟨UInt8.ofNat z.toNat, ?_⟩
      have e0 : (a.add (i * 1)).add 0 = a.add i := by cases a; simp [Addr.add]
      rw [e0] at this
      rw [this]
      simp
      omega
    obtain ⟨f, hf⟩ := choose_lt hex
    refine ⟨(List.range len).map f, ?_, by simp; omega⟩
    have hll : ((List.range len).map f).length = len := by simp
    by_cases h0 : len = 0
    · exact ⟨some a, 0, 0, cap, by rw [hll], by rw [hll]; exact hl', (fun h => by cases h), fun h => by rw [hll] at h; omega, fun i h => by rw [hll] at h; omega⟩
    · obtain ⟨b, off, spot⟩ := a
      have c0 := hf 0 (by omega)
      have hspot : spot = none := by simpa [Addr.add] using World.cell?_spot c0
      subst hspot
      have hblt : b < W.heap.size := by
        rw [add_none] at c0
        exact World.block_lt_of_cell? W _ c0
      refine ⟨some ⟨b, off, none⟩, b, off, cap, by rw [hll], by rw [hll]; exact hl', (fun h => by cases h), fun _ => ⟨rfl, hblt, trivial⟩, fun j hj => ?_⟩
      have dj := hf j (by rw [hll] at hj; exact hj)
      rw [add_none] at dj
      rw [dj]
      simp
theorem str_sized {s : ByteArray} {x : DataW H × List MemPlace} (h : x = (.lit (.string s.data.toList), [])) (hs : (x.1.weights Tryz.prog 9).all (· ≤ reachBytes) = true) : s.size ≤ 140737488355328 := by
  subst h
  simp only [DataW.weights, List.all_cons, List.all_nil, Bool.and_true, decide_eq_true_eq] at hs
  have : s.data.toList.length = s.size := rfl
  rw [this] at hs
  unfold reachBytes at hs
  omega
theorem file_sized {d0 d1 : DataW H} (h : ((DataW.agg [d0, d1]).weights Tryz.prog 130).all (· ≤ reachBytes) = true) : (d1.weights Tryz.prog 58).all (· ≤ reachBytes) = true ∧ (d0.weights Tryz.prog 9).all (· ≤ reachBytes) = true := by
  rw [List.all_eq_true] at h
  simp only [DataW.weights, Tryz.underlying130, DataW.weightsEach, List.map_cons, List.map_nil, List.append_nil] at h
  exact ⟨List.all_eq_true.2 fun n hn => h n (by simp only [List.mem_append]; exact Or.inr hn), List.all_eq_true.2 fun n hn => h n (by simp only [List.mem_append]; exact Or.inl hn)⟩
set_option maxRecDepth 100000 in
theorem open_file {fuel : Nat} {cs : List Value} {x : DataW H × List MemPlace} (h : DataW.trod enc Tryz.prog W 0 (fun _ => true) true fuel 130 cs = some x) (hs : (x.1.weights Tryz.prog 130).all (· ≤ reachBytes) = true) :
    ∃ (s : ByteArray) (v : Value) (l : List UInt8), cs = [.string s, v] ∧ Rd W (fun _ => True) v l ∧ l.length ≤ 140737488355328 ∧ s.size ≤ 140737488355328 := by
  obtain ⟨xs, k, _, hx, hl, hxl, hf⟩ := DataW.trod_struct Tryz.underlying130 h
  rw [Tryz.cells130] at hl
  obtain ⟨x0, x1, rfl⟩ : ∃ x0 x1, xs = [x0, x1] := by
    match xs, (show xs.length = 2 from hxl) with
    | [a, b], _ => exact ⟨a, b, rfl⟩
  rw [hx] at hs
  have s1 := file_sized (d0 := x0.1) (d1 := x1.1) hs
  obtain ⟨c0, c1, rfl⟩ : ∃ c0 c1, cs = [c0, c1] := by
    match cs, hl with
    | [a, b], _ => exact ⟨a, b, rfl⟩
  have f0 : DataW.trod enc Tryz.prog W 0 (fun _ => true) true k 9 [c0] = some x0 := by
    have := hf 0 _ rfl
    change DataW.trod enc Tryz.prog W 0 (fun _ => true) true k 9 ((([c0, c1] : List Value).drop 0).take (Tryz.prog.cellsOf 9)) = some x0 at this
    rw [Tryz.cells9] at this
    exact this
  have f1 : DataW.trod enc Tryz.prog W 0 (fun _ => true) true k 58 [c1] = some x1 := by
    have := hf 1 _ rfl
    change DataW.trod enc Tryz.prog W 0 (fun _ => true) true k 58 ((([c0, c1] : List Value).drop 1).take (Tryz.prog.cellsOf 58)) = some x1 at this
    rw [Tryz.cells58] at this
    exact this
  obtain ⟨s, e0, g0, _⟩ := DataW.trod_string Tryz.underlying9 f0
  have hs9 := str_sized g0 s1.2
  obtain ⟨l, h1, h2⟩ := open_bytes f1 s1.1
  simp only [List.cons.injEq, and_true] at e0
  subst e0
  exact ⟨s, c1, l, rfl, h1, h2, hs9⟩
theorem open_files {fuel : Nat} {v : Value} {y : DataW H × List MemPlace} (h : DataW.trod enc Tryz.prog W 0 (fun _ => true) true fuel 66 [v] = some y) (hsz : (y.1.weights Tryz.prog 66).all (· ≤ reachBytes) = true) :
    ∃ (a : Option Addr) (b o n c : Nat) (L : Cn), v = .slice a n c ∧ n = L.length ∧ n ≤ 140737488355328 ∧ ArF W (fun k => k < W.heap.size) a b o L ∧ (∀ p ∈ L, p.2.length ≤ 140737488355328) ∧ ∀ p ∈ L, p.1.size ≤ 140737488355328 := by
  obtain ⟨a, b, o, n, c, rfl, hnc, hn, ha, hel⟩ := open_rows Tryz.underlying66 Tryz.cells130 (by decide) (by rw [Tryz.bytes130]; decide) h hsz
  have hex : ∀ i, i < n → ∃ q : ByteArray × List UInt8, W.cell? ⟨b, o + i * 2, none⟩ = some (.string q.1) ∧ (∃ v, W.cell? ⟨b, o + i * 2 + 1, none⟩ = some v ∧ Rd W (fun k => k < W.heap.size) v q.2) ∧ q.2.length ≤ 140737488355328 ∧ q.1.size ≤ 140737488355328 := by
    intro i hi
    obtain ⟨cs, m, x, hcl, hcell, ht, hs⟩ := hel i hi
    obtain ⟨s, v, l, rfl, h1, h2, h9⟩ := open_file ht hs
    have q0 := hcell 0 (by omega)
    have q1 := hcell 1 (by omega)
    exact ⟨(s, l), by rw [Nat.add_zero] at q0; exact q0, ⟨v, by rw [← Nat.add_assoc] at q1; exact q1, h1.mono (fun k hk _ => hk)⟩, h2, h9⟩
  haveI : Inhabited (ByteArray × List UInt8) := ⟨(⟨#[]⟩, [])⟩
  obtain ⟨f, hf⟩ := choose_lt hex
  have hl : ((List.range n).map f).length = n := by simp
  refine ⟨a, b, o, n, c, (List.range n).map f, rfl, hl.symm, hn, ⟨fun h0 => ?_, fun i hi => ?_⟩, fun p hp => ?_, fun p hp => ?_⟩
  · rw [hl] at h0
    exact ⟨(ha h0).1, (ha h0).2, (ha h0).2⟩
  · rw [hl] at hi
    simp only [List.getElem_map, List.getElem_range]
    exact ⟨(hf i hi).1, (hf i hi).2.1⟩
  · obtain ⟨i, hi, rfl⟩ := List.mem_map.1 hp
    exact (hf i (List.mem_range.1 hi)).2.2.1
  · obtain ⟨i, hi, rfl⟩ := List.mem_map.1 hp
    exact (hf i (List.mem_range.1 hi)).2.2.2
theorem op_sized {d0 d1 d2 d3 d4 d5 d6 d7 : DataW H} (h : ((DataW.agg [d0, d1, d2, d3, d4, d5, d6, d7]).weights Tryz.prog 83).all (· ≤ reachBytes) = true) : (d4.weights Tryz.prog 58).all (· ≤ reachBytes) = true ∧ (d7.weights Tryz.prog 66).all (· ≤ reachBytes) = true ∧ (d2.weights Tryz.prog 9).all (· ≤ reachBytes) = true ∧ (d3.weights Tryz.prog 9).all (· ≤ reachBytes) = true := by
  rw [List.all_eq_true] at h
  simp only [DataW.weights, Tryz.underlying83, DataW.weightsEach, List.map_cons, List.map_nil, List.append_nil] at h
  exact ⟨List.all_eq_true.2 fun n hn => h n (by simp only [List.mem_append]; exact Or.inr (Or.inr (Or.inr (Or.inr (Or.inl hn))))), List.all_eq_true.2 fun n hn => h n (by simp only [List.mem_append]; exact Or.inr (Or.inr (Or.inr (Or.inr (Or.inr (Or.inr (Or.inr hn))))))), List.all_eq_true.2 fun n hn => h n (by simp only [List.mem_append]; exact Or.inr (Or.inr (Or.inl hn))), List.all_eq_true.2 fun n hn => h n (by simp only [List.mem_append]; exact Or.inr (Or.inr (Or.inr (Or.inl hn))))⟩
set_option maxRecDepth 100000 in
theorem open_op {fuel : Nat} {cs : List Value} {x : DataW H × List MemPlace} (h : DataW.trod enc Tryz.prog W 0 (fun _ => true) true fuel 83 cs = some x) (hs : (x.1.weights Tryz.prog 83).all (· ≤ reachBytes) = true) : ∃ t : Opv, cs = t.cells ∧ t.In W (fun k => k < W.heap.size) ∧ t.Nm := by
  obtain ⟨xs, k, _, hx, hl, hxl, hf⟩ := DataW.trod_struct Tryz.underlying83 h
  rw [Tryz.cells83] at hl
  obtain ⟨x0, x1, x2, x3, x4, x5, x6, x7, rfl⟩ : ∃ x0 x1 x2 x3 x4 x5 x6 x7, xs = [x0, x1, x2, x3, x4, x5, x6, x7] := by
    match xs, (show xs.length = 8 from hxl) with
    | [a, b, c, d, e, f, g, h], _ => exact ⟨a, b, c, d, e, f, g, h, rfl⟩
  rw [hx] at hs
  obtain ⟨s4, s7, s2, s3⟩ := op_sized (d0 := x0.1) (d1 := x1.1) (d2 := x2.1) (d3 := x3.1) (d4 := x4.1) (d5 := x5.1) (d6 := x6.1) (d7 := x7.1) hs
  obtain ⟨c0, c1, c2, c3, c4, c5, c6, c7, rfl⟩ : ∃ c0 c1 c2 c3 c4 c5 c6 c7, cs = [c0, c1, c2, c3, c4, c5, c6, c7] := by
    match cs, hl with
    | [a, b, c, d, e, f, g, h], _ => exact ⟨a, b, c, d, e, f, g, h, rfl⟩
  have f0 : DataW.trod enc Tryz.prog W 0 (fun _ => true) true k 3 [c0] = some x0 := by
    have := hf 0 _ rfl
    change DataW.trod enc Tryz.prog W 0 (fun _ => true) true k 3 ((([c0, c1, c2, c3, c4, c5, c6, c7] : List Value).drop 0).take (Tryz.prog.cellsOf 3)) = some x0 at this
    rw [Tryz.cells3] at this
    exact this
  have f1 : DataW.trod enc Tryz.prog W 0 (fun _ => true) true k 3 [c1] = some x1 := by
    have := hf 1 _ rfl
    change DataW.trod enc Tryz.prog W 0 (fun _ => true) true k 3 ((([c0, c1, c2, c3, c4, c5, c6, c7] : List Value).drop 1).take (Tryz.prog.cellsOf 3)) = some x1 at this
    rw [Tryz.cells3] at this
    exact this
  have f2 : DataW.trod enc Tryz.prog W 0 (fun _ => true) true k 9 [c2] = some x2 := by
    have := hf 2 _ rfl
    change DataW.trod enc Tryz.prog W 0 (fun _ => true) true k 9 ((([c0, c1, c2, c3, c4, c5, c6, c7] : List Value).drop 2).take (Tryz.prog.cellsOf 9)) = some x2 at this
    rw [Tryz.cells9] at this
    exact this
  have f3 : DataW.trod enc Tryz.prog W 0 (fun _ => true) true k 9 [c3] = some x3 := by
    have := hf 3 _ rfl
    change DataW.trod enc Tryz.prog W 0 (fun _ => true) true k 9 ((([c0, c1, c2, c3, c4, c5, c6, c7] : List Value).drop 3).take (Tryz.prog.cellsOf 9)) = some x3 at this
    rw [Tryz.cells9] at this
    exact this
  have f4 : DataW.trod enc Tryz.prog W 0 (fun _ => true) true k 58 [c4] = some x4 := by
    have := hf 4 _ rfl
    change DataW.trod enc Tryz.prog W 0 (fun _ => true) true k 58 ((([c0, c1, c2, c3, c4, c5, c6, c7] : List Value).drop 4).take (Tryz.prog.cellsOf 58)) = some x4 at this
    rw [Tryz.cells58] at this
    exact this
  have f5 : DataW.trod enc Tryz.prog W 0 (fun _ => true) true k 3 [c5] = some x5 := by
    have := hf 5 _ rfl
    change DataW.trod enc Tryz.prog W 0 (fun _ => true) true k 3 ((([c0, c1, c2, c3, c4, c5, c6, c7] : List Value).drop 5).take (Tryz.prog.cellsOf 3)) = some x5 at this
    rw [Tryz.cells3] at this
    exact this
  have f6 : DataW.trod enc Tryz.prog W 0 (fun _ => true) true k 3 [c6] = some x6 := by
    have := hf 6 _ rfl
    change DataW.trod enc Tryz.prog W 0 (fun _ => true) true k 3 ((([c0, c1, c2, c3, c4, c5, c6, c7] : List Value).drop 6).take (Tryz.prog.cellsOf 3)) = some x6 at this
    rw [Tryz.cells3] at this
    exact this
  have f7 : DataW.trod enc Tryz.prog W 0 (fun _ => true) true k 66 [c7] = some x7 := by
    have := hf 7 _ rfl
    change DataW.trod enc Tryz.prog W 0 (fun _ => true) true k 66 ((([c0, c1, c2, c3, c4, c5, c6, c7] : List Value).drop 7).take (Tryz.prog.cellsOf 66)) = some x7 at this
    rw [Tryz.cells66] at this
    exact this
  obtain ⟨z0, e0, _, _⟩ := DataW.trod_int (k := .i64) Tryz.underlying3 f0
  obtain ⟨z1, e1, _, _⟩ := DataW.trod_int (k := .i64) Tryz.underlying3 f1
  obtain ⟨t2, e2, g2, _⟩ := DataW.trod_string Tryz.underlying9 f2
  have n2 := str_sized g2 s2
  obtain ⟨t3, e3, g3, _⟩ := DataW.trod_string Tryz.underlying9 f3
  have n3 := str_sized g3 s3
  obtain ⟨bs, hb, hbl⟩ := open_bytes f4 s4
  obtain ⟨z5, e5, _, w5⟩ := DataW.trod_int (k := .i64) Tryz.underlying3 f5
  obtain ⟨z6, e6, _, _⟩ := DataW.trod_int (k := .i64) Tryz.underlying3 f6
  obtain ⟨fa, g, off, fn, fc, L, rfl, hfn, hfl, hA, hLl, hLs⟩ := open_files f7 s7
  simp only [List.cons.injEq, and_true] at e0 e1 e2 e3 e5 e6
  subst e0 e1 e2 e3 e5 e6
  have hb' : Rd W (fun k => k < W.heap.size) c4 bs := hb.mono (fun k hk _ => hk)
  obtain ⟨ba, bb, bo, bc, rfl, q⟩ := hb
  exact ⟨⟨z0, z1, t2, t3, ba, bs.length, bc, bs, z5, z6, fa, fn, fc, L⟩, rfl, ⟨hb', ⟨hfn, g, off, hA⟩, hbl, hLl, hfl⟩, n2, n3, hLs, (i64_of w5).2⟩
theorem open_ops {fuel : Nat} {v : Value} {y : DataW H × List MemPlace} (h : DataW.trod enc Tryz.prog W 0 (fun _ => true) true fuel 23 [v] = some y) (hsz : (y.1.weights Tryz.prog 23).all (· ≤ reachBytes) = true) :
    ∃ (a : Option Addr) (b o n c : Nat) (T : Nat → Opv), v = .slice a n c ∧ n ≤ 140737488355328 ∧ ArO W (fun k => k < W.heap.size) a b o n T ∧ ∀ i, i < n → (T i).Nm := by
  obtain ⟨a, b, o, n, c, hv, hnc, hn, ha, hel⟩ := open_rows Tryz.underlying23 Tryz.cells83 (by decide) (by rw [Tryz.bytes83]; decide) h hsz
  have hex : ∀ i, i < n → ∃ q : Opv, (W.rangeAt b (o + i * 8) q.cells ∧ q.In W (fun k => k < W.heap.size)) ∧ q.Nm := by
    intro i hi
    obtain ⟨cs, m, x, hcl, hcell, ht, hs⟩ := hel i hi
    obtain ⟨q, rfl, hq, hqn⟩ := open_op ht hs
    refine ⟨q, ⟨fun j v hj => ?_, hq⟩, hqn⟩
    have hj' : j < 8 := by rw [← hcl]; exact (List.getElem?_eq_some_iff.1 hj).1
    have := hcell j hj'
    rw [hj, ← Nat.add_assoc] at this
    exact this
  haveI : Inhabited Opv := ⟨⟨0, 0, ⟨#[]⟩, ⟨#[]⟩, none, 0, 0, [], 0, 0, none, 0, 0, []⟩⟩
  obtain ⟨f, hf⟩ := choose_lt hex
  exact ⟨a, b, o, n, c, f, hv, hn, ⟨fun h0 => ⟨(ha h0).1, (ha h0).2, (ha h0).2⟩, fun i hi => (hf i hi).1⟩, fun i hi => (hf i hi).2⟩
theorem script_sized {d0 d1 : DataW H} (h : ((DataW.agg [d0, d1]).weights Tryz.prog 25).all (· ≤ reachBytes) = true) : (d1.weights Tryz.prog 23).all (· ≤ reachBytes) = true := by
  rw [List.all_eq_true] at h
  simp only [DataW.weights, Tryz.underlying25, DataW.weightsEach, List.map_cons, List.map_nil, List.append_nil] at h
  exact List.all_eq_true.2 fun n hn => h n (by simp only [List.mem_append]; exact Or.inr hn)
set_option maxRecDepth 100000 in
theorem open_script {fuel : Nat} {cs : List Value} {x : DataW H × List MemPlace} (h : DataW.trod enc Tryz.prog W 0 (fun _ => true) true fuel 25 cs = some x) (hs : (x.1.weights Tryz.prog 25).all (· ≤ reachBytes) = true) :
    ∃ (r0 r1 : Int) (a : Option Addr) (b o n c : Nat) (T : Nat → Opv), cs = [.int .i64 r0, .int .i64 r1, .slice a n c] ∧ n ≤ 140737488355328 ∧ ArO W (fun k => k < W.heap.size) a b o n T ∧ ∀ i, i < n → (T i).Nm := by
  obtain ⟨xs, k, _, hx, hl, hxl, hf⟩ := DataW.trod_struct Tryz.underlying25 h
  rw [Tryz.cells25] at hl
  obtain ⟨x0, x1, rfl⟩ : ∃ x0 x1, xs = [x0, x1] := by
    match xs, (show xs.length = 2 from hxl) with
    | [a, b], _ => exact ⟨a, b, rfl⟩
  rw [hx] at hs
  have s1 := script_sized (d0 := x0.1) (d1 := x1.1) hs
  obtain ⟨c0, c1, c2, rfl⟩ : ∃ c0 c1 c2, cs = [c0, c1, c2] := by
    match cs, hl with
    | [a, b, c], _ => exact ⟨a, b, c, rfl⟩
  have f0 : DataW.trod enc Tryz.prog W 0 (fun _ => true) true k 22 [c0, c1] = some x0 := by
    have := hf 0 _ rfl
    change DataW.trod enc Tryz.prog W 0 (fun _ => true) true k 22 ((([c0, c1, c2] : List Value).drop 0).take (Tryz.prog.cellsOf 22)) = some x0 at this
    rw [Tryz.cells22] at this
    exact this
  have f1 : DataW.trod enc Tryz.prog W 0 (fun _ => true) true k 23 [c2] = some x1 := by
    have := hf 1 _ rfl
    change DataW.trod enc Tryz.prog W 0 (fun _ => true) true k 23 ((([c0, c1, c2] : List Value).drop 2).take (Tryz.prog.cellsOf 23)) = some x1 at this
    rw [Tryz.cells23] at this
    exact this
  obtain ⟨ys, m, _, _, _, hyl, hy⟩ := DataW.trod_array Tryz.underlying22 f0
  have g0 := hy 0 (by decide)
  have g1 := hy 1 (by decide)
  rw [Tryz.cells3, List.getElem?_eq_getElem (by omega)] at g0 g1
  obtain ⟨r0, e0, _, _⟩ := DataW.trod_int (k := .i64) Tryz.underlying3 g0
  obtain ⟨r1, e1, _, _⟩ := DataW.trod_int (k := .i64) Tryz.underlying3 g1
  obtain ⟨a, b, o, n, c, T, rfl, h1, h2, h3⟩ := open_ops f1 s1
  simp at e0 e1
  subst e0 e1
  exact ⟨r0, r1, a, b, o, n, c, T, rfl, h1, h2, h3⟩
end
end Go.Proofs.YtlgjmdianmijeaaGreat
