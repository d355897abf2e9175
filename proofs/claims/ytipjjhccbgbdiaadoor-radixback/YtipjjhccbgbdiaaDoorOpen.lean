/- What a reading of the statement's argument gives the walks: rows of bytes; pairs of numbers; the table of tens. -/
import Derived.Test.YtipjjhccbgbdiaaDoorOrder
import Derived.Test.YtipjjhccbgbdiaaDoorRows
import Derived.ProofKit
import Derived.OpenShut
import Derived.SizedLaws
import Derived.Deep.Matrix
import Derived.Deep.SlicePairs
import Derived.Deep.Strs
import Derived.Lib.LaidTab
import Derived.Stop.LaidErr
import Derived.LaidMore
import Derived.MakeChecks
namespace Go.Proofs.YtipjjhccbgbdiaaDoor
open Go Go.RowKit Go.ChangeShapes Go.WideShapes Go.Deep

theorem Tryd.cells27 : Tryd.prog.cellsOf 27 = 4 := by kernel_rfl
theorem Tryd.cells28 : Tryd.prog.cellsOf 28 = 1 := by kernel_rfl
theorem Tryd.cells9 : Tryd.prog.cellsOf 9 = 1 := by kernel_rfl
theorem Tryd.cells2 : Tryd.prog.cellsOf 2 = 1 := by kernel_rfl
theorem Tryd.cells39 : Tryd.prog.cellsOf 39 = 2 := by kernel_rfl
theorem Tryd.cells5 : Tryd.prog.cellsOf 5 = 1 := by kernel_rfl
theorem Tryd.cells37 : Tryd.prog.cellsOf 37 = 1 := by kernel_rfl
theorem Tryd.cells3 : Tryd.prog.cellsOf 3 = 1 := by kernel_rfl
theorem Tryd.bytes5 : Tryd.prog.bytesOf 5 = 1 := by kernel_rfl
theorem Tryd.bytes28 : Tryd.prog.bytesOf 28 = 24 := by kernel_rfl
theorem Tryd.bytes39 : Tryd.prog.bytesOf 39 = 16 := by kernel_rfl

theorem weightsAll_mem {H : Type} {P : Program} {e : TypeId} {d : DataW H} : ∀ {l : List (DataW H)}, d ∈ l → ∀ n ∈ d.weights P e, n ∈ DataW.weightsAll P e l
  | x :: r, hd, n, hn => by
    simp only [DataW.weightsAll, List.mem_append]
    rcases List.mem_cons.1 hd with rfl | h
    · exact .inl hn
    · exact .inr (weightsAll_mem h n hn)

theorem all_slice {H : Type} {P : Program} {t e : TypeId} {elems spare : List (DataW H)} (hu : P.underlying t = some (.slice e)) (h : ((DataW.slice elems spare).weights P t).all (· ≤ reachBytes) = true) :
    (elems.length + spare.length) * P.bytesOf e ≤ reachBytes ∧ ∀ d ∈ elems, (d.weights P e).all (· ≤ reachBytes) = true := by
  simp only [DataW.weights, hu] at h
  rw [List.all_eq_true] at h
  refine ⟨of_decide_eq_true (h _ (List.mem_cons_self ..)), fun d hd => List.all_eq_true.2 fun n hn => h n (List.mem_cons_of_mem _ (List.mem_append_left _ (weightsAll_mem hd n hn)))⟩

/-- Rows of bytes, as the walks read them. -/
def ArgB (W : World) (v : Value) : Prop :=
  ∃ (aB : Option Addr) (bB oB nB cB : Nat) (V : Nat → Value) (L : Nat → List UInt8), v = .slice aB nB cB ∧ nB ≤ 140737488355328 ∧ (0 < nB → aB = some ⟨bB, oB, none⟩ ∧ bB < W.heap.size) ∧ ∀ i, i < nB → W.cell? ⟨bB, oB + i, none⟩ = some (V i) ∧ Rd W (V i) (L i) ∧ (L i).length ≤ 140737488355328

theorem add_none {b o i : Nat} : (⟨b, o, none⟩ : Addr).add i = ⟨b, o + i, none⟩ := Addr.add_lit ..

section
variable {H : Type} {enc : TypeId × Value → H} {W : World}

theorem open_B {fuel : Nat} {v : Value} {y : DataW H × List MemPlace} (h : DataW.trod enc Tryd.prog W 0 (fun _ => true) true fuel 22 [v] = some y) (hsz : (y.1.weights Tryd.prog 22).all (· ≤ reachBytes) = true) : ArgB W v := by
  rcases open_int_rows Tryd.underlying22 Tryd.underlying28 Tryd.underlying5 Tryd.cells28 Tryd.cells5 h with ⟨hcs, _⟩ | ⟨a, len, cap, A, L, C, Z, hcs, _, hl, hm, hx, hr⟩
  · simp only [List.cons.injEq, and_true] at hcs
    exact ⟨none, 0, 0, 0, 0, fun _ => undef, fun _ => [], hcs, by omega, fun h => by omega, fun i h => by omega⟩
  · simp only [List.cons.injEq, and_true] at hcs
    rw [hx] at hsz
    obtain ⟨hs1, hs2⟩ := all_slice Tryd.underlying22 hsz
    rw [Tryd.bytes28] at hs1
    simp at hs1
    have hrb := reachBytes_lt
    have hlen : len ≤ 140737488355328 := by omega
    by_cases h0 : len = 0
    · exact ⟨some a, 0, 0, len, cap, fun _ => undef, fun _ => [], hcs, hlen, fun h => by omega, fun i h => by omega⟩
    · obtain ⟨b, off, spot⟩ := a
      have c0 := (hr 0 (by omega)).1
      have hspot : spot = none := by simpa [Addr.add] using World.cell?_spot c0
      subst hspot
      have hblt : b < W.heap.size := by
        rw [add_none] at c0
        exact World.block_lt_of_cell? W _ c0
      refine ⟨some ⟨b, off, none⟩, b, off, len, cap, fun i => .slice (A i) (L i) (C i), fun i => ((Z i).take (L i)).map fun z => UInt8.ofNat z.toNat, hcs, hlen, fun _ => ⟨rfl, hblt⟩, fun i hi => ?_⟩
      obtain ⟨r1, r2, r3, r4, r5, r6, r7⟩ := hr i (by omega)
      rw [add_none] at r1
      have hLl : (((Z i).take (L i)).map fun z => UInt8.ofNat z.toNat).length = L i := by rw [List.length_map, List.length_take]; omega
      have hLb : L i ≤ 140737488355328 := by
        cases hA : A i with
        | none => have := r6 hA; omega
        | some a' =>
          have hin := hs2 (intRow .u8 (A i) (L i) (Z i)) (List.mem_map.2 ⟨i, List.mem_range.2 hi, rfl⟩)
          rw [hA] at hin
          obtain ⟨hs3, _⟩ := all_slice Tryd.underlying28 hin
          rw [Tryd.bytes5] at hs3
          simp [lits] at hs3
          omega
      refine ⟨r1, ?_, by rw [hLl]; exact hLb⟩
      show Rd W (.slice (A i) (L i) (C i)) (((Z i).take (L i)).map fun z => UInt8.ofNat z.toNat)
      cases hA : A i with
      | none =>
        have hC := r6 hA
        have hL0 : L i = 0 := by omega
        exact ⟨none, 0, 0, C i, by rw [hLl], by rw [hLl]; exact r2, fun _ => hC, fun h => by rw [hLl] at h; omega, fun j h => by rw [hLl] at h; omega⟩
      | some a' =>
        obtain ⟨_, r8⟩ := r7 a' hA
        by_cases hL0 : L i = 0
        · exact ⟨some a', 0, 0, C i, by rw [hLl], by rw [hLl]; exact r2, (fun h => by cases h), fun h => by rw [hLl] at h; omega, fun j h => by rw [hLl] at h; omega⟩
        · obtain ⟨b', off', spot'⟩ := a'
          have d0 := r8 0 (by omega)
          have hspot' : spot' = none := by simpa [Addr.add] using World.cell?_spot d0
          subst hspot'
          have hblt' : b' < W.heap.size := by
            rw [add_none] at d0
            exact World.block_lt_of_cell? W _ d0
          refine ⟨some ⟨b', off', none⟩, b', off', C i, by rw [hLl], by rw [hLl]; exact r2, (fun h => by cases h), fun _ => ⟨rfl, hblt'⟩, fun j hj => ?_⟩
          rw [hLl] at hj
          have dj := r8 j (by omega)
          rw [add_none] at dj
          rw [dj]
          have hz : j < (Z i).length := by omega
          have hwf := r5 ((Z i)[j]) (List.getElem_mem hz)
          have hbd := bounds_u8 hwf
          simp [List.getD, List.getElem?_eq_getElem hz]
          omega

/-- Pairs of numbers, as the walks read them. -/
def ArgW (W : World) (v : Value) : Prop :=
  ∃ (aW : Option Addr) (bW oW nW cW : Nat) (N : Nat → Nat) (K : Nat → Int), v = .slice aW nW cW ∧ nW ≤ 140737488355328 ∧ (0 < nW → aW = some ⟨bW, oW, none⟩ ∧ bW < W.heap.size) ∧ ∀ i, i < nW → W.cell? ⟨bW, oW + i * 2, none⟩ = some (.int .u64 (N i)) ∧ W.cell? ⟨bW, oW + i * 2 + 1, none⟩ = some (.int .i64 (K i)) ∧ N i < 18446744073709551616 ∧ -9223372036854775808 ≤ K i ∧ K i ≤ 9223372036854775807

theorem open_W {fuel : Nat} {v : Value} {y : DataW H × List MemPlace} (h : DataW.trod enc Tryd.prog W 0 (fun _ => true) true fuel 25 [v] = some y) (hsz : (y.1.weights Tryd.prog 25).all (· ≤ reachBytes) = true) : ArgW W v := by
  rcases open_slice_pairs Tryd.underlying25 Tryd.underlying39 Tryd.cells39 rfl rfl Tryd.cells37 Tryd.cells3 h with ⟨hcs, _⟩ | ⟨a, len, cap, m, n, V0, V1, D0, D1, P0, P1, hcs, _, hl, hm, hmm, hx, hr⟩
  · simp only [List.cons.injEq, and_true] at hcs
    exact ⟨none, 0, 0, 0, 0, fun _ => 0, fun _ => 0, hcs, by omega, fun h => by omega, fun i h => by omega⟩
  · simp only [List.cons.injEq, and_true] at hcs
    simp only [if_true] at hmm
    rw [hx] at hsz
    obtain ⟨hs1, _⟩ := all_slice Tryd.underlying25 hsz
    rw [Tryd.bytes39] at hs1
    simp at hs1
    have hrb := reachBytes_lt
    have hlen : len ≤ 140737488355328 := by omega
    have hex : ∀ i, i < len → ∃ q : Nat × Int, W.cell? (a.add (i * 2)) = some (.int .u64 q.1) ∧ W.cell? (a.add (i * 2 + 1)) = some (.int .i64 q.2) ∧ q.1 < 18446744073709551616 ∧ -9223372036854775808 ≤ q.2 ∧ q.2 ≤ 9223372036854775807 := by
      intro i hi
      obtain ⟨r1, r2, r3, r4⟩ := hr i (by omega)
      obtain ⟨z0, e0, _, w0⟩ := DataW.trod_int (k := .u64) Tryd.underlying37 r3
      obtain ⟨z1, e1, _, w1⟩ := DataW.trod_int (k := .i64) Tryd.underlying3 r4
      simp only [List.cons.injEq, and_true] at e0 e1
      have b0 := bounds_u64 w0
      have b1 := bounds_i64 w1
      refine ⟨(z0.toNat, z1), ?_, ?_, by simp only []; omega, by simp only []; omega, by simp only []; omega⟩
      · rw [r1, e0]
        simp only [Option.some.injEq, Value.int.injEq, true_and]
        omega
      · rw [r2, e1]
    obtain ⟨f, hf⟩ := choose_lt hex
    by_cases h0 : len = 0
    · exact ⟨some a, 0, 0, len, cap, fun _ => 0, fun _ => 0, hcs, hlen, fun h => by omega, fun i h => by omega⟩
    · obtain ⟨b, off, spot⟩ := a
      have c0 := (hf 0 (by omega)).1
      have hspot : spot = none := by simpa [Addr.add] using World.cell?_spot c0
      subst hspot
      have hblt : b < W.heap.size := by
        rw [add_none] at c0
        exact World.block_lt_of_cell? W _ c0
      refine ⟨some ⟨b, off, none⟩, b, off, len, cap, fun i => (f i).1, fun i => (f i).2, hcs, hlen, fun _ => ⟨rfl, hblt⟩, fun i hi => ?_⟩
      have q := hf i hi
      rw [add_none, add_none] at q
      exact q
end

theorem parts_sized {H : Type} {d0 d1 d2 d3 : DataW H} (h : (DataW.weightsEach Tryd.prog [27] [.agg [d0, d1, d2, d3]]).all (· ≤ reachBytes) = true) :
    (d0.weights Tryd.prog 22).all (· ≤ reachBytes) = true ∧ (d1.weights Tryd.prog 23).all (· ≤ reachBytes) = true ∧ (d2.weights Tryd.prog 24).all (· ≤ reachBytes) = true ∧ (d3.weights Tryd.prog 25).all (· ≤ reachBytes) = true := by
  rw [List.all_eq_true] at h
  simp only [DataW.weightsEach, DataW.weights, Tryd.underlying27, List.map_cons, List.map_nil, List.append_nil] at h
  refine ⟨List.all_eq_true.2 fun n hn => h n ?_, List.all_eq_true.2 fun n hn => h n ?_, List.all_eq_true.2 fun n hn => h n ?_, List.all_eq_true.2 fun n hn => h n ?_⟩
  · exact List.mem_append_left _ hn
  · exact List.mem_append_right _ (List.mem_append_left _ hn)
  · exact List.mem_append_right _ (List.mem_append_right _ (List.mem_append_left _ hn))
  · exact List.mem_append_right _ (List.mem_append_right _ (List.mem_append_right _ hn))

theorem tensOf {W : World} (h : laidMetH Tryd.prog Rows.radixJoinsRow.laid W) : Tens W := by
  rw [MakeChecks.laidMetH_plain _ _ _ (by kernel_rfl)] at h
  have h3 : laidMet Tryd.prog [("internal/strconv.uint64pow10", Lib.tabData .u64 Lib.pow10Tab)] W := h.tail.tail
  exact Lib.tabIs_of_head (g := 0) (t := 75) (e := 37) (n := 20) tabName (by kernel_rfl) (by kernel_rfl) Tryd.underlying37 Tryd.cells37 (by kernel_rfl) h3
end Go.Proofs.YtipjjhccbgbdiaaDoor
