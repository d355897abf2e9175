/- What a reading of the statement's argument gives the walks: rows of bytes; pairs of numbers; the table of tens. -/
import Derived.Test.YtipjjhccbgbdiaaGreatDoorOrder
import Derived.Test.YtipjjhccbgbdiaaGreatDoorRows
import Derived.ProofKit
import Derived.OpenShut
import Derived.SizedLaws
import Derived.Deep.Matrix
import Derived.Deep.SlicePairs
import Derived.Deep.Strs
import Derived.Lib.LaidTab
import Derived.Stop.LaidErr
import Derived.LaidMore
import Derived.MakeChecks
namespace Go.Proofs.YtipjjhccbgbdiaaGreatDoor
open Go Go.RowKit Go.ChangeShapes Go.WideShapes Go.Deep

theorem Tryz.cells27 : Tryz.prog.cellsOf 27 = 4 := by kernel_rfl
theorem Tryz.cells58 : Tryz.prog.cellsOf 58 = 1 := by kernel_rfl
theorem Tryz.cells9 : Tryz.prog.cellsOf 9 = 1 := by kernel_rfl
theorem Tryz.cells2 : Tryz.prog.cellsOf 2 = 1 := by kernel_rfl
theorem Tryz.cells68 : Tryz.prog.cellsOf 68 = 2 := by kernel_rfl
theorem Tryz.cells5 : Tryz.prog.cellsOf 5 = 1 := by kernel_rfl
theorem Tryz.cells66 : Tryz.prog.cellsOf 66 = 1 := by kernel_rfl
theorem Tryz.cells3 : Tryz.prog.cellsOf 3 = 1 := by kernel_rfl
theorem Tryz.bytes5 : Tryz.prog.bytesOf 5 = 1 := by kernel_rfl
theorem Tryz.bytes58 : Tryz.prog.bytesOf 58 = 24 := by kernel_rfl
theorem Tryz.bytes68 : Tryz.prog.bytesOf 68 = 16 := by kernel_rfl

theorem weightsAll_mem {H : Type} {P : Program} {e : TypeId} {d : DataW H} : ∀ {l : List (DataW H)}, d ∈ l → ∀ n ∈ d.weights P e, n ∈ DataW.weightsAll P e l
  | x :: r, hd, n, hn => by
    simp only [DataW.weightsAll, List.mem_append]
    rcases List.mem_cons.1 hd with rfl | h
    · exact .inl hn
    · exact .inr (weightsAll_mem h n hn)

theorem all_slice {H : Type} {P : Program} {t e : TypeId} {elems spare : List (DataW H)} (hu : P.underlying t = some (.slice e)) (h : ((DataW.slice elems spare).weights P t).all (· ≤ reachBytes) = true) :
    (elems.length + spare.length) * P.bytesOf e ≤ reachBytes ∧ ∀ d ∈ elems, (d.weights P e).all (· ≤ reachBytes) = true := by
  simp only [DataW.weights, hu] at h
  rw [List.all_eq_true] at h
  refine ⟨of_decide_eq_true (h _ (List.mem_cons_self ..)), fun d hd => List.all_eq_true.2 fun n hn => h n (List.mem_cons_of_mem _ (List.mem_append_left _ (weightsAll_mem hd n hn)))⟩

/-- Rows of bytes, as the walks read them. -/
def ArgB (W : World) (v : Value) : Prop :=
  ∃ (aB : Option Addr) (bB oB nB cB : Nat) (V : Nat → Value) (L : Nat → List UInt8), v = .slice aB nB cB ∧ nB ≤ 140737488355328 ∧ (0 < nB → aB = some ⟨bB, oB, none⟩ ∧ bB < W.heap.size) ∧ ∀ i, i < nB → W.cell? ⟨bB, oB + i, none⟩ = some (V i) ∧ Rd W (V i) (L i) ∧ (L i).length ≤ 140737488355328

theorem add_none {b o i : Nat} : (⟨b, o, none⟩ : Addr).add i = ⟨b, o + i, none⟩ := Addr.add_lit ..

section
variable {H : Type} {enc : TypeId × Value → H} {W : World}

set_option maxRecDepth 100000 in
theorem open_B {fuel : Nat} {v : Value} {y : DataW H × List MemPlace} (h : DataW.trod enc Tryz.prog W 0 (fun _ => true) true fuel 22 [v] = some y) (hsz : (y.1.weights Tryz.prog 22).all (· ≤ reachBytes) = true) : ArgB W v := by
  rcases open_int_rows Tryz.underlying22 Tryz.underlying58 Tryz.underlying5 Tryz.cells58 Tryz.cells5 h with ⟨hcs, _⟩ | ⟨a, len, cap, A, L, C, Z, hcs, _, hl, hm, hx, hr⟩
  · simp only [List.cons.injEq, and_true] at hcs
    exact ⟨none, 0, 0, 0, 0, fun _ => undef, fun _ => [], hcs, by omega, fun h => by omega, fun i h => by omega⟩
  · simp only [List.cons.injEq, and_true] at hcs
    rw [hx] at hsz
    obtain ⟨hs1, hs2⟩ := all_slice Tryz.underlying22 hsz
    rw [Tryz.bytes58] at hs1
    simp at hs1
    have hrb := reachBytes_lt
    have hlen : len ≤ 140737488355328 := by omega
    by_cases h0 : len = 0
    · exact ⟨some a, 0, 0, len, cap, fun _ => undef, fun _ => [], hcs, hlen, fun h => by omega, fun i h => by omega⟩
    · obtain ⟨b, off, spot⟩ := a
      have c0 := (hr 0 (by omega)).1
      have hspot : spot = none := by simpa [Addr.add] using World.cell?_spot c0
      subst hspot
      have hblt : b < W.heap.size := by
        rw [add_none] at c0
        exact World.block_lt_of_cell? W _ c0
      refine ⟨some ⟨b, off, none⟩, b, off, len, cap, fun i => .slice (A i) (L i) (C i), fun i => ((Z i).take (L i)).map fun z => UInt8.ofNat z.toNat, hcs, hlen, fun _ => ⟨rfl, hblt⟩, fun i hi => ?_⟩
      obtain ⟨r1, r2, r3, r4, r5, r6, r7⟩ := hr i (by omega)
      rw [add_none] at r1
      have hLl : (((Z i).take (L i)).map fun z => UInt8.ofNat z.toNat).length = L i := by rw [List.length_map, List.length_take]; omega
      have hLb : L i ≤ 140737488355328 := by
        cases hA : A i with
        | none => have := r6 hA; omega
        | some a' =>
          have hin := hs2 (intRow .u8 (A i) (L i) (Z i)) (List.mem_map.2 ⟨i, List.mem_range.2 hi, rfl⟩)
          rw [hA] at hin
          obtain ⟨hs3, _⟩ := all_slice Tryz.underlying58 hin
          rw [Tryz.bytes5] at hs3
          simp [lits] at hs3
          omega
      refine ⟨r1, ?_, by rw [hLl]; exact hLb⟩
      show Rd W (.slice (A i) (L i) (C i)) (((Z i).take (L i)).map fun z => UInt8.ofNat z.toNat)
      cases hA : A i with
      | none =>
        have hC := r6 hA
        have hL0 : L i = 0 := by omega
        exact ⟨none, 0, 0, C i, by rw [hLl], by rw [hLl]; exact r2, fun _ => hC, fun h => by rw [hLl] at h; omega, fun j h => by rw [hLl] at h; omega⟩
      | some a' =>
        obtain ⟨_, r8⟩ := r7 a' hA
        by_cases hL0 : L i = 0
        · exact ⟨some a', 0, 0, C i, by rw [hLl], by rw [hLl]; exact r2, (fun h => by cases h), fun h => by rw [hLl] at h; omega, fun j h => by rw [hLl] at h; omega⟩
        · obtain ⟨b', off', spot'⟩ := a'
          have d0 := r8 0 (by omega)
          have hspot' : spot' = none := by simpa [Addr.add] using World.cell?_spot d0
          subst hspot'
          have hblt' : b' < W.heap.size := by
            rw [add_none] at d0
            exact World.block_lt_of_cell? W _ d0
          refine ⟨some ⟨b', off', none⟩, b', off', C i, by rw [hLl], by rw [hLl]; exact r2, (fun h => by cases h), fun _ => ⟨rfl, hblt'⟩, fun j hj => ?_⟩
          rw [hLl] at hj
          have dj := r8 j (by omega)
          rw [add_none] at dj
          rw [dj]
          have hz : j < (Z i).length := by omega
          have hwf := r5 ((Z i)[j]) (List.getElem_mem hz)
          have hbd := bounds_u8 hwf
          simp [List.getD, List.getElem?_eq_getElem hz]
          omega

/-- Pairs of numbers, as the walks read them. -/
def ArgW (W : World) (v : Value) : Prop :=
  ∃ (aW : Option Addr) (bW oW nW cW : Nat) (N : Nat → Nat) (K : Nat → Int), v = .slice aW nW cW ∧ nW ≤ 140737488355328 ∧ (0 < nW → aW = some ⟨bW, oW, none⟩ ∧ bW < W.heap.size) ∧ ∀ i, i < nW → W.cell? ⟨bW, oW + i * 2, none⟩ = some (.int .u64 (N i)) ∧ W.cell? ⟨bW, oW + i * 2 + 1, none⟩ = some (.int .i64 (K i)) ∧ N i < 18446744073709551616 ∧ -9223372036854775808 ≤ K i ∧ K i ≤ 9223372036854775807

set_option maxRecDepth 100000 in
theorem open_W {fuel : Nat} {v : Value} {y : DataW H × List MemPlace} (h : DataW.trod enc Tryz.prog W 0 (fun _ => true) true fuel 25 [v] = some y) (hsz : (y.1.weights Tryz.prog 25).all (· ≤ reachBytes) = true) : ArgW W v := by
  rcases open_slice_pairs Tryz.underlying25 Tryz.underlying68 Tryz.cells68 rfl rfl Tryz.cells66 Tryz.cells3 h with ⟨hcs, _⟩ | ⟨a, len, cap, m, n, V0, V1, D0, D1, P0, P1, hcs, _, hl, hm, hmm, hx, hr⟩
  · simp only [List.cons.injEq, and_true] at hcs
    exact ⟨none, 0, 0, 0, 0, fun _ => 0, fun _ => 0, hcs, by omega, fun h => by omega, fun i h => by omega⟩
  · simp only [List.cons.injEq, and_true] at hcs
    simp only [if_true] at hmm
    rw [hx] at hsz
    obtain ⟨hs1, _⟩ := all_slice Tryz.underlying25 hsz
    rw [Tryz.bytes68] at hs1
    simp at hs1
    have hrb := reachBytes_lt
    have hlen : len ≤ 140737488355328 := by omega
    have hex : ∀ i, i < len → ∃ q : Nat × Int, W.cell? (a.add (i * 2)) = some (.int .u64 q.1) ∧ W.cell? (a.add (i * 2 + 1)) = some (.int .i64 q.2) ∧ q.1 < 18446744073709551616 ∧ -9223372036854775808 ≤ q.2 ∧ q.2 ≤ 9223372036854775807 := by
      intro i hi
      obtain ⟨r1, r2, r3, r4⟩ := hr i (by omega)
      obtain ⟨z0, e0, _, w0⟩ := DataW.trod_int (k := .u64) Tryz.underlying66 r3
      obtain ⟨z1, e1, _, w1⟩ := DataW.trod_int (k := .i64) Tryz.underlying3 r4
      simp only [List.cons.injEq, and_true] at e0 e1
      have b0 := bounds_u64 w0
      have b1 := bounds_i64 w1
      refine ⟨(z0.toNat, z1), ?_, ?_, by simp only []; omega, by simp only []; omega, by simp only []; omega⟩
      · rw [r1, e0]
        simp only [Option.some.injEq, Value.int.injEq, true_and]
        omega
      · rw [r2, e1]
    obtain ⟨f, hf⟩ := choose_lt hex
    by_cases h0 : len = 0
    · exact ⟨some a, 0, 0, len, cap, fun _ => 0, fun _ => 0, hcs, hlen, fun h => by omega, fun i h => by omega⟩
    · obtain ⟨b, off, spot⟩ := a
      have c0 := (hf 0 (by omega)).1
      have hspot : spot = none := by simpa [Addr.add] using World.cell?_spot c0
      subst hspot
      have hblt : b < W.heap.size := by
        rw [add_none] at c0
        exact World.block_lt_of_cell? W _ c0
      refine ⟨some ⟨b, off, none⟩, b, off, len, cap, fun i => (f i).1, fun i => (f i).2, hcs, hlen, fun _ => ⟨rfl, hblt⟩, fun i hi => ?_⟩
      have q := hf i hi
      rw [add_none, add_none] at q
      exact q
end

theorem parts_sized {H : Type} {d0 d1 d2 d3 : DataW H} (h : (DataW.weightsEach Tryz.prog [27] [.agg [d0, d1, d2, d3]]).all (· ≤ reachBytes) = true) :
    (d0.weights Tryz.prog 22).all (· ≤ reachBytes) = true ∧ (d1.weights Tryz.prog 23).all (· ≤ reachBytes) = true ∧ (d2.weights Tryz.prog 24).all (· ≤ reachBytes) = true ∧ (d3.weights Tryz.prog 25).all (· ≤ reachBytes) = true := by
  rw [List.all_eq_true] at h
  simp only [DataW.weightsEach, DataW.weights, Tryz.underlying27, List.map_cons, List.map_nil, List.append_nil] at h
  refine ⟨List.all_eq_true.2 fun n hn => h n ?_, List.all_eq_true.2 fun n hn => h n ?_, List.all_eq_true.2 fun n hn => h n ?_, List.all_eq_true.2 fun n hn => h n ?_⟩
  · exact List.mem_append_left _ hn
  · exact List.mem_append_right _ (List.mem_append_left _ hn)
  · exact List.mem_append_right _ (List.mem_append_right _ (List.mem_append_left _ hn))
  · exact List.mem_append_right _ (List.mem_append_right _ (List.mem_append_right _ hn))

theorem tensOf {W : World} (h : laidMetH Tryz.prog Rows.radixExactUptoRow.laid W) : Tens W := by
  rw [MakeChecks.laidMetH_plain _ _ _ (by kernel_rfl)] at h
  have h3 : laidMet Tryz.prog [("internal/strconv.uint64pow10", Lib.tabData .u64 Lib.pow10Tab)] W := h.tail.tail
  exact Lib.tabIs_of_head (g := 0) (t := 209) (e := 66) (n := 20) tabName (by kernel_rfl) (by kernel_rfl) Tryz.underlying66 Tryz.cells66 (by kernel_rfl) h3
end Go.Proofs.YtipjjhccbgbdiaaGreatDoor

/- What a reading of the statement's argument gives the walks: a row of numbers. -/
namespace Go.Proofs.YtipjjhccbgbdiaaGreatDoor
open Go Go.RowKit Go.ChangeShapes Go.WideShapes Go.Deep

theorem Tryz.bytes2 : Tryz.prog.bytesOf 2 = 8 := by kernel_rfl

/-- A row of numbers, as the walks read it. -/
def ArgN (W : World) (v : Value) : Prop :=
  ∃ (aN : Option Addr) (bN oN nN cN : Nat) (M : Nat → Int), v = .slice aN nN cN ∧ nN ≤ 140737488355328 ∧ (0 < nN → aN = some ⟨bN, oN, none⟩ ∧ bN < W.heap.size) ∧ ∀ i, i < nN → W.cell? ⟨bN, oN + i, none⟩ = some (.int .i64 (M i)) ∧ -9223372036854775808 ≤ M i ∧ M i ≤ 9223372036854775807

section
variable {H : Type} {enc : TypeId × Value → H} {W : World}
set_option maxRecDepth 100000 in
theorem open_N {fuel : Nat} {v : Value} {y : DataW H × List MemPlace} (h : DataW.trod enc Tryz.prog W 0 (fun _ => true) true fuel 24 [v] = some y) (hsz : (y.1.weights Tryz.prog 24).all (· ≤ reachBytes) = true) : ArgN W v := by
  rcases open_ints Tryz.underlying24 Tryz.underlying2 Tryz.cells2 h with ⟨hcs, _⟩ | ⟨a, len, cap, zs, hcs, _, hl, hm, hz, hx, hr, hwf⟩
  · simp only [List.cons.injEq, and_true] at hcs
    exact ⟨none, 0, 0, 0, 0, fun _ => 0, hcs, by omega, fun h => by omega, fun i h => by omega⟩
  · simp only [List.cons.injEq, and_true] at hcs
    simp only [if_true] at hz
    rw [hx] at hsz
    obtain ⟨hs1, _⟩ := all_slice Tryz.underlying24 hsz
    rw [Tryz.bytes2] at hs1
    simp [lits] at hs1
    have hrb := reachBytes_lt
    have hlen : len ≤ 140737488355328 := by omega
    by_cases h0 : len = 0
    · exact ⟨some a, 0, 0, len, cap, fun _ => 0, hcs, hlen, fun h => by omega, fun i h => by omega⟩
    · obtain ⟨b, off, spot⟩ := a
      have c0 := hr 0 (by omega)
      have hspot : spot = none := by simpa [Addr.add] using World.cell?_spot c0
      subst hspot
      have hblt : b < W.heap.size := by
        rw [add_none] at c0
        exact World.block_lt_of_cell? W _ c0
      refine ⟨some ⟨b, off, none⟩, b, off, len, cap, fun i => zs.getD i 0, hcs, hlen, fun _ => ⟨rfl, hblt⟩, fun i hi => ?_⟩
      have q := hr i (by omega)
      rw [add_none] at q
      have hzi : i < zs.length := by omega
      have b1 := bounds_i64 (hwf zs[i] (List.getElem_mem hzi))
      have e : zs.getD i 0 = zs[i] := by simp [List.getD, List.getElem?_eq_getElem hzi]
      refine ⟨q, ?_, ?_⟩
      · show _ ≤ zs.getD i 0
        rw [e]; omega
      · show zs.getD i 0 ≤ _
        rw [e]; omega
end
end Go.Proofs.YtipjjhccbgbdiaaGreatDoor

/- What a reading of the statement's argument gives the walks: texts. -/
namespace Go.Proofs.YtipjjhccbgbdiaaGreatDoor
open Go Go.RowKit Go.ChangeShapes Go.WideShapes Go.ChangeAt Go.Deep

theorem Tryz.bytes9 : Tryz.prog.bytesOf 9 = 16 := by kernel_rfl

/-- Texts, as the walk reads them. -/
def ArgS (W : World) (v : Value) : Prop :=
  ∃ (aS : Option Addr) (bS oS nS cS : Nat) (S : Nat → ByteArray), v = .slice aS nS cS ∧ nS ≤ 140737488355328 ∧ (0 < nS → aS = some ⟨bS, oS, none⟩ ∧ bS < W.heap.size) ∧ ∀ i, i < nS → W.cell? ⟨bS, oS + i, none⟩ = some (.string (S i)) ∧ (S i).size ≤ 140737488355328

set_option maxRecDepth 100000 in
theorem open_S {H : Type} {enc : TypeId × Value → H} {W : World} {fuel : Nat} {v : Value} {y : DataW H × List MemPlace} (h : DataW.trod enc Tryz.prog W 0 (fun _ => true) true fuel 23 [v] = some y) (hsz : (y.1.weights Tryz.prog 23).all (· ≤ reachBytes) = true) : ArgS W v := by
  rcases open_strs Tryz.underlying23 Tryz.underlying9 Tryz.cells9 h with ⟨hcs, _⟩ | ⟨a, len, cap, m, Sx, hcs, _, hl, hm, hmm, hx, hr⟩
  · simp only [List.cons.injEq, and_true] at hcs
    exact ⟨none, 0, 0, 0, 0, fun _ => ByteArray.empty, hcs, by omega, fun h => by omega, fun i h => by omega⟩
  · simp only [List.cons.injEq, and_true] at hcs
    simp only [if_true] at hmm
    rw [hx] at hsz
    obtain ⟨hs1, hs2⟩ := all_slice Tryz.underlying23 hsz
    rw [Tryz.bytes9] at hs1
    simp at hs1
    have hrb := reachBytes_lt
    have hlen : len ≤ 140737488355328 := by omega
    by_cases h0 : len = 0
    · exact ⟨some a, 0, 0, len, cap, fun _ => ByteArray.empty, hcs, hlen, fun h => by omega, fun i h => by omega⟩
    · obtain ⟨b, off, spot⟩ := a
      have c0 := (hr 0 (by omega)).1
      have hspot : spot = none := by simpa [Addr.add] using World.cell?_spot c0
      subst hspot
      have hblt : b < W.heap.size := by
        rw [add_none] at c0
        exact World.block_lt_of_cell? W _ c0
      refine ⟨some ⟨b, off, none⟩, b, off, len, cap, Sx, hcs, hlen, fun _ => ⟨rfl, hblt⟩, fun i hi => ?_⟩
      have q := (hr i (by omega)).1
      rw [add_none] at q
      refine ⟨q, ?_⟩
      have hin := hs2 (.lit (.string (Sx i).data.toList)) (List.mem_map.2 ⟨i, List.mem_range.2 hi, rfl⟩)
      have hle := of_decide_eq_true (List.all_eq_true.1 hin (Sx i).data.toList.length (by simp [DataW.weights]))
      rw [size_list] at hle
      omega


theorem bulk_pos {H : Type} (d : DataW H) : 1 ≤ Rows.uptoBulk d := by
  cases d with
  | lit l => cases l <;> simp [Rows.uptoBulk]
  | _ => simp [Rows.uptoBulk]

theorem bulk_len {H : Type} : ∀ l : List (DataW H), l.length ≤ Rows.uptoBulkAll l
  | [] => Nat.zero_le _
  | d :: r => by
    have h1 := bulk_pos d
    have h2 := bulk_len r
    simp only [Rows.uptoBulkAll, List.length_cons]
    omega

set_option maxRecDepth 100000 in
theorem len_W {H : Type} {enc : TypeId × Value → H} {W : World} {fuel : Nat} {v : Value} {y : DataW H × List MemPlace} (h : DataW.trod enc Tryz.prog W 0 (fun _ => true) true fuel 25 [v] = some y) : ∃ a n c, v = .slice a n c ∧ n ≤ Rows.uptoBulk y.1 := by
  rcases open_slice_pairs Tryz.underlying25 Tryz.underlying68 Tryz.cells68 rfl rfl Tryz.cells66 Tryz.cells3 h with ⟨hcs, _⟩ | ⟨a, len, cap, m, n, V0, V1, D0, D1, P0, P1, hcs, _, hl, hm, hmm, hx, hr⟩
  · simp only [List.cons.injEq, and_true] at hcs
    exact ⟨_, _, _, hcs, Nat.zero_le _⟩
  · simp only [List.cons.injEq, and_true] at hcs
    refine ⟨_, _, _, hcs, ?_⟩
    rw [hx]
    simp only [Rows.uptoBulk]
    refine Nat.le_trans ?_ (Nat.le_succ_of_le (Nat.le_add_right _ _))
    refine Nat.le_trans ?_ (bulk_len _)
    simp
end Go.Proofs.YtipjjhccbgbdiaaGreatDoor
