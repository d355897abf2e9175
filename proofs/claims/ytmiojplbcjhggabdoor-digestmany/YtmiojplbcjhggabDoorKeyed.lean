/- Rows of rows of bytes; keys and texts. -/
import Derived.Test.YtmiojplbcjhggabDoorOpenA
import Derived.Test.YtmiojplbcjhggabDoorWrd
namespace Go.Proofs.YtmiojplbcjhggabDoor
open Go Go.RowKit Go.ChangeShapes Go.WideShapes Go.ChangeAt Go.Joins Go.Deep

/-- A row of rows of bytes, as the walk reads it. -/
def RowsB (W : World) (a : Option Addr) (b o n : Nat) (V : Nat → Value) (L : Nat → List UInt8) : Prop :=
  (0 < n → a = some ⟨b, o, none⟩ ∧ b < W.heap.size) ∧ ∀ i, i < n → W.cell? ⟨b, o + i, none⟩ = some (V i) ∧ Rd W (fun _ => True) (V i) (L i) ∧ (L i).length ≤ 140737488351232
theorem RowsB.on {W u : World} {a : Option Addr} {b o n : Nat} {V : Nat → Value} {L : Nat → List UInt8} (h : RowsB W a b o n V L) (hg : W.grownBy u none) : RowsB u a b o n V L :=
  ⟨fun h0 => ⟨(h.1 h0).1, Nat.lt_of_lt_of_le (h.1 h0).2 hg.size⟩, fun i hi => by
    have hb := (h.1 (by omega)).2
    obtain ⟨c0, r1, l1⟩ := h.2 i hi
    exact ⟨(cell_at hg hb (by simp)).trans c0, r1.keep hg, l1⟩⟩
theorem cells2 {w : World} {k : Nat} {a b : Value} {t : TypeId} (h : w.heap[k]? = some (.cells #[a, b] t (0, 0))) : w.cell? ⟨k, 0, none⟩ = some a ∧ w.cell? ⟨k, 1, none⟩ = some b :=
  ⟨by simp [World.cell?, h], by simp [World.cell?, h]⟩
theorem Tryd.cells24 : Tryd.prog.cellsOf 24 = 2 := by kernel_rfl
theorem Tryd.cells22 : Tryd.prog.cellsOf 22 = 1 := by kernel_rfl
theorem Tryd.bytes25 : Tryd.prog.bytesOf 25 = 24 := by kernel_rfl
section
variable {H : Type} {enc : TypeId × Value → H} {W : World}
theorem rows_of {fuel : Nat} {v : Value} {y : DataW H × List MemPlace} (h : DataW.trod enc Tryd.prog W 0 (fun _ => true) true fuel 22 [v] = some y) (hsz : (y.1.weights Tryd.prog 22).all (· ≤ reachBytes) = true) :
    ∃ (a : Option Addr) (b o n c : Nat) (V : Nat → Value) (L : Nat → List UInt8), v = .slice a n c ∧ n ≤ 140737488355328 ∧ RowsB W a b o n V L := by
  obtain ⟨a, b, o, n, c, hv, hnc, hn, ha, hel⟩ := open_rows Tryd.underlying22 Tryd.cells25 (by decide) (by rw [Tryd.bytes25]; decide) h hsz
  have hex : ∀ i, i < n → ∃ q : Value × List UInt8, W.cell? ⟨b, o + i, none⟩ = some q.1 ∧ Rd W (fun _ => True) q.1 q.2 ∧ q.2.length ≤ 140737488351232 := by
    intro i hi
    obtain ⟨cs, m, x, hcl, hcell, ht, hs⟩ := hel i hi
    obtain ⟨c0, rfl⟩ : ∃ c0, cs = [c0] := by
      match cs, hcl with
      | [a], _ => exact ⟨a, rfl⟩
    obtain ⟨l0, r0, b0⟩ := open_bytes ht hs
    refine ⟨(c0, l0), ?_, r0, b0⟩
    have := hcell 0 (by decide)
    rw [Nat.mul_one, Nat.add_zero] at this
    exact this
  obtain ⟨f, hf⟩ := choose_lt hex
  exact ⟨a, b, o, n, c, fun i => (f i).1, fun i => (f i).2, hv, hn, ha, fun i hi => hf i hi⟩
theorem keyed_sized {d0 d1 : DataW H} (h : ((DataW.agg [d0, d1]).weights Tryd.prog 24).all (· ≤ reachBytes) = true) : (d0.weights Tryd.prog 22).all (· ≤ reachBytes) = true ∧ (d1.weights Tryd.prog 22).all (· ≤ reachBytes) = true := by
  rw [List.all_eq_true] at h
  simp only [DataW.weights, Tryd.underlying24, DataW.weightsEach, List.map_cons, List.map_nil, List.append_nil] at h
  exact ⟨List.all_eq_true.2 fun n hn => h n (List.mem_append_left _ hn), List.all_eq_true.2 fun n hn => h n (List.mem_append_right _ hn)⟩
set_option maxRecDepth 100000 in
theorem open_keyed {r : Reach} {b0 : Nat} {v : Value} {d : DataW H} {p : List MemPlace} (hv : Value.okWide Tryd.prog W r b0 24 v) (h : DataW.Trod enc Tryd.prog W 0 (fun _ => true) true 24 v d p)
    (hsz : (DataW.weightsEach Tryd.prog [24] [d]).all (· ≤ reachBytes) = true) :
    ∃ (aA aB : Option Addr) (bA oA nA cA bB oB nB cB : Nat) (VA VB : Nat → Value) (LA LB : Nat → List UInt8), v = .agg #[.slice aA nA cA, .slice aB nB cB] ∧ nA ≤ 140737488355328 ∧ nB ≤ 140737488355328 ∧ RowsB W aA bA oA nA VA LA ∧ RowsB W aB bB oB nB VB LB := by
  obtain ⟨fuel, hf⟩ := h
  obtain ⟨cs, rfl, hcs⟩ := okWide_struct Tryd.underlying24 hv
  rw [Tryd.cells24] at hcs
  obtain ⟨c0, c1, rfl⟩ : ∃ c0 c1, cs = #[c0, c1] := by
    obtain ⟨l⟩ := cs
    match l, (show l.length = 2 from hcs) with
    | [a, b], _ => exact ⟨a, b, rfl⟩
  have hf' : DataW.trod enc Tryd.prog W 0 (fun _ => true) true fuel 24 [c0, c1] = some (d, p) := hf
  obtain ⟨xs, k, _, hx, _, hxl, hg⟩ := DataW.trod_struct Tryd.underlying24 hf'
  obtain ⟨x0, x1, rfl⟩ : ∃ x0 x1, xs = [x0, x1] := by
    match xs, (show xs.length = 2 from hxl) with
    | [a, b], _ => exact ⟨a, b, rfl⟩
  have hs : (d.weights Tryd.prog 24).all (· ≤ reachBytes) = true := by simpa [DataW.weightsEach] using hsz
  have hd : d = DataW.agg [x0.1, x1.1] := congrArg Prod.fst hx
  rw [hd] at hs
  obtain ⟨s0, s1⟩ := keyed_sized (d0 := x0.1) (d1 := x1.1) hs
  have f0 : DataW.trod enc Tryd.prog W 0 (fun _ => true) true k 22 [c0] = some x0 := by
    have := hg 0 _ rfl
    change DataW.trod enc Tryd.prog W 0 (fun _ => true) true k 22 ((([c0, c1] : List Value).drop 0).take (Tryd.prog.cellsOf 22)) = some x0 at this
    rw [Tryd.cells22] at this
    exact this
  have f1 : DataW.trod enc Tryd.prog W 0 (fun _ => true) true k 22 [c1] = some x1 := by
    have := hg 1 _ rfl
    change DataW.trod enc Tryd.prog W 0 (fun _ => true) true k 22 ((([c0, c1] : List Value).drop 1).take (Tryd.prog.cellsOf 22)) = some x1 at this
    rw [Tryd.cells22] at this
    exact this
  obtain ⟨aA, bA, oA, nA, cA, VA, LA, rfl, hnA, hA⟩ := rows_of f0 s0
  obtain ⟨aB, bB, oB, nB, cB, VB, LB, rfl, hnB, hB⟩ := rows_of f1 s1
  exact ⟨aA, aB, bA, oA, nA, cA, bB, oB, nB, cB, VA, VB, LA, LB, rfl, hnA, hnB, hA, hB⟩
end
end Go.Proofs.YtmiojplbcjhggabDoor
