/- What a reading of an argument gives the walks: slices of bytes; slices of structs. -/
import Derived.Test.YtpbiofnncdneoaaDoorDoorC
import Derived.Deep.Matrix
import Derived.Deep.SlicePairs
import Derived.Deep.Strs
namespace Go.Proofs.YtpbiofnncdneoaaDoor
open Go Go.RowKit Go.ChangeShapes Go.WideShapes Go.ChangeAt Go.Joins Go.Deep

theorem Tryd.cells36 : Tryd.prog.cellsOf 36 = 1 := by kernel_rfl
theorem Tryd.cells5 : Tryd.prog.cellsOf 5 = 1 := by kernel_rfl
theorem Tryd.bytes5 : Tryd.prog.bytesOf 5 = 1 := by kernel_rfl
theorem add_none {b o i : Nat} : (⟨b, o, none⟩ : Addr).add i = ⟨b, o + i, none⟩ := Addr.add_lit ..
theorem weightsAll_mem {H : Type} {P : Program} {e : TypeId} {d : DataW H} : ∀ {l : List (DataW H)}, d ∈ l → ∀ n ∈ d.weights P e, n ∈ DataW.weightsAll P e l
  | x :: r, hd, n, hn => by
    simp only [DataW.weightsAll, List.mem_append]
    rcases List.mem_cons.1 hd with rfl | h
    · exact .inl hn
    · exact .inr (weightsAll_mem h n hn)
theorem all_slice {H : Type} {P : Program} {t e : TypeId} {elems spare : List (DataW H)} (hu : P.underlying t = some (.slice e)) (h : ((DataW.slice elems spare).weights P t).all (· ≤ reachBytes) = true) :
    (elems.length + spare.length) * P.bytesOf e ≤ reachBytes ∧ ∀ d ∈ elems, (d.weights P e).all (· ≤ reachBytes) = true := by
  simp only [DataW.weights, hu] at h
  rw [List.all_eq_true] at h
  refine ⟨of_decide_eq_true (h _ (List.mem_cons_self ..)), fun d hd => List.all_eq_true.2 fun n hn => h n (List.mem_cons_of_mem _ (List.mem_append_left _ (weightsAll_mem hd n hn)))⟩

section
variable {H : Type} {enc : TypeId × Value → H} {W : World}
set_option maxRecDepth 100000 in
/-- A slice of bytes. -/
theorem open_bytes {fuel : Nat} {c : Value} {y : DataW H × List MemPlace} (h : DataW.trod enc Tryd.prog W 0 (fun _ => true) true fuel 36 [c] = some y) (hsz : (y.1.weights Tryd.prog 36).all (· ≤ reachBytes) = true) : ∃ l : List UInt8, Rd W (fun _ => True) c l ∧ l.length ≤ 140737488355328 := by
  rcases DataW.trod_slice Tryd.underlying36 h with ⟨hcs, _⟩ | ⟨a, len, cap, elems, rest, n2, _, hcs, hx, _, hl', _, hlen, hel, _, _⟩
  · simp only [List.cons.injEq, and_true] at hcs
    subst hcs
    exact ⟨[], Rd.nil _ _, by simp⟩
  · simp only [List.cons.injEq, and_true] at hcs
    subst hcs
    rw [hx] at hsz
    obtain ⟨hs1, _⟩ := all_slice Tryd.underlying36 hsz
    rw [Tryd.bytes5] at hs1
    simp at hs1
    have hrb := reachBytes_lt
    rw [Tryd.cells5] at hel
    have hex : ∀ i, i < len → ∃ z : UInt8, W.cell? (a.add i) = some (.int .u8 z.toNat) := by
      intro i hi
      have hi' := hel i hi
      rw [List.getElem?_eq_getElem (by omega), Option.bind_eq_some_iff] at hi'
      obtain ⟨cs', hc', ht'⟩ := hi'
      obtain ⟨_, hl6, hc6⟩ := World.cells?_some hc'
      obtain ⟨z, e, _, w0⟩ := DataW.trod_int (k := .u8) Tryd.underlying5 ht'
      have hbd := bounds_u8 w0
      have := hc6 0 (by omega)
      subst e
      refine ⟨UInt8.ofNat z.toNat, ?_⟩
      have e0 : (a.add (i * 1)).add 0 = a.add i := by cases a; simp [Addr.add]
      rw [e0] at this
      rw [this]
      simp
      omega
    obtain ⟨f, hf⟩ := choose_lt hex
    refine ⟨(List.range len).map f, ?_, by simp; omega⟩
    have hll : ((List.range len).map f).length = len := by simp
    by_cases h0 : len = 0
    · exact ⟨some a, 0, 0, cap, by rw [hll], by rw [hll]; exact hl', (fun h => by cases h), fun h => by rw [hll] at h; omega, fun i h => by rw [hll] at h; omega⟩
    · obtain ⟨b, off, spot⟩ := a
      have c0 := hf 0 (by omega)
      have hspot : spot = none := by simpa [Addr.add] using World.cell?_spot c0
      subst hspot
      have hblt : b < W.heap.size := by
        rw [add_none] at c0
        exact World.block_lt_of_cell? W _ c0
      refine ⟨some ⟨b, off, none⟩, b, off, cap, by rw [hll], by rw [hll]; exact hl', (fun h => by cases h), fun _ => ⟨rfl, hblt, trivial⟩, fun j hj => ?_⟩
      have dj := hf j (by rw [hll] at hj; exact hj)
      rw [add_none] at dj
      rw [dj]
      simp
set_option maxRecDepth 100000 in
/-- A slice of structs, its elements' cells. -/
theorem open_rows {t e : TypeId} {k : Nat} (ht : Tryd.prog.underlying t = some (.slice e)) (hk : Tryd.prog.cellsOf e = k) (hk0 : 0 < k) (hby : 0 < Tryd.prog.bytesOf e) {fuel : Nat} {v : Value} {y : DataW H × List MemPlace}
    (h : DataW.trod enc Tryd.prog W 0 (fun _ => true) true fuel t [v] = some y) (hsz : (y.1.weights Tryd.prog t).all (· ≤ reachBytes) = true) :
    ∃ (a : Option Addr) (b o n c : Nat), v = .slice a n c ∧ n ≤ c ∧ n ≤ 140737488355328 ∧ (0 < n → a = some ⟨b, o, none⟩ ∧ b < W.heap.size) ∧
      ∀ i, i < n → ∃ (cs : List Value) (m : Nat) (x : DataW H × List MemPlace), cs.length = k ∧ (∀ j, j < k → W.cell? ⟨b, o + (i * k + j), none⟩ = cs[j]?) ∧ DataW.trod enc Tryd.prog W 0 (fun _ => true) true m e cs = some x ∧ (x.1.weights Tryd.prog e).all (· ≤ reachBytes) = true := by
  rcases DataW.trod_slice ht h with ⟨hcs, _⟩ | ⟨a, len, cap, elems, rest, n2, _, hcs, hx, _, hl', _, hlen, hel, _, _⟩
  · simp only [List.cons.injEq, and_true] at hcs
    subst hcs
    exact ⟨none, 0, 0, 0, 0, rfl, Nat.le_refl _, by omega, fun h => by omega, fun i h => by omega⟩
  · simp only [List.cons.injEq, and_true] at hcs
    subst hcs
    rw [hx] at hsz
    obtain ⟨hs1, hs2⟩ := all_slice ht hsz
    simp only [List.length_map] at hs1
    have hrb := reachBytes_lt
    have hlb : len ≤ 140737488355328 := by
      have : (elems.length + rest.length) * 1 ≤ (elems.length + rest.length) * Tryd.prog.bytesOf e := Nat.mul_le_mul_left _ hby
      omega
    rw [hk] at hel
    have hex : ∀ i, i < len → ∃ (cs : List Value) (x : DataW H × List MemPlace), cs.length = k ∧ (∀ j, j < k → W.cell? ((a.add (i * k)).add j) = cs[j]?) ∧ DataW.trod enc Tryd.prog W 0 (fun _ => true) true n2 e cs = some x ∧ (x.1.weights Tryd.prog e).all (· ≤ reachBytes) = true := by
      intro i hi
      have hi' := hel i hi
      rw [List.getElem?_eq_getElem (by omega), Option.bind_eq_some_iff] at hi'
      obtain ⟨cs', hc', ht'⟩ := hi'
      obtain ⟨_, hl6, hc6⟩ := World.cells?_some hc'
      exact ⟨cs', elems[i], hl6, fun j hj => hc6 j hj, ht', hs2 _ (List.mem_map.2 ⟨elems[i], List.getElem_mem _, rfl⟩)⟩
    by_cases h0 : len = 0
    · exact ⟨some a, 0, 0, len, cap, rfl, hl', hlb, fun h => by omega, fun i h => by omega⟩
    · obtain ⟨b, off, spot⟩ := a
      obtain ⟨cs0, x0, hl0, hc0, _, _⟩ := hex 0 (by omega)
      have c0 := hc0 0 hk0
      rw [List.getElem?_eq_getElem (by omega)] at c0
      have hspot : spot = none := by simpa [Addr.add] using World.cell?_spot c0
      subst hspot
      have hblt : b < W.heap.size := by
        rw [add_none, add_none] at c0
        exact World.block_lt_of_cell? W _ c0
      refine ⟨some ⟨b, off, none⟩, b, off, len, cap, rfl, hl', hlb, fun _ => ⟨rfl, hblt⟩, fun i hi => ?_⟩
      obtain ⟨cs, x, hl1, hc1, ht1, hs3⟩ := hex i hi
      refine ⟨cs, n2, x, hl1, fun j hj => ?_, ht1, hs3⟩
      have := hc1 j hj
      rw [add_none, add_none, Nat.add_assoc] at this
      exact this
end
end Go.Proofs.YtpbiofnncdneoaaDoor
