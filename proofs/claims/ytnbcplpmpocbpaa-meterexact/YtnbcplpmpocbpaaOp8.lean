/- What a reading of the argument gives the walks. -/
import Derived.Test.YtnbcplpmpocbpaaWg
import Derived.Test.YtnbcplpmpocbpaaChecked
import Derived.Test.YtnbcplpmpocbpaaRows
import Derived.ProofKit
import Derived.OpenShut
import Derived.SizedLaws
import Derived.Lib.LaidTab
import Derived.Stop.LaidErr
import Derived.LaidMore
import Derived.MakeChecks
import Derived.ChangeOld
import Derived.Handed
import Derived.Lib.SmallJoins
import Derived.Deep.Matrix
import Derived.Deep.SlicePairs
import Derived.Deep.Strs
namespace Go.Proofs.Ytnbcplpmpocbpaa
open Go Go.RowKit Go.ChangeShapes Go.WideShapes Go.ChangeAt Go.Joins Go.Deep

theorem Try.cells28 : Try.prog.cellsOf 28 = 2 := by kernel_rfl
theorem Try.cells37 : Try.prog.cellsOf 37 = 2 := by kernel_rfl
theorem Try.cells39 : Try.prog.cellsOf 39 = 4 := by kernel_rfl
theorem Try.cells34 : Try.prog.cellsOf 34 = 3 := by kernel_rfl
theorem Try.cells47 : Try.prog.cellsOf 47 = 6 := by kernel_rfl
theorem Try.cells2 : Try.prog.cellsOf 2 = 1 := by kernel_rfl
theorem Try.cells3 : Try.prog.cellsOf 3 = 1 := by kernel_rfl
theorem Try.cells26 : Try.prog.cellsOf 26 = 1 := by kernel_rfl
theorem Try.cells32 : Try.prog.cellsOf 32 = 1 := by kernel_rfl
theorem Try.bytes28 : Try.prog.bytesOf 28 = 16 := by kernel_rfl
theorem Try.bytes39 : Try.prog.bytesOf 39 = 32 := by kernel_rfl
theorem own5 : ownKnob Try.prog.godebug = none := by kernel_rfl
theorem laidOut5 : laidOutB Try.prog = true := by kernel_rfl
theorem u64_of {n : Int} (h : (Lit.int .u64 n).wf = true) : ∃ b : Nat, n = b ∧ b < 18446744073709551616 := by
  simp [Lit.wf, IntKind.min, IntKind.max, IntKind.signed, IntKind.bits] at h
  exact ⟨n.toNat, by omega, by omega⟩
theorem i64_of {n : Int} (h : (Lit.int .i64 n).wf = true) : -9223372036854775808 ≤ n ∧ n ≤ 9223372036854775807 := by
  simp [Lit.wf, IntKind.min, IntKind.max, IntKind.signed, IntKind.bits] at h
  omega
theorem add_none {b o i : Nat} : (⟨b, o, none⟩ : Addr).add i = ⟨b, o + i, none⟩ := Addr.add_lit ..
theorem weightsAll_mem {H : Type} {P : Program} {e : TypeId} {d : DataW H} : ∀ {l : List (DataW H)}, d ∈ l → ∀ n ∈ d.weights P e, n ∈ DataW.weightsAll P e l
  | x :: r, hd, n, hn => by
    simp only [DataW.weightsAll, List.mem_append]
    rcases List.mem_cons.1 hd with rfl | h
    · exact .inl hn
    · exact .inr (weightsAll_mem h n hn)
theorem all_slice {H : Type} {P : Program} {t e : TypeId} {elems spare : List (DataW H)} (hu : P.underlying t = some (.slice e)) (h : ((DataW.slice elems spare).weights P t).all (· ≤ reachBytes) = true) :
    (elems.length + spare.length) * P.bytesOf e ≤ reachBytes ∧ ∀ d ∈ elems, (d.weights P e).all (· ≤ reachBytes) = true := by
  simp only [DataW.weights, hu] at h
  rw [List.all_eq_true] at h
  refine ⟨of_decide_eq_true (h _ (List.mem_cons_self ..)), fun d hd => List.all_eq_true.2 fun n hn => h n (List.mem_cons_of_mem _ (List.mem_append_left _ (weightsAll_mem hd n hn)))⟩

section
variable {H : Type} {enc : TypeId × Value → H} {W : World}
set_option maxRecDepth 100000 in
/-- A slice of structs, its elements' cells. -/
theorem open_rows {t e : TypeId} {k : Nat} (ht : Try.prog.underlying t = some (.slice e)) (hk : Try.prog.cellsOf e = k) (hk0 : 0 < k) (hby : 0 < Try.prog.bytesOf e) {fuel : Nat} {v : Value} {y : DataW H × List MemPlace}
    (h : DataW.trod enc Try.prog W 0 (fun _ => true) true fuel t [v] = some y) (hsz : (y.1.weights Try.prog t).all (· ≤ reachBytes) = true) :
    ∃ (a : Option Addr) (b o n c : Nat), v = .slice a n c ∧ n ≤ c ∧ n ≤ 140737488355328 ∧ (0 < n → a = some ⟨b, o, none⟩ ∧ b < W.heap.size) ∧
      ∀ i, i < n → ∃ (cs : List Value) (m : Nat) (x : DataW H × List MemPlace), cs.length = k ∧ (∀ j, j < k → W.cell? ⟨b, o + (i * k + j), none⟩ = cs[j]?) ∧ DataW.trod enc Try.prog W 0 (fun _ => true) true m e cs = some x ∧ (x.1.weights Try.prog e).all (· ≤ reachBytes) = true := by
  rcases DataW.trod_slice ht h with ⟨hcs, _⟩ | ⟨a, len, cap, elems, rest, n2, _, hcs, hx, _, hl', _, hlen, hel, _, _⟩
  · simp only [List.cons.injEq, and_true] at hcs
    subst hcs
    exact ⟨none, 0, 0, 0, 0, rfl, Nat.le_refl _, by omega, fun h => by omega, fun i h => by omega⟩
  · simp only [List.cons.injEq, and_true] at hcs
    subst hcs
    rw [hx] at hsz
    obtain ⟨hs1, hs2⟩ := all_slice ht hsz
    simp only [List.length_map] at hs1
    have hrb := reachBytes_lt
    have hlb : len ≤ 140737488355328 := by
      have : (elems.length + rest.length) * 1 ≤ (elems.length + rest.length) * Try.prog.bytesOf e := Nat.mul_le_mul_left _ hby
      omega
    rw [hk] at hel
    have hex : ∀ i, i < len → ∃ (cs : List Value) (x : DataW H × List MemPlace), cs.length = k ∧ (∀ j, j < k → W.cell? ((a.add (i * k)).add j) = cs[j]?) ∧ DataW.trod enc Try.prog W 0 (fun _ => true) true n2 e cs = some x ∧ (x.1.weights Try.prog e).all (· ≤ reachBytes) = true := by
      intro i hi
      have hi' := hel i hi
      rw [List.getElem?_eq_getElem (by omega), Option.bind_eq_some_iff] at hi'
      obtain ⟨cs', hc', ht'⟩ := hi'
      obtain ⟨_, hl6, hc6⟩ := World.cells?_some hc'
      exact ⟨cs', elems[i], hl6, fun j hj => hc6 j hj, ht', hs2 _ (List.mem_map.2 ⟨elems[i], List.getElem_mem _, rfl⟩)⟩
    by_cases h0 : len = 0
    · exact ⟨some a, 0, 0, len, cap, rfl, hl', hlb, fun h => by omega, fun i h => by omega⟩
    · obtain ⟨b, off, spot⟩ := a
      obtain ⟨cs0, x0, hl0, hc0, _, _⟩ := hex 0 (by omega)
      have c0 := hc0 0 hk0
      rw [List.getElem?_eq_getElem (by omega)] at c0
      have hspot : spot = none := by simpa [Addr.add] using World.cell?_spot c0
      subst hspot
      have hblt : b < W.heap.size := by
        rw [add_none, add_none] at c0
        exact World.block_lt_of_cell? W _ c0
      refine ⟨some ⟨b, off, none⟩, b, off, len, cap, rfl, hl', hlb, fun _ => ⟨rfl, hblt⟩, fun i hi => ?_⟩
      obtain ⟨cs, x, hl1, hc1, ht1, hs3⟩ := hex i hi
      refine ⟨cs, n2, x, hl1, fun j hj => ?_, ht1, hs3⟩
      have := hc1 j hj
      rw [add_none, add_none, Nat.add_assoc] at this
      exact this
end

def lkOk (p : Int × Nat) : Prop := -9223372036854775808 ≤ p.1 ∧ p.1 ≤ 9223372036854775807 ∧ p.2 < 18446744073709551616
def lkC (p : Int × Nat) : List Value := [.int .i64 p.1, .int .u64 (p.2 : Int)]
structure Opn where
  kind : Int
  now : Int
  s : Nat
  ta : Int
def Opn.cells (o : Opn) : List Value := [.int .i64 o.kind, .int .i64 o.now, .int .u64 (o.s : Int), .int .i64 o.ta]
def Opn.ok (o : Opn) : Prop := -9223372036854775808 ≤ o.now ∧ o.now ≤ 9223372036854775807 ∧ o.s < 18446744073709551616 ∧ -9223372036854775808 ≤ o.ta ∧ o.ta ≤ 9223372036854775807
def RowsL (W : World) (a : Option Addr) (b o n : Nat) (f : Nat → Int × Nat) : Prop := (0 < n → a = some ⟨b, o, none⟩ ∧ b < W.heap.size) ∧ ∀ i, i < n → W.rangeAt b (o + i * 2) (lkC (f i)) ∧ lkOk (f i)
def RowsO (W : World) (a : Option Addr) (b o n : Nat) (f : Nat → Opn) : Prop := (0 < n → a = some ⟨b, o, none⟩ ∧ b < W.heap.size) ∧ ∀ i, i < n → W.rangeAt b (o + i * 4) (f i).cells ∧ (f i).ok
section
variable {H : Type} {enc : TypeId × Value → H} {W : World}
set_option maxRecDepth 100000 in
theorem open_lock {fuel : Nat} {cs : List Value} {x : DataW H × List MemPlace} (h : DataW.trod enc Try.prog W 0 (fun _ => true) true fuel 28 cs = some x) : ∃ p : Int × Nat, cs = lkC p ∧ lkOk p := by
  obtain ⟨xs, k, _, hx, hl, hxl, hf⟩ := DataW.trod_struct Try.underlying28 h
  rw [Try.cells28] at hl
  obtain ⟨c0, c1, rfl⟩ : ∃ c0 c1, cs = [c0, c1] := by
    match cs, hl with
    | [a, b], _ => exact ⟨a, b, rfl⟩
  obtain ⟨x0, x1, rfl⟩ : ∃ x0 x1, xs = [x0, x1] := by
    match xs, (show xs.length = 2 from hxl) with
    | [a, b], _ => exact ⟨a, b, rfl⟩
  have f0 : DataW.trod enc Try.prog W 0 (fun _ => true) true k 2 [c0] = some x0 := by
    have := hf 0 _ rfl
    change DataW.trod enc Try.prog W 0 (fun _ => true) true k 2 ((List.drop 0 [c0, c1]).take (Try.prog.cellsOf 2)) = some x0 at this
    rw [Try.cells2] at this
    exact this
  have f1 : DataW.trod enc Try.prog W 0 (fun _ => true) true k 26 [c1] = some x1 := by
    have := hf 1 _ rfl
    change DataW.trod enc Try.prog W 0 (fun _ => true) true k 26 ((List.drop 1 [c0, c1]).take (Try.prog.cellsOf 26)) = some x1 at this
    rw [Try.cells26] at this
    exact this
  obtain ⟨z0, e0, _, w0⟩ := DataW.trod_int (k := .i64) Try.underlying2 f0
  obtain ⟨z1, e1, _, w1⟩ := DataW.trod_int (k := .u64) Try.underlying26 f1
  obtain ⟨l, rfl, hl2⟩ := u64_of w1
  refine ⟨(z0, l), ?_, (i64_of w0).1, (i64_of w0).2, hl2⟩
  simp only [List.cons.injEq, and_true] at e0 e1
  rw [e0, e1]; rfl
set_option maxRecDepth 100000 in
theorem open_meter {fuel : Nat} {cs : List Value} {x : DataW H × List MemPlace} (h : DataW.trod enc Try.prog W 0 (fun _ => true) true fuel 37 cs = some x) : ∃ (s : Nat) (ta : Int), cs = [.int .u64 (s : Int), .int .i64 ta] ∧ s < 18446744073709551616 ∧ -9223372036854775808 ≤ ta ∧ ta ≤ 9223372036854775807 := by
  obtain ⟨xs, k, _, hx, hl, hxl, hf⟩ := DataW.trod_struct Try.underlying37 h
  rw [Try.cells37] at hl
  obtain ⟨c0, c1, rfl⟩ : ∃ c0 c1, cs = [c0, c1] := by
    match cs, hl with
    | [a, b], _ => exact ⟨a, b, rfl⟩
  obtain ⟨x0, x1, rfl⟩ : ∃ x0 x1, xs = [x0, x1] := by
    match xs, (show xs.length = 2 from hxl) with
    | [a, b], _ => exact ⟨a, b, rfl⟩
  have f0 : DataW.trod enc Try.prog W 0 (fun _ => true) true k 26 [c0] = some x0 := by
    have := hf 0 _ rfl
    change DataW.trod enc Try.prog W 0 (fun _ => true) true k 26 ((List.drop 0 [c0, c1]).take (Try.prog.cellsOf 26)) = some x0 at this
    rw [Try.cells26] at this
    exact this
  have f1 : DataW.trod enc Try.prog W 0 (fun _ => true) true k 2 [c1] = some x1 := by
    have := hf 1 _ rfl
    change DataW.trod enc Try.prog W 0 (fun _ => true) true k 2 ((List.drop 1 [c0, c1]).take (Try.prog.cellsOf 2)) = some x1 at this
    rw [Try.cells2] at this
    exact this
  obtain ⟨z0, e0, _, w0⟩ := DataW.trod_int (k := .u64) Try.underlying26 f0
  obtain ⟨z1, e1, _, w1⟩ := DataW.trod_int (k := .i64) Try.underlying2 f1
  obtain ⟨l, rfl, hl2⟩ := u64_of w0
  refine ⟨l, z1, ?_, hl2, i64_of w1⟩
  simp only [List.cons.injEq, and_true] at e0 e1
  rw [e0, e1]
set_option maxRecDepth 100000 in
theorem open_op {fuel : Nat} {cs : List Value} {x : DataW H × List MemPlace} (h : DataW.trod enc Try.prog W 0 (fun _ => true) true fuel 39 cs = some x) : ∃ o : Opn, cs = o.cells ∧ o.ok := by
  obtain ⟨xs, k, _, hx, hl, hxl, hf⟩ := DataW.trod_struct Try.underlying39 h
  rw [Try.cells39] at hl
  obtain ⟨c0, c1, c2, c3, rfl⟩ : ∃ c0 c1 c2 c3, cs = [c0, c1, c2, c3] := by
    match cs, hl with
    | [a, b, c, d], _ => exact ⟨a, b, c, d, rfl⟩
  obtain ⟨x0, x1, x2, rfl⟩ : ∃ x0 x1 x2, xs = [x0, x1, x2] := by
    match xs, (show xs.length = 3 from hxl) with
    | [a, b, c], _ => exact ⟨a, b, c, rfl⟩
  have f0 : DataW.trod enc Try.prog W 0 (fun _ => true) true k 3 [c0] = some x0 := by
    have := hf 0 _ rfl
    change DataW.trod enc Try.prog W 0 (fun _ => true) true k 3 ((List.drop 0 [c0, c1, c2, c3]).take (Try.prog.cellsOf 3)) = some x0 at this
    rw [Try.cells3] at this
    exact this
  have f1 : DataW.trod enc Try.prog W 0 (fun _ => true) true k 2 [c1] = some x1 := by
    have := hf 1 _ rfl
    change DataW.trod enc Try.prog W 0 (fun _ => true) true k 2 ((List.drop 1 [c0, c1, c2, c3]).take (Try.prog.cellsOf 2)) = some x1 at this
    rw [Try.cells2] at this
    exact this
  have f2 : DataW.trod enc Try.prog W 0 (fun _ => true) true k 37 [c2, c3] = some x2 := by
    have := hf 2 _ rfl
    change DataW.trod enc Try.prog W 0 (fun _ => true) true k 37 ((List.drop 2 [c0, c1, c2, c3]).take (Try.prog.cellsOf 37)) = some x2 at this
    rw [Try.cells37] at this
    exact this
  obtain ⟨z0, e0, _, w0⟩ := DataW.trod_int (k := .i64) Try.underlying3 f0
  obtain ⟨z1, e1, _, w1⟩ := DataW.trod_int (k := .i64) Try.underlying2 f1
  obtain ⟨s, ta, e2, h2⟩ := open_meter f2
  refine ⟨⟨z0, z1, s, ta⟩, ?_, (i64_of w1).1, (i64_of w1).2, h2⟩
  simp only [List.cons.injEq, and_true] at e0 e1 e2
  rw [e0, e1, e2.1, e2.2]; rfl
theorem script_sized {d0 d1 : DataW H} (h : ((DataW.agg [d0, d1]).weights Try.prog 34).all (· ≤ reachBytes) = true) : (d1.weights Try.prog 32).all (· ≤ reachBytes) = true := by
  rw [List.all_eq_true] at h
  simp only [DataW.weights, Try.underlying34, DataW.weightsEach, List.map_cons, List.map_nil, List.append_nil] at h
  exact List.all_eq_true.2 fun n hn => h n (List.mem_append_right _ hn)
set_option maxRecDepth 100000 in
theorem open_script {fuel : Nat} {cs : List Value} {x : DataW H × List MemPlace} (h : DataW.trod enc Try.prog W 0 (fun _ => true) true fuel 34 cs = some x) (hs : (x.1.weights Try.prog 34).all (· ≤ reachBytes) = true) : ∃ (p : Int × Nat) (a : Option Addr) (b o n c : Nat) (f : Nat → Opn), cs = [.int .i64 p.1, .int .u64 (p.2 : Int), .slice a n c] ∧ lkOk p ∧ n ≤ 140737488355328 ∧ RowsO W a b o n f := by
  obtain ⟨xs, k, _, hx, hl, hxl, hf⟩ := DataW.trod_struct Try.underlying34 h
  rw [Try.cells34] at hl
  obtain ⟨c0, c1, c2, rfl⟩ : ∃ c0 c1 c2, cs = [c0, c1, c2] := by
    match cs, hl with
    | [a, b, c], _ => exact ⟨a, b, c, rfl⟩
  obtain ⟨x0, x1, rfl⟩ : ∃ x0 x1, xs = [x0, x1] := by
    match xs, (show xs.length = 2 from hxl) with
    | [a, b], _ => exact ⟨a, b, rfl⟩
  have f0 : DataW.trod enc Try.prog W 0 (fun _ => true) true k 28 [c0, c1] = some x0 := by
    have := hf 0 _ rfl
    change DataW.trod enc Try.prog W 0 (fun _ => true) true k 28 ((List.drop 0 [c0, c1, c2]).take (Try.prog.cellsOf 28)) = some x0 at this
    rw [Try.cells28] at this
    exact this
  have f1 : DataW.trod enc Try.prog W 0 (fun _ => true) true k 32 [c2] = some x1 := by
    have := hf 1 _ rfl
    change DataW.trod enc Try.prog W 0 (fun _ => true) true k 32 ((List.drop 2 [c0, c1, c2]).take (Try.prog.cellsOf 32)) = some x1 at this
    rw [Try.cells32] at this
    exact this
  rw [hx] at hs
  have s1 := script_sized (d0 := x0.1) (d1 := x1.1) hs
  obtain ⟨p, e0, hp⟩ := open_lock f0
  obtain ⟨a, b, o, n, cc, hv, hnc, hn, ha, hel⟩ := open_rows Try.underlying32 Try.cells39 (by decide) (by rw [Try.bytes39]; decide) f1 s1
  have hex : ∀ i, i < n → ∃ t : Opn, W.rangeAt b (o + i * 4) t.cells ∧ t.ok := by
    intro i hi
    obtain ⟨cs', m, x', hcl, hcell, ht, _⟩ := hel i hi
    obtain ⟨t, rfl, hok⟩ := open_op ht
    refine ⟨t, fun j v hv => ?_, hok⟩
    have hj : j < 4 := by rw [← hcl]; exact (List.getElem?_eq_some_iff.1 hv).1
    have := hcell j hj
    rw [hv, ← Nat.add_assoc] at this
    exact this
  haveI : Inhabited Opn := ⟨⟨0, 0, 0, 0⟩⟩
  obtain ⟨f, hf'⟩ := choose_lt hex
  refine ⟨p, a, b, o, n, cc, f, ?_, hp, hn, ha, fun i hi => hf' i hi⟩
  unfold lkC at e0
  simp only [List.cons.injEq, and_true] at e0
  rw [e0.1, e0.2, hv]
set_option maxRecDepth 100000 in
theorem open_later {fuel : Nat} {cs : List Value} {x : DataW H × List MemPlace} (h : DataW.trod enc Try.prog W 0 (fun _ => true) true fuel 47 cs = some x) : ∃ (p : Int × Nat) (s : Nat) (ta at1 bt : Int), cs = [.int .i64 p.1, .int .u64 (p.2 : Int), .int .u64 (s : Int), .int .i64 ta, .int .i64 at1, .int .i64 bt] ∧ lkOk p ∧ s < 18446744073709551616 ∧ (-9223372036854775808 ≤ ta ∧ ta ≤ 9223372036854775807) ∧ (-9223372036854775808 ≤ at1 ∧ at1 ≤ 9223372036854775807) ∧ -9223372036854775808 ≤ bt ∧ bt ≤ 9223372036854775807 := by
  obtain ⟨xs, k, _, hx, hl, hxl, hf⟩ := DataW.trod_struct Try.underlying47 h
  rw [Try.cells47] at hl
  obtain ⟨c0, c1, c2, c3, c4, c5, rfl⟩ : ∃ c0 c1 c2 c3 c4 c5, cs = [c0, c1, c2, c3, c4, c5] := by
    match cs, hl with
    | [a, b, c, d, e, f], _ => exact ⟨a, b, c, d, e, f, rfl⟩
  obtain ⟨x0, x1, x2, x3, rfl⟩ : ∃ x0 x1 x2 x3, xs = [x0, x1, x2, x3] := by
    match xs, (show xs.length = 4 from hxl) with
    | [a, b, c, d], _ => exact ⟨a, b, c, d, rfl⟩
  have f0 : DataW.trod enc Try.prog W 0 (fun _ => true) true k 28 [c0, c1] = some x0 := by
    have := hf 0 _ rfl
    change DataW.trod enc Try.prog W 0 (fun _ => true) true k 28 ((List.drop 0 [c0, c1, c2, c3, c4, c5]).take (Try.prog.cellsOf 28)) = some x0 at this
    rw [Try.cells28] at this
    exact this
  have f1 : DataW.trod enc Try.prog W 0 (fun _ => true) true k 37 [c2, c3] = some x1 := by
    have := hf 1 _ rfl
    change DataW.trod enc Try.prog W 0 (fun _ => true) true k 37 ((List.drop 2 [c0, c1, c2, c3, c4, c5]).take (Try.prog.cellsOf 37)) = some x1 at this
    rw [Try.cells37] at this
    exact this
  have f2 : DataW.trod enc Try.prog W 0 (fun _ => true) true k 2 [c4] = some x2 := by
    have := hf 2 _ rfl
    change DataW.trod enc Try.prog W 0 (fun _ => true) true k 2 ((List.drop 4 [c0, c1, c2, c3, c4, c5]).take (Try.prog.cellsOf 2)) = some x2 at this
    rw [Try.cells2] at this
    exact this
  have f3 : DataW.trod enc Try.prog W 0 (fun _ => true) true k 2 [c5] = some x3 := by
    have := hf 3 _ rfl
    change DataW.trod enc Try.prog W 0 (fun _ => true) true k 2 ((List.drop 5 [c0, c1, c2, c3, c4, c5]).take (Try.prog.cellsOf 2)) = some x3 at this
    rw [Try.cells2] at this
    exact this
  obtain ⟨p, e0, hp⟩ := open_lock f0
  obtain ⟨s, ta, e1, h1, h2⟩ := open_meter f1
  obtain ⟨z2, e2, _, w2⟩ := DataW.trod_int (k := .i64) Try.underlying2 f2
  obtain ⟨z3, e3, _, w3⟩ := DataW.trod_int (k := .i64) Try.underlying2 f3
  refine ⟨p, s, ta, z2, z3, ?_, hp, h1, h2, i64_of w2, i64_of w3⟩
  unfold lkC at e0
  simp only [List.cons.injEq, and_true] at e0 e1 e2 e3
  rw [e0.1, e0.2, e1.1, e1.2, e2, e3]
theorem open_locks {fuel : Nat} {v : Value} {y : DataW H × List MemPlace} (h : DataW.trod enc Try.prog W 0 (fun _ => true) true fuel 22 [v] = some y) (hsz : (y.1.weights Try.prog 22).all (· ≤ reachBytes) = true) :
    ∃ (a : Option Addr) (b o n c : Nat) (f : Nat → Int × Nat), v = .slice a n c ∧ n ≤ 140737488355328 ∧ RowsL W a b o n f := by
  obtain ⟨a, b, o, n, cc, hv, hnc, hn, ha, hel⟩ := open_rows Try.underlying22 Try.cells28 (by decide) (by rw [Try.bytes28]; decide) h hsz
  have hex : ∀ i, i < n → ∃ t : Int × Nat, W.rangeAt b (o + i * 2) (lkC t) ∧ lkOk t := by
    intro i hi
    obtain ⟨cs', m, x', hcl, hcell, ht, _⟩ := hel i hi
    obtain ⟨t, rfl, hok⟩ := open_lock ht
    refine ⟨t, fun j v hv => ?_, hok⟩
    have hj : j < 2 := by rw [← hcl]; exact (List.getElem?_eq_some_iff.1 hv).1
    have := hcell j hj
    rw [hv, ← Nat.add_assoc] at this
    exact this
  obtain ⟨f, hf'⟩ := choose_lt hex
  exact ⟨a, b, o, n, cc, f, hv, hn, ha, fun i hi => hf' i hi⟩
end
end Go.Proofs.Ytnbcplpmpocbpaa
