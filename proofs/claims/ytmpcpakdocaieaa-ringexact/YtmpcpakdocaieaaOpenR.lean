/- What a reading of the argument gives the walks: a life, its turns. -/
import Derived.Test.YtmpcpakdocaieaaGr
import Derived.Test.YtmpcpakdocaieaaChecked
import Derived.Test.YtmpcpakdocaieaaRows
import Derived.ProofKit
import Derived.OpenShut
import Derived.SizedLaws
import Derived.Lib.LaidTab
import Derived.Stop.LaidErr
import Derived.LaidMore
import Derived.MakeChecks
import Derived.ChangeOld
import Derived.Handed
import Derived.Lib.SmallJoins
import Derived.Deep.Matrix
import Derived.Deep.SlicePairs
import Derived.Deep.Strs
namespace Go.Proofs.Ytmpcpakdocaieaa
open Go Go.RowKit Go.ChangeShapes Go.WideShapes Go.ChangeAt Go.Joins Go.Deep

theorem Try.cells70 : Try.prog.cellsOf 70 = 32 := by kernel_rfl
theorem Try.cells5 : Try.prog.cellsOf 5 = 1 := by kernel_rfl
theorem Try.cells99 : Try.prog.cellsOf 99 = 35 := by kernel_rfl
theorem Try.cells94 : Try.prog.cellsOf 94 = 33 := by kernel_rfl
theorem Try.cells103 : Try.prog.cellsOf 103 = 35 := by kernel_rfl
theorem Try.cells92 : Try.prog.cellsOf 92 = 1 := by kernel_rfl
theorem Try.cells2 : Try.prog.cellsOf 2 = 1 := by kernel_rfl
theorem Try.cells3 : Try.prog.cellsOf 3 = 1 := by kernel_rfl
theorem Try.cells67 : Try.prog.cellsOf 67 = 1 := by kernel_rfl
theorem Try.bytes99 : Try.prog.bytesOf 99 = 56 := by kernel_rfl
theorem own5 : ownKnob Try.prog.godebug = none := by kernel_rfl
theorem laidOut5 : laidOutB Try.prog = true := by kernel_rfl
theorem bytes_of : ∀ (cs : List Value), (∀ i, i < cs.length → ∃ b : UInt8, cs[i]? = some (.int .u8 b.toNat)) → ∃ D : List UInt8, cs = Lib.byteCells D ∧ D.length = cs.length
  | [], _ => ⟨[], rfl, rfl⟩
  | c :: cs, h => by
    obtain ⟨D, hD, hl⟩ := bytes_of cs (fun i hi => by simpa using h (i + 1) (by simp; omega))
    obtain ⟨b, hb⟩ := h 0 (by simp)
    simp only [List.getElem?_cons_zero, Option.some.injEq] at hb
    exact ⟨b :: D, by rw [hb, hD]; rfl, by simp [hl]⟩
theorem u8_of {n : Int} (h : (Lit.int .u8 n).wf = true) : ∃ b : UInt8, n = b.toNat := by
  simp [Lit.wf, IntKind.min, IntKind.max, IntKind.signed, IntKind.bits] at h
  refine ⟨UInt8.ofNat n.toNat, ?_⟩
  rw [UInt8.toNat_ofNat']
  omega
theorem u64_of {n : Int} (h : (Lit.int .u64 n).wf = true) : ∃ b : Nat, n = b ∧ b < 18446744073709551616 := by
  simp [Lit.wf, IntKind.min, IntKind.max, IntKind.signed, IntKind.bits] at h
  exact ⟨n.toNat, by omega, by omega⟩
theorem i64_of {n : Int} (h : (Lit.int .i64 n).wf = true) : -9223372036854775808 ≤ n ∧ n ≤ 9223372036854775807 := by
  simp [Lit.wf, IntKind.min, IntKind.max, IntKind.signed, IntKind.bits] at h
  omega
theorem add_none {b o i : Nat} : (⟨b, o, none⟩ : Addr).add i = ⟨b, o + i, none⟩ := Addr.add_lit ..
theorem weightsAll_mem {H : Type} {P : Program} {e : TypeId} {d : DataW H} : ∀ {l : List (DataW H)}, d ∈ l → ∀ n ∈ d.weights P e, n ∈ DataW.weightsAll P e l
  | x :: r, hd, n, hn => by
    simp only [DataW.weightsAll, List.mem_append]
    rcases List.mem_cons.1 hd with rfl | h
    · exact .inl hn
    · exact .inr (weightsAll_mem h n hn)
theorem all_slice {H : Type} {P : Program} {t e : TypeId} {elems spare : List (DataW H)} (hu : P.underlying t = some (.slice e)) (h : ((DataW.slice elems spare).weights P t).all (· ≤ reachBytes) = true) :
    (elems.length + spare.length) * P.bytesOf e ≤ reachBytes ∧ ∀ d ∈ elems, (d.weights P e).all (· ≤ reachBytes) = true := by
  simp only [DataW.weights, hu] at h
  rw [List.all_eq_true] at h
  refine ⟨of_decide_eq_true (h _ (List.mem_cons_self ..)), fun d hd => List.all_eq_true.2 fun n hn => h n (List.mem_cons_of_mem _ (List.mem_append_left _ (weightsAll_mem hd n hn)))⟩

section
variable {H : Type} {enc : TypeId × Value → H} {W : World}
set_option maxRecDepth 100000 in
/-- A slice of structs, its elements' cells. -/
theorem open_rows {t e : TypeId} {k : Nat} (ht : Try.prog.underlying t = some (.slice e)) (hk : Try.prog.cellsOf e = k) (hk0 : 0 < k) (hby : 0 < Try.prog.bytesOf e) {fuel : Nat} {v : Value} {y : DataW H × List MemPlace}
    (h : DataW.trod enc Try.prog W 0 (fun _ => true) true fuel t [v] = some y) (hsz : (y.1.weights Try.prog t).all (· ≤ reachBytes) = true) :
    ∃ (a : Option Addr) (b o n c : Nat), v = .slice a n c ∧ n ≤ c ∧ n ≤ 140737488355328 ∧ (0 < n → a = some ⟨b, o, none⟩ ∧ b < W.heap.size) ∧
      ∀ i, i < n → ∃ (cs : List Value) (m : Nat) (x : DataW H × List MemPlace), cs.length = k ∧ (∀ j, j < k → W.cell? ⟨b, o + (i * k + j), none⟩ = cs[j]?) ∧ DataW.trod enc Try.prog W 0 (fun _ => true) true m e cs = some x ∧ (x.1.weights Try.prog e).all (· ≤ reachBytes) = true := by
  rcases DataW.trod_slice ht h with ⟨hcs, _⟩ | ⟨a, len, cap, elems, rest, n2, _, hcs, hx, _, hl', _, hlen, hel, _, _⟩
  · simp only [List.cons.injEq, and_true] at hcs
    subst hcs
    exact ⟨none, 0, 0, 0, 0, rfl, Nat.le_refl _, by omega, fun h => by omega, fun i h => by omega⟩
  · simp only [List.cons.injEq, and_true] at hcs
    subst hcs
    rw [hx] at hsz
    obtain ⟨hs1, hs2⟩ := all_slice ht hsz
    simp only [List.length_map] at hs1
    have hrb := reachBytes_lt
    have hlb : len ≤ 140737488355328 := by
      have : (elems.length + rest.length) * 1 ≤ (elems.length + rest.length) * Try.prog.bytesOf e := Nat.mul_le_mul_left _ hby
      omega
    rw [hk] at hel
    have hex : ∀ i, i < len → ∃ (cs : List Value) (x : DataW H × List MemPlace), cs.length = k ∧ (∀ j, j < k → W.cell? ((a.add (i * k)).add j) = cs[j]?) ∧ DataW.trod enc Try.prog W 0 (fun _ => true) true n2 e cs = some x ∧ (x.1.weights Try.prog e).all (· ≤ reachBytes) = true := by
      intro i hi
      have hi' := hel i hi
      rw [List.getElem?_eq_getElem (by omega), Option.bind_eq_some_iff] at hi'
      obtain ⟨cs', hc', ht'⟩ := hi'
      obtain ⟨_, hl6, hc6⟩ := World.cells?_some hc'
      exact ⟨cs', elems[i], hl6, fun j hj => hc6 j hj, ht', hs2 _ (List.mem_map.2 ⟨elems[i], List.getElem_mem _, rfl⟩)⟩
    by_cases h0 : len = 0
    · exact ⟨some a, 0, 0, len, cap, rfl, hl', hlb, fun h => by omega, fun i h => by omega⟩
    · obtain ⟨b, off, spot⟩ := a
      obtain ⟨cs0, x0, hl0, hc0, _, _⟩ := hex 0 (by omega)
      have c0 := hc0 0 hk0
      rw [List.getElem?_eq_getElem (by omega)] at c0
      have hspot : spot = none := by simpa [Addr.add] using World.cell?_spot c0
      subst hspot
      have hblt : b < W.heap.size := by
        rw [add_none, add_none] at c0
        exact World.block_lt_of_cell? W _ c0
      refine ⟨some ⟨b, off, none⟩, b, off, len, cap, rfl, hl', hlb, fun _ => ⟨rfl, hblt⟩, fun i hi => ?_⟩
      obtain ⟨cs, x, hl1, hc1, ht1, hs3⟩ := hex i hi
      refine ⟨cs, n2, x, hl1, fun j hj => ?_, ht1, hs3⟩
      have := hc1 j hj
      rw [add_none, add_none, Nat.add_assoc] at this
      exact this
set_option maxRecDepth 100000 in
theorem open_sec {fuel : Nat} {cs : List Value} {x : DataW H × List MemPlace} (h : DataW.trod enc Try.prog W 0 (fun _ => true) true fuel 70 cs = some x) : ∃ D : List UInt8, cs = Lib.byteCells D ∧ D.length = 32 := by
  obtain ⟨xs, m, _, _, hl, hxl, hf⟩ := DataW.trod_array Try.underlying70 h
  rw [Try.cells70] at hl
  obtain ⟨D, hD, hDl⟩ := bytes_of cs (fun i hi => by
    have h1 := hf i (by omega)
    rw [Try.cells5, Nat.mul_one, List.getElem?_eq_getElem (by omega)] at h1
    obtain ⟨n, e, _, hw⟩ := DataW.trod_int (k := .u8) Try.underlying5 h1
    obtain ⟨b, rfl⟩ := u8_of hw
    refine ⟨b, ?_⟩
    have h2 : (List.take 1 (List.drop i cs))[0]? = some (.int .u8 b.toNat) := by rw [e]; rfl
    rw [List.getElem?_take_of_lt (by omega), List.getElem?_drop] at h2
    simpa using h2)
  exact ⟨D, hD, by omega⟩
/-- the parts of a struct's cells. -/
theorem part_of (cs : List Value) (o k n : Nat) (hl : cs.length = n) (hk : o + k ≤ n) : ((cs.drop o).take k).length = k := by
  rw [List.length_take, List.length_drop]; omega
theorem one_of {l : List Value} (h : l.length = 1) : ∃ c, l = [c] := by
  match l, h with
  | [c], _ => exact ⟨c, rfl⟩
set_option maxRecDepth 100000 in
theorem open_turn {fuel : Nat} {cs : List Value} {x : DataW H × List MemPlace} (h : DataW.trod enc Try.prog W 0 (fun _ => true) true fuel 99 cs = some x) : ∃ t : Tn, cs = t.cells ∧ t.ok := by
  obtain ⟨xs, k, _, hx, hl, hxl, hf⟩ := DataW.trod_struct Try.underlying99 h
  rw [Try.cells99] at hl
  obtain ⟨x0, x1, x2, x3, rfl⟩ : ∃ x0 x1 x2 x3, xs = [x0, x1, x2, x3] := by
    match xs, (show xs.length = 4 from hxl) with
    | [a, b, c, d], _ => exact ⟨a, b, c, d, rfl⟩
  have f0 : DataW.trod enc Try.prog W 0 (fun _ => true) true k 3 ((cs.drop 0).take 1) = some x0 := by
    have := hf 0 _ rfl
    change DataW.trod enc Try.prog W 0 (fun _ => true) true k 3 ((cs.drop 0).take (Try.prog.cellsOf 3)) = some x0 at this
    rw [Try.cells3] at this
    exact this
  have f1 : DataW.trod enc Try.prog W 0 (fun _ => true) true k 70 ((cs.drop 1).take 32) = some x1 := by
    have := hf 1 _ rfl
    change DataW.trod enc Try.prog W 0 (fun _ => true) true k 70 ((cs.drop 1).take (Try.prog.cellsOf 70)) = some x1 at this
    rw [Try.cells70] at this
    exact this
  have f2 : DataW.trod enc Try.prog W 0 (fun _ => true) true k 2 ((cs.drop 33).take 1) = some x2 := by
    have := hf 2 _ rfl
    change DataW.trod enc Try.prog W 0 (fun _ => true) true k 2 ((cs.drop 33).take (Try.prog.cellsOf 2)) = some x2 at this
    rw [Try.cells2] at this
    exact this
  have f3 : DataW.trod enc Try.prog W 0 (fun _ => true) true k 67 ((cs.drop 34).take 1) = some x3 := by
    have := hf 3 _ rfl
    change DataW.trod enc Try.prog W 0 (fun _ => true) true k 67 ((cs.drop 34).take (Try.prog.cellsOf 67)) = some x3 at this
    rw [Try.cells67] at this
    exact this
  obtain ⟨z0, e0, _, _⟩ := DataW.trod_int (k := .i64) Try.underlying3 f0
  obtain ⟨D, hD, hDl⟩ := open_sec f1
  obtain ⟨z2, e2, _, w2⟩ := DataW.trod_int (k := .i64) Try.underlying2 f2
  obtain ⟨z3, e3, _, w3⟩ := DataW.trod_int (k := .u64) Try.underlying67 f3
  obtain ⟨N, rfl, _⟩ := u64_of w3
  refine ⟨⟨z0, D, z2, N⟩, ?_, hDl, i64_of w2⟩
  have hsp : cs = (cs.drop 0).take 1 ++ ((cs.drop 1).take 32 ++ ((cs.drop 33).take 1 ++ (cs.drop 34).take 1)) := by
    have h4 : (cs.drop 34).take 1 = cs.drop 34 := List.take_of_length_le (by rw [List.length_drop]; omega)
    rw [h4]
    have h3 : (cs.drop 33).take 1 ++ cs.drop 34 = cs.drop 33 := by
      have := List.take_append_drop 1 (cs.drop 33)
      rwa [List.drop_drop] at this
    rw [h3]
    have h2 : (cs.drop 1).take 32 ++ cs.drop 33 = cs.drop 1 := by
      have := List.take_append_drop 32 (cs.drop 1)
      rwa [List.drop_drop] at this
    rw [h2]
    exact (List.take_append_drop 1 cs).symm
  rw [hsp, e0, hD, e2, e3]
  rfl
theorem life_sized {d0 d1 : DataW H} (h : ((DataW.agg [d0, d1]).weights Try.prog 94).all (· ≤ reachBytes) = true) : (d1.weights Try.prog 92).all (· ≤ reachBytes) = true := by
  rw [List.all_eq_true] at h
  simp only [DataW.weights, Try.underlying94, DataW.weightsEach, List.map_cons, List.map_nil, List.append_nil] at h
  exact List.all_eq_true.2 fun n hn => h n (List.mem_append_right _ hn)
set_option maxRecDepth 100000 in
theorem open_life {fuel : Nat} {cs : List Value} {x : DataW H × List MemPlace} (h : DataW.trod enc Try.prog W 0 (fun _ => true) true fuel 94 cs = some x) (hs : (x.1.weights Try.prog 94).all (· ≤ reachBytes) = true) :
    ∃ (sec : List UInt8) (ta : Option Addr) (tb to tn tc : Nat) (T : Nat → Tn), cs = lifeC sec ta tn tc ∧ sec.length = 32 ∧ tn ≤ 140737488355328 ∧ RowsT W ta tb to tn T := by
  obtain ⟨xs, k, _, hx, hl, hxl, hf⟩ := DataW.trod_struct Try.underlying94 h
  rw [Try.cells94] at hl
  obtain ⟨x0, x1, rfl⟩ : ∃ x0 x1, xs = [x0, x1] := by
    match xs, (show xs.length = 2 from hxl) with
    | [a, b], _ => exact ⟨a, b, rfl⟩
  rw [hx] at hs
  have s1 := life_sized (d0 := x0.1) (d1 := x1.1) hs
  have f0 : DataW.trod enc Try.prog W 0 (fun _ => true) true k 70 ((cs.drop 0).take 32) = some x0 := by
    have := hf 0 _ rfl
    change DataW.trod enc Try.prog W 0 (fun _ => true) true k 70 ((cs.drop 0).take (Try.prog.cellsOf 70)) = some x0 at this
    rw [Try.cells70] at this
    exact this
  have f1 : DataW.trod enc Try.prog W 0 (fun _ => true) true k 92 ((cs.drop 32).take 1) = some x1 := by
    have := hf 1 _ rfl
    change DataW.trod enc Try.prog W 0 (fun _ => true) true k 92 ((cs.drop 32).take (Try.prog.cellsOf 92)) = some x1 at this
    rw [Try.cells92] at this
    exact this
  obtain ⟨D, hD, hDl⟩ := open_sec f0
  obtain ⟨c, hc⟩ := one_of (part_of cs 32 1 33 hl (by decide))
  rw [hc] at f1
  obtain ⟨a, b, o, n, cc, hv, hnc, hn, ha, hel⟩ := open_rows Try.underlying92 Try.cells99 (by decide) (by rw [Try.bytes99]; decide) f1 s1
  have hex : ∀ i, i < n → ∃ t : Tn, W.rangeAt b (o + i * 35) t.cells ∧ t.ok := by
    intro i hi
    obtain ⟨cs', m, x', hcl, hcell, ht, _⟩ := hel i hi
    obtain ⟨t, rfl, hok⟩ := open_turn ht
    refine ⟨t, fun j v hv => ?_, hok⟩
    have hj : j < 35 := by rw [← hcl]; exact (List.getElem?_eq_some_iff.1 hv).1
    have := hcell j hj
    rw [hv, ← Nat.add_assoc] at this
    exact this
  haveI : Inhabited Tn := ⟨ztn⟩
  obtain ⟨f, hf'⟩ := choose_lt hex
  refine ⟨D, a, b, o, n, cc, f, ?_, hDl, hn, ha, fun i hi => hf' i hi⟩
  have hsp : cs = (cs.drop 0).take 32 ++ (cs.drop 32).take 1 := by
    have h4 : (cs.drop 32).take 1 = cs.drop 32 := List.take_of_length_le (by rw [List.length_drop]; omega)
    rw [h4]
    exact (List.take_append_drop 32 cs).symm
  rw [hsp, hD, hc, hv]
  rfl
theorem times_sized {d0 d1 d2 : DataW H} (h : ((DataW.agg [d0, d1, d2]).weights Try.prog 103).all (· ≤ reachBytes) = true) : (d0.weights Try.prog 94).all (· ≤ reachBytes) = true := by
  rw [List.all_eq_true] at h
  simp only [DataW.weights, Try.underlying103, DataW.weightsEach, List.map_cons, List.map_nil, List.append_nil] at h
  exact List.all_eq_true.2 fun n hn => h n (List.mem_append_left _ hn)
set_option maxRecDepth 100000 in
theorem open_times {fuel : Nat} {cs : List Value} {x : DataW H × List MemPlace} (h : DataW.trod enc Try.prog W 0 (fun _ => true) true fuel 103 cs = some x) (hs : (x.1.weights Try.prog 103).all (· ≤ reachBytes) = true) :
    ∃ (sec : List UInt8) (ta : Option Addr) (tb to tn tc : Nat) (T : Nat → Tn) (At Bt : Int), cs = lifeC sec ta tn tc ++ [Value.int .i64 At, Value.int .i64 Bt] ∧ sec.length = 32 ∧ tn ≤ 140737488355328 ∧ RowsT W ta tb to tn T := by
  obtain ⟨xs, k, _, hx, hl, hxl, hf⟩ := DataW.trod_struct Try.underlying103 h
  rw [Try.cells103] at hl
  obtain ⟨x0, x1, x2, rfl⟩ : ∃ x0 x1 x2, xs = [x0, x1, x2] := by
    match xs, (show xs.length = 3 from hxl) with
    | [a, b, c], _ => exact ⟨a, b, c, rfl⟩
  rw [hx] at hs
  have s0 := times_sized (d0 := x0.1) (d1 := x1.1) (d2 := x2.1) hs
  have f0 : DataW.trod enc Try.prog W 0 (fun _ => true) true k 94 ((cs.drop 0).take 33) = some x0 := by
    have := hf 0 _ rfl
    change DataW.trod enc Try.prog W 0 (fun _ => true) true k 94 ((cs.drop 0).take (Try.prog.cellsOf 94)) = some x0 at this
    rw [Try.cells94] at this
    exact this
  have f1 : DataW.trod enc Try.prog W 0 (fun _ => true) true k 2 ((cs.drop 33).take 1) = some x1 := by
    have := hf 1 _ rfl
    change DataW.trod enc Try.prog W 0 (fun _ => true) true k 2 ((cs.drop 33).take (Try.prog.cellsOf 2)) = some x1 at this
    rw [Try.cells2] at this
    exact this
  have f2 : DataW.trod enc Try.prog W 0 (fun _ => true) true k 2 ((cs.drop 34).take 1) = some x2 := by
    have := hf 2 _ rfl
    change DataW.trod enc Try.prog W 0 (fun _ => true) true k 2 ((cs.drop 34).take (Try.prog.cellsOf 2)) = some x2 at this
    rw [Try.cells2] at this
    exact this
  obtain ⟨sec, ta, tb, to, tn, tc, T, hc, h1, h2, h3⟩ := open_life f0 s0
  obtain ⟨z1, e1, _, _⟩ := DataW.trod_int (k := .i64) Try.underlying2 f1
  obtain ⟨z2, e2, _, _⟩ := DataW.trod_int (k := .i64) Try.underlying2 f2
  refine ⟨sec, ta, tb, to, tn, tc, T, z1, z2, ?_, h1, h2, h3⟩
  have hsp : cs = (cs.drop 0).take 33 ++ ((cs.drop 33).take 1 ++ (cs.drop 34).take 1) := by
    have h4 : (cs.drop 34).take 1 = cs.drop 34 := List.take_of_length_le (by rw [List.length_drop]; omega)
    rw [h4]
    have h3 : (cs.drop 33).take 1 ++ cs.drop 34 = cs.drop 33 := by
      have := List.take_append_drop 1 (cs.drop 33)
      rwa [List.drop_drop] at this
    rw [h3]
    exact (List.take_append_drop 33 cs).symm
  rw [hsp, hc, e1, e2]
  rfl
end
end Go.Proofs.Ytmpcpakdocaieaa
