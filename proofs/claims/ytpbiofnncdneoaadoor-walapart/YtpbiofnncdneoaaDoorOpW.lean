/- The arguments of stage 10's statements, opened. -/
import Derived.Test.YtpbiofnncdneoaaDoorOpenA
import Derived.Test.YtpbiofnncdneoaaDoorWe
namespace Go.Proofs.YtpbiofnncdneoaaDoor
open Go Go.RowKit Go.ChangeShapes Go.WideShapes Go.ChangeAt Go.Joins Go.Deep

theorem Tryd.cells3 : Tryd.prog.cellsOf 3 = 1 := by kernel_rfl
theorem Tryd.cells22 : Tryd.prog.cellsOf 22 = 1 := by kernel_rfl
theorem Tryd.cells24 : Tryd.prog.cellsOf 24 = 5 := by kernel_rfl
theorem Tryd.cells55 : Tryd.prog.cellsOf 55 = 3 := by kernel_rfl
theorem Tryd.bytes36 : Tryd.prog.bytesOf 36 = 24 := by kernel_rfl
section
variable {H : Type} {enc : TypeId × Value → H} {W : World}
theorem rd_in {F : Nat → Prop} {v : Value} {l : List UInt8} (h : Rd W F v l) : Rd W (fun k => k < W.heap.size) v l := by
  obtain ⟨a, b, o, c, e, hc, hn, ha, hcell⟩ := h
  exact ⟨a, b, o, c, e, hc, hn, fun h0 => ⟨(ha h0).1, (ha h0).2.1, (ha h0).2.1⟩, hcell⟩
/-- A slice of slices of bytes. -/
theorem open_bodies {fuel : Nat} {v : Value} {y : DataW H × List MemPlace} (h : DataW.trod enc Tryd.prog W 0 (fun _ => true) true fuel 22 [v] = some y) (hsz : (y.1.weights Tryd.prog 22).all (· ≤ reachBytes) = true) :
    ∃ (a : Option Addr) (b o n c : Nat) (ls : List (List UInt8)), v = .slice a n c ∧ ls.length = n ∧ n ≤ 140737488355328 ∧ RowS W (fun k => k < W.heap.size) a b o ls ∧ ∀ r ∈ ls, r.length ≤ 140737488355328 := by
  obtain ⟨a, b, o, n, c, hv, _, hn, hat, hel⟩ := open_rows Tryd.underlying22 Tryd.cells36 (by decide) (by rw [Tryd.bytes36]; decide) h hsz
  have hex : ∀ i, i < n → ∃ l : List UInt8, (∃ v, W.cell? ⟨b, o + i, none⟩ = some v ∧ Rd W (fun k => k < W.heap.size) v l) ∧ l.length ≤ 140737488355328 := by
    intro i hi
    obtain ⟨cs, m, x, hl, hc, ht, hs⟩ := hel i hi
    obtain ⟨c0, rfl⟩ : ∃ c0, cs = [c0] := by
      match cs, hl with
      | [c0], _ => exact ⟨c0, rfl⟩
    obtain ⟨l, h1, h2⟩ := open_bytes ht hs
    have := hc 0 (by decide)
    rw [Nat.mul_one, Nat.add_zero] at this
    exact ⟨l, ⟨c0, this, rd_in h1⟩, h2⟩
  obtain ⟨f, hf⟩ := choose_lt hex
  have hll : ((List.range n).map f).length = n := by simp
  refine ⟨a, b, o, n, c, (List.range n).map f, hv, hll, hn, ⟨fun h0 => ?_, fun i hi => ?_⟩, fun r hr => ?_⟩
  · rw [hll] at h0
    exact ⟨(hat h0).1, (hat h0).2, (hat h0).2⟩
  · rw [hll] at hi
    have e : ((List.range n).map f)[i]'(by rw [hll]; exact hi) = f i := by simp
    rw [e]
    exact (hf i hi).1
  · obtain ⟨i, hi, rfl⟩ := List.mem_map.1 hr
    exact (hf i (List.mem_range.1 hi)).2
theorem torn_sized {d0 d1 d2 d3 d4 : DataW H} (h : ((DataW.agg [d0, d1, d2, d3, d4]).weights Tryd.prog 24).all (· ≤ reachBytes) = true) : (d0.weights Tryd.prog 22).all (· ≤ reachBytes) = true := by
  rw [List.all_eq_true] at h
  simp only [DataW.weights, Tryd.underlying24, DataW.weightsEach, List.map_cons, List.map_nil, List.append_nil] at h
  exact List.all_eq_true.2 fun n hn => h n (by simp only [List.mem_append]; exact Or.inl hn)
theorem hurt_sized {d0 d1 d2 : DataW H} (h : ((DataW.agg [d0, d1, d2]).weights Tryd.prog 55).all (· ≤ reachBytes) = true) : (d0.weights Tryd.prog 22).all (· ≤ reachBytes) = true := by
  rw [List.all_eq_true] at h
  simp only [DataW.weights, Tryd.underlying55, DataW.weightsEach, List.map_cons, List.map_nil, List.append_nil] at h
  exact List.all_eq_true.2 fun n hn => h n (by simp only [List.mem_append]; exact Or.inl hn)
set_option maxRecDepth 100000 in
theorem open_torn_arg {fuel : Nat} {cs : List Value} {x : DataW H × List MemPlace} (h : DataW.trod enc Tryd.prog W 0 (fun _ => true) true fuel 24 cs = some x) (hs : (x.1.weights Tryd.prog 24).all (· ≤ reachBytes) = true) :
    ∃ (a : Option Addr) (b o n c : Nat) (N K Th TK : Int) (ls : List (List UInt8)), cs = [.slice a n c, .int .i64 N, .int .i64 K, .int .i64 Th, .int .i64 TK] ∧ ls.length = n ∧ RowS W (fun k => k < W.heap.size) a b o ls ∧ ∀ r ∈ ls, r.length ≤ 140737488355328 := by
  obtain ⟨xs, k, _, hx, hl, hxl, hf⟩ := DataW.trod_struct Tryd.underlying24 h
  rw [Tryd.cells24] at hl
  obtain ⟨x0, x1, x2, x3, x4, rfl⟩ : ∃ x0 x1 x2 x3 x4, xs = [x0, x1, x2, x3, x4] := by
    match xs, (show xs.length = 5 from hxl) with
    | [a, b, c, d, e], _ => exact ⟨a, b, c, d, e, rfl⟩
  rw [hx] at hs
  have s1 := torn_sized (d0 := x0.1) (d1 := x1.1) (d2 := x2.1) (d3 := x3.1) (d4 := x4.1) hs
  obtain ⟨c0, c1, c2, c3, c4, rfl⟩ : ∃ c0 c1 c2 c3 c4, cs = [c0, c1, c2, c3, c4] := by
    match cs, hl with
    | [a, b, c, d, e], _ => exact ⟨a, b, c, d, e, rfl⟩
  have f0 : DataW.trod enc Tryd.prog W 0 (fun _ => true) true k 22 [c0] = some x0 := by
    have := hf 0 _ rfl
    change DataW.trod enc Tryd.prog W 0 (fun _ => true) true k 22 ((([c0, c1, c2, c3, c4] : List Value).drop 0).take (Tryd.prog.cellsOf 22)) = some x0 at this
    rw [Tryd.cells22] at this
    exact this
  have f1 : DataW.trod enc Tryd.prog W 0 (fun _ => true) true k 3 [c1] = some x1 := by
    have := hf 1 _ rfl
    change DataW.trod enc Tryd.prog W 0 (fun _ => true) true k 3 ((([c0, c1, c2, c3, c4] : List Value).drop 1).take (Tryd.prog.cellsOf 3)) = some x1 at this
    rw [Tryd.cells3] at this
    exact this
  have f2 : DataW.trod enc Tryd.prog W 0 (fun _ => true) true k 3 [c2] = some x2 := by
    have := hf 2 _ rfl
    change DataW.trod enc Tryd.prog W 0 (fun _ => true) true k 3 ((([c0, c1, c2, c3, c4] : List Value).drop 2).take (Tryd.prog.cellsOf 3)) = some x2 at this
    rw [Tryd.cells3] at this
    exact this
  have f3 : DataW.trod enc Tryd.prog W 0 (fun _ => true) true k 3 [c3] = some x3 := by
    have := hf 3 _ rfl
    change DataW.trod enc Tryd.prog W 0 (fun _ => true) true k 3 ((([c0, c1, c2, c3, c4] : List Value).drop 3).take (Tryd.prog.cellsOf 3)) = some x3 at this
    rw [Tryd.cells3] at this
    exact this
  have f4 : DataW.trod enc Tryd.prog W 0 (fun _ => true) true k 3 [c4] = some x4 := by
    have := hf 4 _ rfl
    change DataW.trod enc Tryd.prog W 0 (fun _ => true) true k 3 ((([c0, c1, c2, c3, c4] : List Value).drop 4).take (Tryd.prog.cellsOf 3)) = some x4 at this
    rw [Tryd.cells3] at this
    exact this
  obtain ⟨r1, e1, _, _⟩ := DataW.trod_int (k := .i64) Tryd.underlying3 f1
  obtain ⟨r2, e2, _, _⟩ := DataW.trod_int (k := .i64) Tryd.underlying3 f2
  obtain ⟨r3, e3, _, _⟩ := DataW.trod_int (k := .i64) Tryd.underlying3 f3
  obtain ⟨r4, e4, _, _⟩ := DataW.trod_int (k := .i64) Tryd.underlying3 f4
  obtain ⟨a, b, o, n, c, ls, rfl, h1, _, h2, h3⟩ := open_bodies f0 s1
  simp at e1 e2 e3 e4
  subst e1 e2 e3 e4
  exact ⟨a, b, o, n, c, r1, r2, r3, r4, ls, rfl, h1, h2, h3⟩
set_option maxRecDepth 100000 in
theorem open_hurt_arg {fuel : Nat} {cs : List Value} {x : DataW H × List MemPlace} (h : DataW.trod enc Tryd.prog W 0 (fun _ => true) true fuel 55 cs = some x) (hs : (x.1.weights Tryd.prog 55).all (· ≤ reachBytes) = true) :
    ∃ (a : Option Addr) (b o n c : Nat) (N K : Int) (ls : List (List UInt8)), cs = [.slice a n c, .int .i64 N, .int .i64 K] ∧ ls.length = n ∧ RowS W (fun k => k < W.heap.size) a b o ls ∧ ∀ r ∈ ls, r.length ≤ 140737488355328 := by
  obtain ⟨xs, k, _, hx, hl, hxl, hf⟩ := DataW.trod_struct Tryd.underlying55 h
  rw [Tryd.cells55] at hl
  obtain ⟨x0, x1, x2, rfl⟩ : ∃ x0 x1 x2, xs = [x0, x1, x2] := by
    match xs, (show xs.length = 3 from hxl) with
    | [a, b, c], _ => exact ⟨a, b, c, rfl⟩
  rw [hx] at hs
  have s1 := hurt_sized (d0 := x0.1) (d1 := x1.1) (d2 := x2.1) hs
  obtain ⟨c0, c1, c2, rfl⟩ : ∃ c0 c1 c2, cs = [c0, c1, c2] := by
    match cs, hl with
    | [a, b, c], _ => exact ⟨a, b, c, rfl⟩
  have f0 : DataW.trod enc Tryd.prog W 0 (fun _ => true) true k 22 [c0] = some x0 := by
    have := hf 0 _ rfl
    change DataW.trod enc Tryd.prog W 0 (fun _ => true) true k 22 ((([c0, c1, c2] : List Value).drop 0).take (Tryd.prog.cellsOf 22)) = some x0 at this
    rw [Tryd.cells22] at this
    exact this
  have f1 : DataW.trod enc Tryd.prog W 0 (fun _ => true) true k 3 [c1] = some x1 := by
    have := hf 1 _ rfl
    change DataW.trod enc Tryd.prog W 0 (fun _ => true) true k 3 ((([c0, c1, c2] : List Value).drop 1).take (Tryd.prog.cellsOf 3)) = some x1 at this
    rw [Tryd.cells3] at this
    exact this
  have f2 : DataW.trod enc Tryd.prog W 0 (fun _ => true) true k 3 [c2] = some x2 := by
    have := hf 2 _ rfl
    change DataW.trod enc Tryd.prog W 0 (fun _ => true) true k 3 ((([c0, c1, c2] : List Value).drop 2).take (Tryd.prog.cellsOf 3)) = some x2 at this
    rw [Tryd.cells3] at this
    exact this
  obtain ⟨r1, e1, _, _⟩ := DataW.trod_int (k := .i64) Tryd.underlying3 f1
  obtain ⟨r2, e2, _, _⟩ := DataW.trod_int (k := .i64) Tryd.underlying3 f2
  obtain ⟨a, b, o, n, c, ls, rfl, h1, _, h2, h3⟩ := open_bodies f0 s1
  simp at e1 e2
  subst e1 e2
  exact ⟨a, b, o, n, c, r1, r2, ls, rfl, h1, h2, h3⟩
end
end Go.Proofs.YtpbiofnncdneoaaDoor
