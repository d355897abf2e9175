/- A field of the argument, opened: its cells. -/
import Derived.Test.YtfalgjdhdgkbfabDoorOpenA
import Derived.OpenShut
namespace Go.Proofs.YtfalgjdhdgkbfabDoor
open Go Go.RowKit Go.ChangeShapes Go.WideShapes Go.ChangeAt Go.Joins Go.Deep

/-- A field as it is asked for. -/
structure Fv where
  dd : Int
  on : Int
  N : Nat
  wd : Int
  ii : Int
  fl : Bool
  s : Value
  B : List UInt8
  D : List UInt8
def Fv.cells (o : Fv) : List Value := [.int .i64 o.dd, .int .i64 o.on, .int .u64 o.N, .int .i64 o.wd, .int .i64 o.ii, .bool o.fl, o.s] ++ Lib.byteCells o.D
/-- What is sure of it in a world. -/
def Fv.In (o : Fv) (W : World) (G : Nat → Prop) : Prop := o.D.length = 16 ∧ o.N < 18446744073709551616 ∧ -9223372036854775808 ≤ o.ii ∧ o.ii ≤ 9223372036854775807 ∧ Rd W G o.s o.B ∧ o.B.length ≤ 140737488355328

theorem bytes_of : ∀ (cs : List Value), (∀ i, i < cs.length → ∃ b : UInt8, cs[i]? = some (.int .u8 b.toNat)) → ∃ D : List UInt8, cs = Lib.byteCells D ∧ D.length = cs.length
  | [], _ => ⟨[], rfl, rfl⟩
  | c :: cs, h => by
    obtain ⟨D, hD, hl⟩ := bytes_of cs (fun i hi => by simpa using h (i + 1) (by simp; omega))
    obtain ⟨b, hb⟩ := h 0 (by simp)
    simp only [List.getElem?_cons_zero, Option.some.injEq] at hb
    exact ⟨b :: D, by rw [hb, hD]; rfl, by simp [hl]⟩
theorem Tryd.cells31 : Tryd.prog.cellsOf 31 = 16 := by kernel_rfl
theorem Tryd.cells33 : Tryd.prog.cellsOf 33 = 23 := by kernel_rfl
theorem Tryd.cells3' : Tryd.prog.cellsOf 3 = 1 := by kernel_rfl
theorem Tryd.cells28 : Tryd.prog.cellsOf 28 = 1 := by kernel_rfl
theorem Tryd.cells2 : Tryd.prog.cellsOf 2 = 1 := by kernel_rfl
theorem Tryd.cells4 : Tryd.prog.cellsOf 4 = 1 := by kernel_rfl
theorem u8_of {n : Int} (h : (Lit.int .u8 n).wf = true) : ∃ b : UInt8, n = b.toNat := by
  simp [Lit.wf, IntKind.min, IntKind.max, IntKind.signed, IntKind.bits] at h
  refine ⟨UInt8.ofNat n.toNat, ?_⟩
  rw [UInt8.toNat_ofNat']
  omega
theorem u64_of {n : Int} (h : (Lit.int .u64 n).wf = true) : ∃ b : Nat, n = b ∧ b < 18446744073709551616 := by
  simp [Lit.wf, IntKind.min, IntKind.max, IntKind.signed, IntKind.bits] at h
  exact ⟨n.toNat, by omega, by omega⟩
theorem i64_of {n : Int} (h : (Lit.int .i64 n).wf = true) : -9223372036854775808 ≤ n ∧ n ≤ 9223372036854775807 := by
  simp [Lit.wf, IntKind.min, IntKind.max, IntKind.signed, IntKind.bits] at h
  omega
section
variable {H : Type} {enc : TypeId × Value → H} {W : World}
theorem open_id {fuel : Nat} {cs : List Value} {x : DataW H × List MemPlace} (h : DataW.trod enc Tryd.prog W 0 (fun _ => true) true fuel 31 cs = some x) : ∃ D : List UInt8, cs = Lib.byteCells D ∧ D.length = 16 := by
  obtain ⟨xs, m, _, _, hl, hxl, hf⟩ := DataW.trod_array Tryd.underlying31 h
  rw [Tryd.cells31] at hl
  obtain ⟨D, hD, hDl⟩ := bytes_of cs (fun i hi => by
    have h1 := hf i (by omega)
    rw [Tryd.cells5, Nat.mul_one, List.getElem?_eq_getElem (by omega)] at h1
    obtain ⟨n, e, _, hw⟩ := DataW.trod_int (k := .u8) Tryd.underlying5 h1
    obtain ⟨b, rfl⟩ := u8_of hw
    refine ⟨b, ?_⟩
    have h2 : (List.take 1 (List.drop i cs))[0]? = some (.int .u8 b.toNat) := by rw [e]; rfl
    rw [List.getElem?_take_of_lt (by omega), List.getElem?_drop] at h2
    simpa using h2)
  exact ⟨D, hD, by omega⟩
theorem op_sized {d0 d1 d2 d3 d4 d5 d6 d7 : DataW H} (h : ((DataW.agg [d0, d1, d2, d3, d4, d5, d6, d7]).weights Tryd.prog 33).all (· ≤ reachBytes) = true) : (d6.weights Tryd.prog 29).all (· ≤ reachBytes) = true := by
  rw [List.all_eq_true] at h
  simp only [DataW.weights, Tryd.underlying33, DataW.weightsEach, List.map_cons, List.map_nil, List.append_nil] at h
  exact List.all_eq_true.2 fun n hn => h n (by simp only [List.mem_append]; exact Or.inr (Or.inr (Or.inr (Or.inr (Or.inr (Or.inr (Or.inl hn)))))))
set_option maxRecDepth 100000 in
theorem open_op {fuel : Nat} {cs : List Value} {x : DataW H × List MemPlace} (h : DataW.trod enc Tryd.prog W 0 (fun _ => true) true fuel 33 cs = some x) (hs : (x.1.weights Tryd.prog 33).all (· ≤ reachBytes) = true) :
    ∃ o : Fv, cs = o.cells ∧ o.In W (fun _ => True) := by
  obtain ⟨xs, k, _, hx, hl, hxl, hf⟩ := DataW.trod_struct Tryd.underlying33 h
  rw [Tryd.cells33] at hl
  obtain ⟨x0, x1, x2, x3, x4, x5, x6, x7, rfl⟩ : ∃ x0 x1 x2 x3 x4 x5 x6 x7, xs = [x0, x1, x2, x3, x4, x5, x6, x7] := by
    match xs, (show xs.length = 8 from hxl) with
    | [a, b, c, d, e, f, g, h], _ => exact ⟨a, b, c, d, e, f, g, h, rfl⟩
  rw [hx] at hs
  have s6 := op_sized (d0 := x0.1) (d1 := x1.1) (d2 := x2.1) (d3 := x3.1) (d4 := x4.1) (d5 := x5.1) (d6 := x6.1) (d7 := x7.1) hs
  obtain ⟨c0, c1, c2, c3, c4, c5, c6, ds, rfl⟩ : ∃ c0 c1 c2 c3 c4 c5 c6 ds, cs = c0 :: c1 :: c2 :: c3 :: c4 :: c5 :: c6 :: ds := by
    match cs, hl with
    | c0 :: c1 :: c2 :: c3 :: c4 :: c5 :: c6 :: ds, _ => exact ⟨c0, c1, c2, c3, c4, c5, c6, ds, rfl⟩
  have hdl : ds.length = 16 := by simpa using hl
  have f0 : DataW.trod enc Tryd.prog W 0 (fun _ => true) true k 3 [c0] = some x0 := by
    have := hf 0 _ rfl
    change DataW.trod enc Tryd.prog W 0 (fun _ => true) true k 3 (((c0 :: c1 :: c2 :: c3 :: c4 :: c5 :: c6 :: ds).drop 0).take (Tryd.prog.cellsOf 3)) = some x0 at this
    rw [Tryd.cells3'] at this
    exact this
  have f1 : DataW.trod enc Tryd.prog W 0 (fun _ => true) true k 3 [c1] = some x1 := by
    have := hf 1 _ rfl
    change DataW.trod enc Tryd.prog W 0 (fun _ => true) true k 3 (((c0 :: c1 :: c2 :: c3 :: c4 :: c5 :: c6 :: ds).drop 1).take (Tryd.prog.cellsOf 3)) = some x1 at this
    rw [Tryd.cells3'] at this
    exact this
  have f2 : DataW.trod enc Tryd.prog W 0 (fun _ => true) true k 28 [c2] = some x2 := by
    have := hf 2 _ rfl
    change DataW.trod enc Tryd.prog W 0 (fun _ => true) true k 28 (((c0 :: c1 :: c2 :: c3 :: c4 :: c5 :: c6 :: ds).drop 2).take (Tryd.prog.cellsOf 28)) = some x2 at this
    rw [Tryd.cells28] at this
    exact this
  have f3 : DataW.trod enc Tryd.prog W 0 (fun _ => true) true k 3 [c3] = some x3 := by
    have := hf 3 _ rfl
    change DataW.trod enc Tryd.prog W 0 (fun _ => true) true k 3 (((c0 :: c1 :: c2 :: c3 :: c4 :: c5 :: c6 :: ds).drop 3).take (Tryd.prog.cellsOf 3)) = some x3 at this
    rw [Tryd.cells3'] at this
    exact this
  have f4 : DataW.trod enc Tryd.prog W 0 (fun _ => true) true k 2 [c4] = some x4 := by
    have := hf 4 _ rfl
    change DataW.trod enc Tryd.prog W 0 (fun _ => true) true k 2 (((c0 :: c1 :: c2 :: c3 :: c4 :: c5 :: c6 :: ds).drop 4).take (Tryd.prog.cellsOf 2)) = some x4 at this
    rw [Tryd.cells2] at this
    exact this
  have f5 : DataW.trod enc Tryd.prog W 0 (fun _ => true) true k 4 [c5] = some x5 := by
    have := hf 5 _ rfl
    change DataW.trod enc Tryd.prog W 0 (fun _ => true) true k 4 (((c0 :: c1 :: c2 :: c3 :: c4 :: c5 :: c6 :: ds).drop 5).take (Tryd.prog.cellsOf 4)) = some x5 at this
    rw [Tryd.cells4] at this
    exact this
  have f6 : DataW.trod enc Tryd.prog W 0 (fun _ => true) true k 29 [c6] = some x6 := by
    have := hf 6 _ rfl
    change DataW.trod enc Tryd.prog W 0 (fun _ => true) true k 29 (((c0 :: c1 :: c2 :: c3 :: c4 :: c5 :: c6 :: ds).drop 6).take (Tryd.prog.cellsOf 29)) = some x6 at this
    rw [Tryd.cells29] at this
    exact this
  have f7 : DataW.trod enc Tryd.prog W 0 (fun _ => true) true k 31 ds = some x7 := by
    have := hf 7 _ rfl
    change DataW.trod enc Tryd.prog W 0 (fun _ => true) true k 31 (((c0 :: c1 :: c2 :: c3 :: c4 :: c5 :: c6 :: ds).drop 7).take (Tryd.prog.cellsOf 31)) = some x7 at this
    rw [Tryd.cells31] at this
    change DataW.trod enc Tryd.prog W 0 (fun _ => true) true k 31 (ds.take 16) = some x7 at this
    rw [List.take_of_length_le (by omega)] at this
    exact this
  obtain ⟨z0, e0, _, _⟩ := DataW.trod_int (k := .i64) Tryd.underlying3 f0
  obtain ⟨z1, e1, _, _⟩ := DataW.trod_int (k := .i64) Tryd.underlying3 f1
  obtain ⟨z2, e2, _, w2⟩ := DataW.trod_int (k := .u64) Tryd.underlying28 f2
  obtain ⟨z3, e3, _, _⟩ := DataW.trod_int (k := .i64) Tryd.underlying3 f3
  obtain ⟨z4, e4, _, w4⟩ := DataW.trod_int (k := .i64) Tryd.underlying2 f4
  obtain ⟨z5, e5, _⟩ := DataW.trod_bool Tryd.underlying4 f5
  obtain ⟨B, r6, b6⟩ := open_bytes f6 s6
  obtain ⟨D, hD, hDl⟩ := open_id f7
  obtain ⟨N, rfl, hN⟩ := u64_of w2
  have w4' := i64_of w4
  simp only [List.cons.injEq, and_true] at e0 e1 e2 e3 e4 e5
  subst e0 e1 e2 e3 e4 e5 hD
  exact ⟨⟨z0, z1, N, z3, z4, z5, c6, B, D⟩, rfl, hDl, hN, w4'.1, w4'.2, r6, b6⟩
end
end Go.Proofs.YtfalgjdhdgkbfabDoor
