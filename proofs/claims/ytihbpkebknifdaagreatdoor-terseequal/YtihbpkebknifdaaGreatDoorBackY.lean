/- The argument of TerseBack and TerseEqual, opened. -/
import Derived.Test.YtihbpkebknifdaaGreatDoorValB
import Derived.Test.YtihbpkebknifdaaGreatDoorEqA
import Derived.ChangeOld
import Derived.Lib.SmallJoins
namespace Go.Proofs.YtihbpkebknifdaaGreatDoor
open Go Go.RowKit Go.ChangeShapes Go.WideShapes Go.ChangeAt Go.Joins

theorem Tryz.cells27 : Tryz.prog.cellsOf 27 = 7 := by kernel_rfl
theorem seven_of {cs : List Value} (h : cs.length = 7) : ∃ a b c d e f g, cs = [a, b, c, d, e, f, g] := by
  match cs, h with
  | [a, b, c, d, e, f, g], _ => exact ⟨a, b, c, d, e, f, g, rfl⟩
section
variable {H : Type} {enc : TypeId × Value → H} {W : World}
theorem blank_sized {d0 d1 : DataW H} (h : (DataW.weightsEach Tryz.prog [27] [.agg [d0, d1]]).all (· ≤ reachBytes) = true) : (d0.weights Tryz.prog 25).all (· ≤ reachBytes) = true := by
  simp only [DataW.weightsEach, DataW.weights, Tryz.underlying27, List.map_cons, List.map_nil, List.append_nil] at h
  simp only [List.all_append, Bool.and_eq_true] at h
  exact h.1
set_option maxRecDepth 100000 in
/-- The argument of TerseBack and TerseEqual: a value and a number. -/
theorem open_blank {r : Reach} {b0 : Nat} {v : Value} {d : DataW H} {p : List MemPlace} (hv : Value.okWide Tryz.prog W r b0 27 v) (h : DataW.Trod enc Tryz.prog W 0 (fun _ => true) true 27 v d p)
    (hsz : (DataW.weightsEach Tryz.prog [27] [d]).all (· ≤ reachBytes) = true) :
    ∃ (t : Tree) (ka : Option Addr) (kc : Nat) (ia : Option Addr) (ic : Nat) (X : Int), v = .agg #[.int .i64 t.kind, .bool t.flag, .int .i64 t.n, .string t.text, .slice ka t.keys.length kc, .slice ia t.items.length ic, .int .i64 X] ∧ Fits t ∧ BndT t ∧
      RdT W (fun _ => True) t (.agg #[.int .i64 t.kind, .bool t.flag, .int .i64 t.n, .string t.text, .slice ka t.keys.length kc, .slice ia t.items.length ic]) := by
  obtain ⟨cs, rfl, hcs⟩ := okWide_struct Tryz.underlying27 hv
  obtain ⟨fuel, hf⟩ := h
  have hf' : DataW.trod enc Tryz.prog W 0 (fun _ => true) true fuel 27 cs.toList = some (d, p) := by simpa [Value.cells] using hf
  obtain ⟨xs, n, _, hx, hl, hxl, hf6⟩ := DataW.trod_struct Tryz.underlying27 hf'
  rw [Tryz.cells27] at hl
  obtain ⟨c0, c1, c2, c3, c4, c5, c6, hc7⟩ := seven_of hl
  have hcs7 : cs = #[c0, c1, c2, c3, c4, c5, c6] := by
    rw [← Array.toArray_toList (xs := cs), hc7]
  subst hcs7
  obtain ⟨x0, x1, rfl⟩ : ∃ x0 x1, xs = [x0, x1] := by
    match xs, (show xs.length = 2 from hxl) with
    | [a, b], _ => exact ⟨a, b, rfl⟩
  simp only [Prod.mk.injEq] at hx
  have hd := hx.1
  subst hd
  have f0 : DataW.trod enc Tryz.prog W 0 (fun _ => true) true n 25 [c0, c1, c2, c3, c4, c5] = some x0 := by
    have := hf6 0 _ rfl
    change DataW.trod enc Tryz.prog W 0 (fun _ => true) true n 25 ((([c0, c1, c2, c3, c4, c5, c6] : List Value).drop 0).take (Tryz.prog.cellsOf 25)) = some x0 at this
    rw [Tryz.cells25] at this
    exact this
  have f1 : DataW.trod enc Tryz.prog W 0 (fun _ => true) true n 3 [c6] = some x1 := by
    have := hf6 1 _ rfl
    change DataW.trod enc Tryz.prog W 0 (fun _ => true) true n 3 ((([c0, c1, c2, c3, c4, c5, c6] : List Value).drop 6).take (Tryz.prog.cellsOf 3)) = some x1 at this
    rw [Tryz.cells3] at this
    exact this
  obtain ⟨X, e6, _, _⟩ := DataW.trod_int (k := .i64) Tryz.underlying3 f1
  simp only [List.cons.injEq, and_true] at e6
  subst e6
  obtain ⟨t, hT, hF, hB⟩ := open_VB _ _ _ f0 (blank_sized hsz)
  have hT' := hT
  obtain ⟨kv, iv, ev, ⟨pk, ck, rfl, _, _⟩, ⟨pi, ci, rfl, _, _⟩⟩ := RdT_split hT
  simp only [Value.agg.injEq, Array.mk.injEq, List.cons.injEq, and_true] at ev
  obtain ⟨rfl, rfl, rfl, rfl, rfl, rfl⟩ := ev
  exact ⟨t, pk, ck, pi, ci, X, rfl, hF, hB, hT'⟩
end

end Go.Proofs.YtihbpkebknifdaaGreatDoor
