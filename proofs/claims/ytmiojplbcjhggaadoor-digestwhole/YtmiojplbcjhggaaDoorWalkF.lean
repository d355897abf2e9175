/- The copy into a row; Write. -/
import Derived.Test.YtmiojplbcjhggaaDoorWalkE
namespace Go.Proofs.YtmiojplbcjhggaaDoor
open Go Go.RowKit
open Go.RowKit (wrap32 wrap64)

theorem Tryd.one5 : (Tryd.prog.info? 5).map (·.size) = some 1 := by kernel_rfl
/-- copy of bytes that can be read into a row of bytes. -/
theorem wpList_copy_blk {w : World} {ops : Array Oper} {rest : List Oper} {o : Oper} {a : Act} {Q : Exit → Act → World → Prop} (hgd : o.guard = none) (d s : Operand)
    (ho : o.op = .call { callee := .builtin .copy, args := #[d, s], argTypes := #[23, 23] }) (g off dLen dCap : Nat) (hd : a.eval d = .slice (some ⟨g, off, none⟩) dLen dCap) (F : Nat → Prop) (x : List UInt8) (hx : Rd w F (a.eval s) x)
    (cur : List Value) (t : TypeId) (hb : Blk w g cur t) (k : Nat) (hk : Nat.min x.length dLen = k) (hfit : off + k ≤ cur.length)
    (h : ∀ w', Blk w' g (splice cur off (Lib.byteCells (x.take k))) t → w.grownBy w' (some g) → w'.heap.size = w.heap.size → wpList Tryd.prog ops Q rest (a.put o.dst (.int .i64 k)) w') : wpList Tryd.prog ops Q (o :: rest) a w := by
  obtain ⟨p, b, of, c, e, hc, hn, ha, hcell⟩ := hx
  have hkl : (Lib.byteCells (x.take k)).length = k := by rw [byteCells_length, List.length_take]; have : k ≤ x.length := by rw [← hk]; exact Nat.min_le_left _ _
                                                         omega
  by_cases h0 : k = 0
  · refine wpList_copy_nothing hgd d s 23 23 ho 5 Tryd.underlying23 Tryd.one5 _ _ _ _ _ _ hd e (by rw [hk, h0]) ?_
    subst h0
    exact h w (by rw [show x.take 0 = [] from List.take_zero .., show Lib.byteCells [] = [] from rfl]; unfold splice; simpa using hb) (grefl _ _) rfl
  · have hxl : 0 < x.length := by have : k ≤ x.length := by rw [← hk]; exact Nat.min_le_left _ _
                                  omega
    obtain ⟨rfl, hb1, _⟩ := ha hxl
    refine wpList_copy_own hgd d s 23 23 ho 5 Tryd.underlying23 Tryd.one5 g off dLen dCap ⟨b, of, none⟩ x.length c hd e cur.toArray t hb (Lib.byteCells (x.take k)) (by rw [hkl, hk]) ?_ (by rw [hkl]; simpa using hfit) (bcs_one _) ?_
    · intro j v hv
      have hj : j < (x.take k).length := by have := (List.getElem?_eq_some_iff.1 hv).1; rw [byteCells_length] at this; exact this
      have hj2 : j < x.length := by rw [List.length_take] at hj; omega
      rw [Addr.add_lit, hcell j hj2, ← hv, Lib.byteCells, List.getElem?_map, List.getElem?_eq_getElem hj, List.getElem_take]
      rfl
    · rw [hkl]
      exact h _ (by have := setRow_heap w g _ (cur.toArray.toList.take off ++ (Lib.byteCells (x.take k) ++ cur.toArray.toList.drop (off + (Lib.byteCells (x.take k)).length))).toArray t _ hb
                    rw [hkl] at this
                    unfold Blk splice
                    rw [hkl]
                    exact this) (grow_setRow _ _ _) (by simp)
/-- what lies behind the first n bytes of a slice. -/
theorem Rd.drop {w : World} {F : Nat → Prop} {b off c : Nat} {a p : Option Addr} {x : List UInt8} (n : Nat) (hn : n ≤ x.length) (h : Rd w F (.slice a x.length c) x) (h0 : 0 < x.length → a = some ⟨b, off, none⟩) (hp : 0 < x.length - n → p = some ⟨b, off + n, none⟩) (hpn : p = none → c - n = 0) : Rd w F (.slice p (x.length - n) (c - n)) (x.drop n) := by
  obtain ⟨a', b', off', c', e, hc, hnn, ha, hcell⟩ := h
  injection e with e1 e2 e3
  subst e1 e3
  refine ⟨p, b, off + n, c - n, by rw [List.length_drop], by rw [List.length_drop]; omega, hpn, fun hl => ?_, fun i hi => ?_⟩
  · rw [List.length_drop] at hl
    obtain ⟨q1, q2, q3⟩ := ha (by omega)
    have := h0 (by omega)
    rw [q1] at this
    injection this with this
    injection this with i1 i2
    subst i1 i2
    exact ⟨hp hl, q2, q3⟩
  · rw [List.length_drop] at hi
    obtain ⟨q1, q2, q3⟩ := ha (by omega)
    have := h0 (by omega)
    rw [q1] at this
    injection this with this
    injection this with i1 i2
    subst i1 i2
    rw [Nat.add_assoc, hcell (n + i) (by omega)]
    simp
/-- the first n bytes of a slice lie in its block. -/
theorem Rd.front {w : World} {F : Nat → Prop} {v : Value} {x : List UInt8} (h : Rd w F v x) (n : Nat) (h0 : 0 < n) (hn : n ≤ x.length) : ∃ b off c, v = .slice (some ⟨b, off, none⟩) x.length c ∧ x.length ≤ c ∧ b < w.heap.size ∧ F b ∧ w.rangeAt b off (Lib.byteCells (x.take n)) := by
  obtain ⟨a, b, off, c, e, hc, hnn, ha, hcell⟩ := h
  obtain ⟨rfl, h1, h2⟩ := ha (by omega)
  refine ⟨b, off, c, e, hc, h1, h2, fun j v hv => ?_⟩
  have hj : j < (x.take n).length := by have := (List.getElem?_eq_some_iff.1 hv).1; rw [byteCells_length] at this; exact this
  have hj2 : j < x.length := by rw [List.length_take] at hj; omega
  rw [hcell j hj2, ← hv, Lib.byteCells, List.getElem?_map, List.getElem?_eq_getElem hj, List.getElem_take]
  rfl
end Go.Proofs.YtmiojplbcjhggaaDoor
