/- Two variables of TerseOne, wherever they lie. -/
import Derived.Test.YtdmnhkgiojkphaaGreatDoorOneW
namespace Go.Proofs.YtdmnhkgiojkphaaGreatDoor
open Go Go.RowKit Go.Maps

theorem hs_set (w : World) (k o : Nat) (v : Value) (b : Nat) (h : b ≠ k) : (w.setCell ⟨k, o, none⟩ v).heap[b]? = w.heap[b]? := by
  simp [World.setCell, Array.getElem?_modify, Ne.symm h]
theorem hs_alloc (w : World) (x : Obj) (b : Nat) (h : b < w.heap.size) : (w.alloc x).heap[b]? = w.heap[b]? := (galloc w x none).block b h (by simp)
theorem drew_heap (w : World) : w.drew.heap = w.heap := rfl
/-- A value and a fault lie in two blocks of the world; all that stood in wr stands. -/
def Rel4 (wr wc : World) (p4 p5 : Value) (a b c d e f x y : Value) : Prop :=
  ∃ b4 b5, p4 = .pointer (some ⟨b4, 0, none⟩) ∧ p5 = .pointer (some ⟨b5, 0, none⟩) ∧ wr.grownBy wc none ∧ wc.heap[b4]? = some (.cells #[a, b, c, d, e, f] 26 (0, 0)) ∧ wc.heap[b5]? = some (.cells #[x, y] 69 (0, 0))
theorem two_grown {wr u X : World} {p r : Nat} (h : Two p r u X) (hg : wr.grownBy u none) (hp : wr.heap.size ≤ p) (hr : wr.heap.size ≤ r) : wr.grownBy X none :=
  ⟨h.os.trans hg.os, h.tape.trans hg.tape, h.output.trans hg.output, Nat.le_trans hg.size h.size, fun k hk _ => (h.block k (Nat.lt_of_lt_of_le hk hg.size) (by omega) (by omega)).trans (hg.block k hk (by simp))⟩
theorem Two.keeps {u X : World} {p r : Nat} (h : Two p r u X) {F : Nat → Prop} (hF : ∀ g, F g → g ≠ p ∧ g ≠ r) : Stays F u X := ⟨h.size, fun g hg hl => h.block g hl (hF g hg).1 (hF g hg).2⟩
variable {wr w2 : World} {a b c d e f x y : Value}
theorem rel_A1 (hcur : wr.grownBy w2 none) : Rel4 wr ((w2.alloc (.cells #[a, b, c, d, e, f] 26)).alloc (.cells #[x, y] 69)) (.pointer (some ⟨w2.heap.size, 0, none⟩)) (.pointer (some ⟨w2.heap.size + 1, 0, none⟩)) a b c d e f x y :=
  ⟨_, _, rfl, rfl, gtrans hcur (gtrans (galloc _ _ none) (galloc _ _ none)), lit_old (lit_new _ _ _ _ rfl) _, lit_new _ _ _ _ (by simp)⟩
theorem rel_A2 (hcur : wr.grownBy w2 none) : Rel4 wr ((w2.alloc (.cells #[x, y] 69)).alloc (.cells #[a, b, c, d, e, f] 26)) (.pointer (some ⟨w2.heap.size + 1, 0, none⟩)) (.pointer (some ⟨w2.heap.size, 0, none⟩)) a b c d e f x y :=
  ⟨_, _, rfl, rfl, gtrans hcur (gtrans (galloc _ _ none) (galloc _ _ none)), lit_new _ _ _ _ (by simp), lit_old (lit_new _ _ _ _ rfl) _⟩
theorem rel_B {u : World} {p r : Nat} {a0 a1 a2 a3 a4 a5 b0 b1 : Value} (hcur : wr.grownBy u none) (hp : u.heap[p]? = some (.cells #[a0, a1, a2, a3, a4, a5] 26 (0, 0))) (hr : u.heap[r]? = some (.cells #[b0, b1] 69 (0, 0))) (hpr : p ≠ r) (h1 : wr.heap.size ≤ p) (h2 : wr.heap.size ≤ r) :
    Rel4 wr ((((((((u.setCell ⟨p, 0, none⟩ a).setCell ⟨p, 1, none⟩ b).setCell ⟨p, 2, none⟩ c).setCell ⟨p, 3, none⟩ d).setCell ⟨p, 4, none⟩ e).setCell ⟨p, 5, none⟩ f).setCell ⟨r, 0, none⟩ x).setCell ⟨r, 1, none⟩ y) (.pointer (some ⟨p, 0, none⟩)) (.pointer (some ⟨r, 0, none⟩)) a b c d e f x y := by
  obtain ⟨W, hW, q1, q2, q3⟩ := laidV hp hr hpr a b c d e f x y
  rw [hW]
  exact ⟨p, r, rfl, rfl, two_grown q3 hcur h1 h2, q1, q2⟩
theorem two_B {u : World} {p r : Nat} {a0 a1 a2 a3 a4 a5 b0 b1 : Value} (hp : u.heap[p]? = some (.cells #[a0, a1, a2, a3, a4, a5] 26 (0, 0))) (hr : u.heap[r]? = some (.cells #[b0, b1] 69 (0, 0))) (hpr : p ≠ r) :
    Two p r u ((((((((u.setCell ⟨p, 0, none⟩ a).setCell ⟨p, 1, none⟩ b).setCell ⟨p, 2, none⟩ c).setCell ⟨p, 3, none⟩ d).setCell ⟨p, 4, none⟩ e).setCell ⟨p, 5, none⟩ f).setCell ⟨r, 0, none⟩ x).setCell ⟨r, 1, none⟩ y) := by
  obtain ⟨W, hW, q1, q2, q3⟩ := laidV hp hr hpr a b c d e f x y
  rw [hW]
  exact q3
theorem set2_heap {u : World} {r : Nat} {b0 b1 : Value} (hr : u.heap[r]? = some (.cells #[b0, b1] 69 (0, 0))) : ((u.setCell ⟨r, 0, none⟩ x).setCell ⟨r, 1, none⟩ y).heap[r]? = some (.cells #[x, y] 69 (0, 0)) := by
  simp [World.setCell, Array.getElem?_modify, hr]
theorem two_C {u : World} {r : Nat} : u.grownBy ((u.setCell ⟨r, 0, none⟩ x).setCell ⟨r, 1, none⟩ y) (some r) := gtrans (gset u ⟨r, 0, none⟩ x) (gset _ ⟨r, 1, none⟩ y)
theorem rel_C {u : World} {p r : Nat} {b0 b1 : Value} (hcur : wr.grownBy u none) (hp : u.heap[p]? = some (.cells #[a, b, c, d, e, f] 26 (0, 0))) (hr : u.heap[r]? = some (.cells #[b0, b1] 69 (0, 0))) (hpr : p ≠ r) (h2 : wr.heap.size ≤ r) :
    Rel4 wr ((u.setCell ⟨r, 0, none⟩ x).setCell ⟨r, 1, none⟩ y) (.pointer (some ⟨p, 0, none⟩)) (.pointer (some ⟨r, 0, none⟩)) a b c d e f x y :=
  ⟨p, r, rfl, rfl, hcur.andThen two_C (fun j hj => .inl (by injection hj with hj; omega)), (two_C.block p (Array.getElem?_eq_some_iff.1 hp).1 (by simp; exact hpr)).trans hp, set2_heap hr⟩
end Go.Proofs.YtdmnhkgiojkphaaGreatDoor
