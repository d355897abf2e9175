/- Trees in memory. -/
import Derived.Test.YtdmnhkgiojkphaaGreatDoorWalkE
import Derived.Test.YtdmnhkgiojkphaaGreatDoorTreeR
namespace Go.Proofs.YtdmnhkgiojkphaaGreatDoor
open Go Go.RowKit

/-- A list of texts in memory: in a block of F. -/
def RdK (w : World) (F : Nat → Prop) (ks : List ByteArray) (v : Value) : Prop :=
  ∃ (a : Option Addr) (c : Nat), v = .slice a ks.length c ∧ ks.length ≤ c ∧ (0 < ks.length → ∃ g o, a = some ⟨g, o, none⟩ ∧ g < w.heap.size ∧ F g ∧ ∀ (i : Nat) k, ks[i]? = some k → w.cell? ⟨g, o + i, none⟩ = some (.string k))
mutual
/-- A tree in memory: all its lists lie in blocks of F. -/
def RdT (w : World) (F : Nat → Prop) : Tree → Value → Prop
  | .mk k f n t ks is, v => ∃ (kv : Value) (a : Option Addr) (c : Nat), v = .agg #[.int .i64 k, .bool f, .int .i64 n, .string t, kv, .slice a is.length c] ∧ RdK w F ks kv ∧ is.length ≤ c ∧ (0 < is.length → ∃ g o, a = some ⟨g, o, none⟩ ∧ g < w.heap.size ∧ F g ∧ RdIs w F g o is)
/-- Trees one behind the other in a block. -/
def RdIs (w : World) (F : Nat → Prop) (g o : Nat) : List Tree → Prop
  | [] => True
  | t :: r => (∃ a b c d e f, w.cell? ⟨g, o, none⟩ = some a ∧ w.cell? ⟨g, o + 1, none⟩ = some b ∧ w.cell? ⟨g, o + 2, none⟩ = some c ∧ w.cell? ⟨g, o + 3, none⟩ = some d ∧ w.cell? ⟨g, o + 4, none⟩ = some e ∧ w.cell? ⟨g, o + 5, none⟩ = some f ∧ RdT w F t (.agg #[a, b, c, d, e, f])) ∧ RdIs w F g (o + 6) r
end
theorem RdT_eq (w : World) (F : Nat → Prop) (t : Tree) (v : Value) : RdT w F t v = ∃ (kv : Value) (a : Option Addr) (c : Nat), v = .agg #[.int .i64 t.kind, .bool t.flag, .int .i64 t.n, .string t.text, kv, .slice a t.items.length c] ∧ RdK w F t.keys kv ∧ t.items.length ≤ c ∧ (0 < t.items.length → ∃ g o, a = some ⟨g, o, none⟩ ∧ g < w.heap.size ∧ F g ∧ RdIs w F g o t.items) := by
  cases t with | mk k f n t ks is => rw [RdT]; rfl

/-- All blocks of F stay. -/
def Stays (F : Nat → Prop) (w w' : World) : Prop := w.heap.size ≤ w'.heap.size ∧ ∀ g, F g → g < w.heap.size → w'.heap[g]? = w.heap[g]?
theorem Stays.cell {F : Nat → Prop} {w w' : World} (h : Stays F w w') {g o : Nat} {v : Value} (hF : F g) (hg : g < w.heap.size) (hc : w.cell? ⟨g, o, none⟩ = some v) : w'.cell? ⟨g, o, none⟩ = some v := by
  rw [← hc]
  exact World.cell?_of_block (w := w) (h.2 g hF hg)
theorem Stays.refl (F : Nat → Prop) (w : World) : Stays F w w := ⟨Nat.le_refl _, fun _ _ _ => rfl⟩
theorem Stays.trans {F : Nat → Prop} {a b c : World} (h : Stays F a b) (k : Stays F b c) : Stays F a c :=
  ⟨Nat.le_trans h.1 k.1, fun g hF hg => (k.2 g hF (Nat.lt_of_lt_of_le hg h.1)).trans (h.2 g hF hg)⟩
theorem Stays.grown {F : Nat → Prop} {w w' : World} {row : Option Nat} (hg : w.grownBy w' row) (hF : ∀ g, F g → some g ≠ row) : Stays F w w' := ⟨hg.size, fun g h hl => hg.block g hl (hF g h)⟩
theorem Stays.mono {F F' : Nat → Prop} {w w' : World} (h : Stays F w w') (hF : ∀ g, F' g → F g) : Stays F' w w' := ⟨h.1, fun g hg hl => h.2 g (hF g hg) hl⟩

theorem RdK.kept {w w' : World} {F F' : Nat → Prop} {ks : List ByteArray} {v : Value} (h : RdK w F ks v) (hs : Stays F w w') (hF : ∀ g, F g → g < w.heap.size → F' g) : RdK w' F' ks v := by
  obtain ⟨a, c, rfl, hc, hk⟩ := h
  refine ⟨a, c, rfl, hc, fun h0 => ?_⟩
  obtain ⟨g, o, rfl, hg, hFg, hcell⟩ := hk h0
  exact ⟨g, o, rfl, Nat.lt_of_lt_of_le hg hs.1, hF g hFg hg, fun i k hi => hs.cell hFg hg (hcell i k hi)⟩
mutual
theorem RdT.kept {w w' : World} {F F' : Nat → Prop} (hs : Stays F w w') (hF : ∀ g, F g → g < w.heap.size → F' g) : ∀ (t : Tree) {v : Value}, RdT w F t v → RdT w' F' t v
  | .mk k f n t ks is, v, h => by
    rw [RdT] at h ⊢
    obtain ⟨kv, a, c, rfl, hk, hc, hi⟩ := h
    refine ⟨kv, a, c, rfl, hk.kept hs hF, hc, fun h0 => ?_⟩
    obtain ⟨g, o, rfl, hg, hFg, hr⟩ := hi h0
    exact ⟨g, o, rfl, Nat.lt_of_lt_of_le hg hs.1, hF g hFg hg, RdIs.kept hs hF hFg hg is hr⟩
theorem RdIs.kept {w w' : World} {F F' : Nat → Prop} {g : Nat} (hs : Stays F w w') (hF : ∀ g, F g → g < w.heap.size → F' g) (hFg : F g) (hg : g < w.heap.size) : ∀ (l : List Tree) {o : Nat}, RdIs w F g o l → RdIs w' F' g o l
  | [], o, h => by rw [RdIs]; trivial
  | t :: r, o, h => by
    rw [RdIs] at h ⊢
    obtain ⟨⟨a, b, c, d, e, f, h0, h1, h2, h3, h4, h5, ht⟩, hr⟩ := h
    exact ⟨⟨a, b, c, d, e, f, hs.cell hFg hg h0, hs.cell hFg hg h1, hs.cell hFg hg h2, hs.cell hFg hg h3, hs.cell hFg hg h4, hs.cell hFg hg h5, RdT.kept hs hF t ht⟩, RdIs.kept hs hF hFg hg r hr⟩
end
theorem RdT.on {w w' : World} {F : Nat → Prop} {t : Tree} {v : Value} (h : RdT w F t v) (hs : Stays F w w') : RdT w' F t v := RdT.kept hs (fun _ h _ => h) t h
theorem RdIs.get {w : World} {F : Nat → Prop} {g : Nat} : ∀ (l : List Tree) {o : Nat}, RdIs w F g o l → ∀ (i : Nat) t, l[i]? = some t →
    ∃ a b c d e f, w.cell? ⟨g, o + 6 * i, none⟩ = some a ∧ w.cell? ⟨g, o + 6 * i + 1, none⟩ = some b ∧ w.cell? ⟨g, o + 6 * i + 2, none⟩ = some c ∧ w.cell? ⟨g, o + 6 * i + 3, none⟩ = some d ∧ w.cell? ⟨g, o + 6 * i + 4, none⟩ = some e ∧ w.cell? ⟨g, o + 6 * i + 5, none⟩ = some f ∧ RdT w F t (.agg #[a, b, c, d, e, f])
  | [], _, _, i, t, hi => by simp at hi
  | x :: r, o, h, 0, t, hi => by
    simp only [List.getElem?_cons_zero, Option.some.injEq] at hi
    subst hi
    rw [RdIs] at h
    exact h.1
  | x :: r, o, h, i + 1, t, hi => by
    rw [RdIs] at h
    have := RdIs.get r h.2 i t (by simpa using hi)
    rw [show o + 6 * (i + 1) = o + 6 + 6 * i by omega]
    exact this

/-! ### rows that grow -/
/-- The cells of trees one behind the other. -/
def Elems (w : World) (F : Nat → Prop) : List Tree → List Value → Prop
  | [], xs => xs = []
  | t :: r, xs => ∃ a b c d e f ys, xs = a :: b :: c :: d :: e :: f :: ys ∧ RdT w F t (.agg #[a, b, c, d, e, f]) ∧ Elems w F r ys
theorem Elems.length {w : World} {F : Nat → Prop} : ∀ {l : List Tree} {xs : List Value}, Elems w F l xs → xs.length = l.length * 6
  | [], xs, h => by have h : xs = [] := h; simp [h]
  | t :: r, xs, h => by
    obtain ⟨a, b, c, d, e, f, ys, rfl, _, hr⟩ := h
    have := Elems.length hr
    simp [this]
    omega
theorem Elems.snoc {w : World} {F : Nat → Prop} {t : Tree} {a b c d e f : Value} (ht : RdT w F t (.agg #[a, b, c, d, e, f])) : ∀ {l : List Tree} {xs : List Value}, Elems w F l xs → Elems w F (l ++ [t]) (xs ++ [a, b, c, d, e, f])
  | [], xs, h => by
    have h : xs = [] := h
    subst h
    exact ⟨a, b, c, d, e, f, [], rfl, ht, rfl⟩
  | x :: r, xs, h => by
    obtain ⟨a', b', c', d', e', f', ys, rfl, hx, hr⟩ := h
    exact ⟨a', b', c', d', e', f', ys ++ [a, b, c, d, e, f], rfl, hx, Elems.snoc ht hr⟩
theorem Elems.kept {w w' : World} {F F' : Nat → Prop} (hs : Stays F w w') (hF : ∀ g, F g → g < w.heap.size → F' g) : ∀ {l : List Tree} {xs : List Value}, Elems w F l xs → Elems w' F' l xs
  | [], _, h => h
  | t :: r, xs, h => by
    obtain ⟨a, b, c, d, e, f, ys, rfl, ht, hr⟩ := h
    exact ⟨a, b, c, d, e, f, ys, rfl, RdT.kept hs hF t ht, Elems.kept hs hF hr⟩
theorem Elems.lies {w : World} {F : Nat → Prop} {g : Nat} : ∀ {l : List Tree} {xs : List Value} {o : Nat}, Elems w F l xs → (∀ (j : Nat) v, xs[j]? = some v → w.cell? ⟨g, o + j, none⟩ = some v) → RdIs w F g o l
  | [], _, _, _, _ => by rw [RdIs]; trivial
  | t :: r, xs, o, h, hc => by
    obtain ⟨a, b, c, d, e, f, ys, rfl, ht, hr⟩ := h
    rw [RdIs]
    refine ⟨⟨a, b, c, d, e, f, hc 0 a rfl, hc 1 b rfl, hc 2 c rfl, hc 3 d rfl, hc 4 e rfl, hc 5 f rfl, ht⟩, Elems.lies hr fun j v hj => ?_⟩
    have := hc (j + 6) v (by simpa using hj)
    rw [show o + 6 + j = o + (j + 6) by omega]
    exact this
/-- A row of trees that the call owns, as a tree's items. -/
theorem items_of {w : World} {B : Nat} {iv : Value} {l : List Tree} {xs : List Value} {F : Nat → Prop} (ho : w.ownsRow B 26 6 iv l.length xs) (he : Elems w F l xs) (hF : ∀ g, iv.ownBlock = some g → F g) :
    ∃ (a : Option Addr) (c : Nat), iv = .slice a l.length c ∧ l.length ≤ c ∧ (0 < l.length → ∃ g o, a = some ⟨g, o, none⟩ ∧ g < w.heap.size ∧ F g ∧ RdIs w F g o l) := by
  rcases ho.2 with ⟨rfl, h0⟩ | ⟨g, cap, cur, rfl, hB, hg, hle, hm, hs, ht⟩
  · exact ⟨none, 0, by rw [h0], by omega, fun h => by omega⟩
  · refine ⟨some ⟨g, 0, none⟩, cap, rfl, hle, fun h => ⟨g, 0, rfl, (Array.getElem?_eq_some_iff.1 hg).1, hF g rfl, he.lies fun j v hj => ?_⟩⟩
    have := ho.cells (g := g) rfl j v hj
    simpa [Addr.add_lit] using this
theorem keys_of {w : World} {B : Nat} {kv : Value} {ks : List ByteArray} {F : Nat → Prop} (ho : w.ownsRow B 9 1 kv ks.length (ks.map .string)) (hF : ∀ g, kv.ownBlock = some g → F g) : RdK w F ks kv := by
  rcases ho.2 with ⟨rfl, h0⟩ | ⟨g, cap, cur, rfl, hB, hg, hle, hm, hs, ht⟩
  · exact ⟨none, 0, by rw [h0], by omega, fun h => by omega⟩
  · refine ⟨some ⟨g, 0, none⟩, cap, rfl, hle, fun h => ⟨g, 0, rfl, (Array.getElem?_eq_some_iff.1 hg).1, hF g rfl, fun i k hi => ?_⟩⟩
    have := ho.cells (g := g) rfl i (.string k) (by simp [hi])
    simpa [Addr.add_lit] using this
theorem RdK.nil (w : World) (F : Nat → Prop) : RdK w F [] (.slice none 0 0) := ⟨none, 0, rfl, Nat.le_refl _, fun h => by simp at h⟩
theorem RdT.leaf (w : World) (F : Nat → Prop) (k : Int) (f : Bool) (n : Int) (t : ByteArray) : RdT w F (.mk k f n t [] []) (.agg #[.int .i64 k, .bool f, .int .i64 n, .string t, .slice none 0 0, .slice none 0 0]) := by
  rw [RdT]
  exact ⟨_, none, 0, rfl, RdK.nil w F, Nat.le_refl _, fun h => by simp at h⟩
end Go.Proofs.YtdmnhkgiojkphaaGreatDoor
