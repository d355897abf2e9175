/- Texts that are lent, and come back. -/
import Derived.Test.YtdmnhkgiojkphaaGreatDoorX23
import Derived.Test.YtdmnhkgiojkphaaGreatDoorAg
import Derived.OwnWalk
import Derived.Laws.OwnMore
import Derived.Test.YtdmnhkgiojkphaaGreatDoorX21
namespace Go.Proofs.YtdmnhkgiojkphaaGreatDoor
open Go Go.RowKit
open Go.RowKit (wrap32 wrap64)

def markS : ByteArray := ⟨#[109, 97, 114, 107]⟩
/-- Texts that were lent: marks lie behind them. -/
def LentS (w : World) (F : Nat → Prop) (ks : List ByteArray) (v : Value) : Prop :=
  ∃ (g c : Nat), v = .slice (some ⟨g, 0, none⟩) ks.length c ∧ ks.length + 9 ≤ c ∧ g < w.heap.size ∧ F g ∧ ∀ (i : Nat) k, (ks ++ List.replicate 9 markS)[i]? = some k → w.cell? ⟨g, i, none⟩ = some (.string k)
theorem LentS.kept {w w' : World} {F F' : Nat → Prop} {ks : List ByteArray} {v : Value} (h : LentS w F ks v) (hs : Stays F w w') (hF : ∀ g, F g → g < w.heap.size → F' g) : LentS w' F' ks v := by
  obtain ⟨g, c, rfl, hc, hg, hFg, hk⟩ := h
  exact ⟨g, c, rfl, hc, Nat.lt_of_lt_of_le hg hs.1, hF g hFg hg, fun i k hi => hs.cell hFg hg (hk i k hi)⟩
theorem LentS.rd {w : World} {F : Nat → Prop} {ks : List ByteArray} {v : Value} (h : LentS w F ks v) : RdK w F ks v := by
  obtain ⟨g, c, rfl, hc, hg, hFg, hk⟩ := h
  refine ⟨some ⟨g, 0, none⟩, c, rfl, by omega, fun _ => ⟨g, 0, rfl, hg, hFg, fun i k hi => ?_⟩⟩
  rw [Nat.zero_add]
  exact hk i k (by rw [List.getElem?_append_left (List.getElem?_eq_some_iff.1 hi).1]; exact hi)
end Go.Proofs.YtdmnhkgiojkphaaGreatDoor

namespace Go.Proofs.YtdmnhkgiojkphaaGreatDoor
open Go Go.RowKit
open Go.RowKit (wrap32 wrap64)

/-- The cells of a mark. -/
def mk6 : List Value := [.int .i64 777, .bool false, .int .i64 0, .string ⟨#[]⟩, .slice none 0 0, .slice none 0 0]
mutual
/-- A tree that was lent: marks lie behind each of its lists. -/
def LentT (w : World) (F : Nat → Prop) : Tree → Value → Prop
  | .mk k f n t ks is, v => ∃ (kv : Value) (g c : Nat), v = .agg #[.int .i64 k, .bool f, .int .i64 n, .string t, kv, .slice (some ⟨g, 0, none⟩) is.length c] ∧ LentS w F ks kv ∧ is.length + 9 ≤ c ∧ g < w.heap.size ∧ F g ∧ LentIs w F g 0 is ∧ ∀ (j : Nat), j < 9 → w.rangeAt g ((is.length + j) * 6) mk6
def LentIs (w : World) (F : Nat → Prop) (g o : Nat) : List Tree → Prop
  | [] => True
  | t :: r => (∃ a b c d e f, w.cell? ⟨g, o, none⟩ = some a ∧ w.cell? ⟨g, o + 1, none⟩ = some b ∧ w.cell? ⟨g, o + 2, none⟩ = some c ∧ w.cell? ⟨g, o + 3, none⟩ = some d ∧ w.cell? ⟨g, o + 4, none⟩ = some e ∧ w.cell? ⟨g, o + 5, none⟩ = some f ∧ LentT w F t (.agg #[a, b, c, d, e, f])) ∧ LentIs w F g (o + 6) r
end
/-- A list of trees that was lent. -/
def LentR (w : World) (F : Nat → Prop) (is : List Tree) (v : Value) : Prop := ∃ (g c : Nat), v = .slice (some ⟨g, 0, none⟩) is.length c ∧ is.length + 9 ≤ c ∧ g < w.heap.size ∧ F g ∧ LentIs w F g 0 is ∧ ∀ (j : Nat), j < 9 → w.rangeAt g ((is.length + j) * 6) mk6
theorem Stays.range {F : Nat → Prop} {w w' : World} (h : Stays F w w') {g o : Nat} {cs : List Value} (hF : F g) (hg : g < w.heap.size) (hc : w.rangeAt g o cs) : w'.rangeAt g o cs := fun j v hv => h.cell hF hg (hc j v hv)
mutual
theorem LentT.kept {w w' : World} {F F' : Nat → Prop} (hs : Stays F w w') (hF : ∀ g, F g → g < w.heap.size → F' g) : ∀ (t : Tree) {v : Value}, LentT w F t v → LentT w' F' t v
  | .mk k f n t ks is, v, h => by
    rw [LentT] at h ⊢
    obtain ⟨kv, g, c, rfl, hk, hc, hg, hFg, hr, hm⟩ := h
    exact ⟨kv, g, c, rfl, hk.kept hs hF, hc, Nat.lt_of_lt_of_le hg hs.1, hF g hFg hg, LentIs.kept hs hF hFg hg is hr, fun j hj => hs.range hFg hg (hm j hj)⟩
theorem LentIs.kept {w w' : World} {F F' : Nat → Prop} {g : Nat} (hs : Stays F w w') (hF : ∀ g, F g → g < w.heap.size → F' g) (hFg : F g) (hg : g < w.heap.size) : ∀ (l : List Tree) {o : Nat}, LentIs w F g o l → LentIs w' F' g o l
  | [], o, h => by rw [LentIs]; trivial
  | t :: r, o, h => by
    rw [LentIs] at h ⊢
    obtain ⟨⟨a, b, c, d, e, f, h0, h1, h2, h3, h4, h5, ht⟩, hr⟩ := h
    exact ⟨⟨a, b, c, d, e, f, hs.cell hFg hg h0, hs.cell hFg hg h1, hs.cell hFg hg h2, hs.cell hFg hg h3, hs.cell hFg hg h4, hs.cell hFg hg h5, LentT.kept hs hF t ht⟩, LentIs.kept hs hF hFg hg r hr⟩
end
mutual
theorem LentT.rd {w : World} {F : Nat → Prop} : ∀ (t : Tree) {v : Value}, LentT w F t v → RdT w F t v
  | .mk k f n t ks is, v, h => by
    rw [LentT] at h
    rw [RdT]
    obtain ⟨kv, g, c, rfl, hk, hc, hg, hFg, hr, hm⟩ := h
    exact ⟨kv, _, c, rfl, hk.rd, by omega, fun _ => ⟨g, 0, rfl, hg, hFg, LentIs.rd is hr⟩⟩
theorem LentIs.rd {w : World} {F : Nat → Prop} {g : Nat} : ∀ (l : List Tree) {o : Nat}, LentIs w F g o l → RdIs w F g o l
  | [], o, h => by rw [RdIs]; trivial
  | t :: r, o, h => by
    rw [LentIs] at h
    rw [RdIs]
    obtain ⟨⟨a, b, c, d, e, f, h0, h1, h2, h3, h4, h5, ht⟩, hr⟩ := h
    exact ⟨⟨a, b, c, d, e, f, h0, h1, h2, h3, h4, h5, LentT.rd t ht⟩, LentIs.rd r hr⟩
end
theorem LentR.kept {w w' : World} {F F' : Nat → Prop} {l : List Tree} {v : Value} (h : LentR w F l v) (hs : Stays F w w') (hF : ∀ g, F g → g < w.heap.size → F' g) : LentR w' F' l v := by
  obtain ⟨g, c, rfl, hc, hg, hFg, hr, hm⟩ := h
  exact ⟨g, c, rfl, hc, Nat.lt_of_lt_of_le hg hs.1, hF g hFg hg, LentIs.kept hs hF hFg hg l hr, fun j hj => hs.range hFg hg (hm j hj)⟩
/-- The cells of lent trees one behind the other. -/
def LElems (w : World) (F : Nat → Prop) : List Tree → List Value → Prop
  | [], xs => xs = []
  | t :: r, xs => ∃ a b c d e f ys, xs = a :: b :: c :: d :: e :: f :: ys ∧ LentT w F t (.agg #[a, b, c, d, e, f]) ∧ LElems w F r ys
theorem LElems.length {w : World} {F : Nat → Prop} : ∀ {l : List Tree} {xs : List Value}, LElems w F l xs → xs.length = l.length * 6
  | [], xs, h => by have h : xs = [] := h; simp [h]
  | t :: r, xs, h => by
    obtain ⟨a, b, c, d, e, f, ys, rfl, _, hr⟩ := h
    have := LElems.length hr
    simp [this]
    omega
theorem LElems.snoc {w : World} {F : Nat → Prop} {t : Tree} {a b c d e f : Value} (ht : LentT w F t (.agg #[a, b, c, d, e, f])) : ∀ {l : List Tree} {xs : List Value}, LElems w F l xs → LElems w F (l ++ [t]) (xs ++ [a, b, c, d, e, f])
  | [], xs, h => by
    have h : xs = [] := h
    subst h
    exact ⟨a, b, c, d, e, f, [], rfl, ht, rfl⟩
  | x :: r, xs, h => by
    obtain ⟨a', b', c', d', e', f', ys, rfl, hx, hr⟩ := h
    exact ⟨a', b', c', d', e', f', ys ++ [a, b, c, d, e, f], rfl, hx, LElems.snoc ht hr⟩
theorem LElems.kept {w w' : World} {F F' : Nat → Prop} (hs : Stays F w w') (hF : ∀ g, F g → g < w.heap.size → F' g) : ∀ {l : List Tree} {xs : List Value}, LElems w F l xs → LElems w' F' l xs
  | [], _, h => h
  | t :: r, xs, h => by
    obtain ⟨a, b, c, d, e, f, ys, rfl, ht, hr⟩ := h
    exact ⟨a, b, c, d, e, f, ys, rfl, LentT.kept hs hF t ht, LElems.kept hs hF hr⟩
theorem LElems.lies {w : World} {F : Nat → Prop} {g : Nat} : ∀ {l : List Tree} {xs : List Value} {o : Nat}, LElems w F l xs → (∀ (j : Nat) v, xs[j]? = some v → w.cell? ⟨g, o + j, none⟩ = some v) → LentIs w F g o l
  | [], _, _, _, _ => by rw [LentIs]; trivial
  | t :: r, xs, o, h, hc => by
    obtain ⟨a, b, c, d, e, f, ys, rfl, ht, hr⟩ := h
    rw [LentIs]
    refine ⟨⟨a, b, c, d, e, f, hc 0 a rfl, hc 1 b rfl, hc 2 c rfl, hc 3 d rfl, hc 4 e rfl, hc 5 f rfl, ht⟩, LElems.lies hr fun j v hj => ?_⟩
    have := hc (j + 6) v (by simpa using hj)
    rw [show o + 6 + j = o + (j + 6) by omega]
    exact this
/-- A row under way: lent trees, then some marks. -/
def LOwn (w : World) (B : Nat) (l : List Tree) (j : Nat) (v : Value) : Prop := ∃ xs, w.ownsRow B 26 6 v (l.length + j) (xs ++ (List.replicate j mk6).flatten) ∧ LElems w (fun g => B ≤ g ∧ some g ≠ v.ownBlock) l xs
theorem LOwn.len {w : World} {B j : Nat} {l : List Tree} {v : Value} (h : LOwn w B l j v) : ∃ a c, v = .slice a (l.length + j) c := by
  obtain ⟨xs, h1, _⟩ := h
  rcases h1.2 with ⟨rfl, h0⟩ | ⟨g, cap, cur, rfl, _⟩
  · exact ⟨none, 0, by rw [h0]⟩
  · exact ⟨_, _, rfl⟩
end Go.Proofs.YtdmnhkgiojkphaaGreatDoor

namespace Go.Proofs.YtdmnhkgiojkphaaGreatDoor
open Go Go.RowKit
open Go.RowKit (wrap32 wrap64)

end Go.Proofs.YtdmnhkgiojkphaaGreatDoor

namespace Go.Proofs.YtdmnhkgiojkphaaGreatDoor
open Go Go.RowKit
open Go.RowKit (wrap32 wrap64)

def Z6 : List Value := [.int .i64 0, .bool false, .int .i64 0, .string ⟨#[]⟩, .slice none 0 0, .slice none 0 0]
theorem Tryz.zero26 : (Tryz.prog.info? 26).map (fun i => i.zero) = some (some (.agg Z6.toArray)) := by kernel_rfl
theorem Tryz.size26 : (Tryz.prog.info? 26).map (·.size) = some 6 := by kernel_rfl
theorem LentS.on {w w' : World} {B b : Nat} {ks : List ByteArray} {v : Value} (h : LentS w (fun g => B ≤ g) ks v) (hg : w.grownBy w' (some b)) (hb : b < B) : LentS w' (fun g => B ≤ g) ks v := h.kept (Stays.grown hg (fun g hg' e => by injection e with e; omega)) (fun _ h _ => h)
theorem LentS.keep {w w' : World} {B : Nat} {ks : List ByteArray} {v : Value} (h : LentS w (fun g => B ≤ g) ks v) (hg : w.grownBy w' none) : LentS w' (fun g => B ≤ g) ks v := h.kept (Stays.none hg) (fun _ h _ => h)
theorem LentR.on {w w' : World} {B b : Nat} {l : List Tree} {v : Value} (h : LentR w (fun g => B ≤ g) l v) (hg : w.grownBy w' (some b)) (hb : b < B) : LentR w' (fun g => B ≤ g) l v := h.kept (Stays.grown hg (fun g hg' e => by injection e with e; omega)) (fun _ h _ => h)
end Go.Proofs.YtdmnhkgiojkphaaGreatDoor
