/- turned: its state. -/
import Derived.Test.YtihbpkebknifdaaGreatDoorCq
import Derived.Deep.RegionWith
namespace Go.Proofs.YtihbpkebknifdaaGreatDoor
open Go Go.RowKit
open Go.RowKit (wrap32 wrap64)

/-- What stands between the rounds of turned: j keys and i items are laid. -/
structure TS (w u : World) (b2 b4 b5 B : Nat) (cs : List Value) (K : Int) (f : Bool) (N : Int) (X : ByteArray) (KS : List ByteArray) (L : List Tree) (j i : Nat) (kv iv : Value) : Prop where
  o : b2 < b4 ∧ b4 < b5 ∧ b5 < B ∧ B ≤ u.heap.size ∧ w.heap.size ≤ b2
  x2 : Blk u b2 cs 25
  x4 : Blk u b4 Z6 25
  x5 : Blk u b5 [.int .i64 K, .bool f, .int .i64 N, .string X, kv, iv] 25
  k : u.ownsRow B 9 1 kv j ((KS.take j).map .string)
  it : ∃ xs, u.ownsRow B 25 6 iv i xs ∧ Elems u (fun g => (B ≤ g ∧ some g ≠ kv.ownBlock) ∧ some g ≠ iv.ownBlock) (L.take i) xs
  g : w.grownBy u none
  jl : j ≤ KS.length
  il : i ≤ L.length
variable {w u u' : World} {b2 b4 b5 B : Nat} {cs : List Value} {K : Int} {f : Bool} {N : Int} {X : ByteArray} {KS : List ByteArray} {L : List Tree} {j i : Nat} {kv iv : Value}
theorem TS.keep (h : TS w u b2 b4 b5 B cs K f N X KS L j i kv iv) (hg : u.grownBy u' none) : TS w u' b2 b4 b5 B cs K f N X KS L j i kv iv := by
  obtain ⟨xs, q1, q2⟩ := h.it
  exact ⟨⟨h.o.1, h.o.2.1, h.o.2.2.1, Nat.le_trans h.o.2.2.2.1 hg.size, h.o.2.2.2.2⟩, h.x2.keep hg, h.x4.keep hg, h.x5.keep hg, own_keep h.k hg, ⟨xs, own_keep q1 hg, q2.on (Stays.none hg)⟩, gtrans h.g hg, h.jl, h.il⟩
theorem own_ne_type {B1 B2 e1 e2 z1 z2 n1 n2 : Nat} {v1 v2 : Value} {x1 x2 : List Value} (h1 : u.ownsRow B1 e1 z1 v1 n1 x1) (h2 : u.ownsRow B2 e2 z2 v2 n2 x2) (he : e1 ≠ e2) : v1.ownBlock = none ∨ v1.ownBlock ≠ v2.ownBlock := rows_apart h1 h2 he
theorem TS.key (h : TS w u b2 b4 b5 B cs K f N X KS L j i kv iv) {o : Obj} {w3 : World} {g3 cap3 : Nat} {k : ByteArray} (hg3 : (u.alloc o).grownBy w3 kv.ownBlock) (ho3 : w3.ownsRow B 9 1 (.slice (some ⟨g3, 0, none⟩) (j + 1) cap3) (j + 1) ((KS.take j).map .string ++ [.string k])) (hat : kv.ownBlock = some g3 ∨ g3 = u.heap.size + 1) (hk : KS[j]? = some k) :
    TS w (w3.setCell ⟨b5, 4, none⟩ (.slice (some ⟨g3, 0, none⟩) (j + 1) cap3)) b2 b4 b5 B cs K f N X KS L (j + 1) i (.slice (some ⟨g3, 0, none⟩) (j + 1) cap3) iv := by
  have hga := galloc u o none
  have hh := h.keep hga
  have hlt := fun k (hk : kv.ownBlock = some k) => h.k.lt k hk
  have ho := h.o
  have nb : ∀ b, b < B → kv.ownBlock ≠ some b := fun b hb e => by have := (hlt b e).1; omega
  have gs := gset w3 ⟨b5, 4, none⟩ (.slice (some ⟨g3, 0, none⟩) (j + 1) cap3)
  have hjl : j < KS.length := (List.getElem?_eq_some_iff.1 hk).1
  have hsz := hg3.size
  have hsa : (u.alloc o).heap.size = u.heap.size + 1 := by simp
  have y2 := (hh.x2.on hg3 (nb b2 (by omega))).on gs (by intro e; injection e with e; simp at e; omega)
  have y4 := (hh.x4.on hg3 (nb b4 (by omega))).on gs (by intro e; injection e with e; simp at e; omega)
  have y5 := (hh.x5.on hg3 (nb b5 (by omega))).set 4 (.slice (some ⟨g3, 0, none⟩) (j + 1) cap3)
  have etk : (KS.take (j + 1)).map Value.string = (KS.take j).map Value.string ++ [.string k] := by rw [List.take_add_one, hk]; simp
  refine ⟨⟨ho.1, ho.2.1, ho.2.2.1, ?_, ho.2.2.2.2⟩, y2, y4, y5, ?_, ?_, ?_, hjl, h.il⟩
  · have := gs.size; omega
  · rw [etk]
    exact own_on ho3 gs ho.2.2.1
  · obtain ⟨xs, q1', q2'⟩ := h.it
    have q1 := own_keep q1' hga
    have hap := own_ne_type q1 hh.k (by decide)
    have q3 : w3.ownsRow B 25 6 iv i xs := q1.kept hg3 hap
    refine ⟨xs, own_on q3 gs ho.2.2.1, ?_⟩
    have s1 : Stays (fun g => (B ≤ g ∧ some g ≠ kv.ownBlock) ∧ some g ≠ iv.ownBlock) (u.alloc o) w3 := Stays.grown hg3 (fun g hg => hg.1.2)
    have s2 : Stays (fun g => (B ≤ g ∧ some g ≠ kv.ownBlock) ∧ some g ≠ iv.ownBlock) w3 (w3.setCell ⟨b5, 4, none⟩ (.slice (some ⟨g3, 0, none⟩) (j + 1) cap3)) := Stays.grown gs (fun g hg e => by injection e with e; have := hg.1.1; simp at e; omega)
    refine Elems.kept (F := fun g => (B ≤ g ∧ some g ≠ kv.ownBlock) ∧ some g ≠ iv.ownBlock) ((Stays.none hga).trans (s1.trans s2)) (fun g hg hl => ⟨⟨hg.1.1, fun e => ?_⟩, hg.2⟩) q2'
    have e2 : g = g3 := Option.some.inj e
    rcases hat with q | q
    · exact hg.1.2 (by rw [q, e2])
    · omega
  · exact ((gtrans h.g hga).andThen hg3 (fun x hx => .inl (by have := (hlt x hx).1; omega))).andThen gs (fun x hx => .inl (by injection hx with hx; simp at hx; omega))
theorem TS.item (h : TS w u b2 b4 b5 B cs K f N X KS L j i kv iv) {o : Obj} {w2 w3 : World} {g3 cap3 : Nat} {t : Tree} {a0 a1 a2 a3 a4 a5 : Value} (hg2 : u.grownBy w2 none) (hT : RdT w2 (fun g => u.heap.size ≤ g) t (.agg #[a0, a1, a2, a3, a4, a5])) (hg3 : (w2.alloc o).grownBy w3 iv.ownBlock) {xs : List Value} (hxs : u.ownsRow B 25 6 iv i xs ∧ Elems u (fun g => (B ≤ g ∧ some g ≠ kv.ownBlock) ∧ some g ≠ iv.ownBlock) (L.take i) xs) (ho3 : w3.ownsRow B 25 6 (.slice (some ⟨g3, 0, none⟩) (i + 1) cap3) (i + 1) (xs ++ [a0, a1, a2, a3, a4, a5])) (hat : iv.ownBlock = some g3 ∨ g3 = w2.heap.size + 1) (hk : L[i]? = some t) :
    TS w (w3.setCell ⟨b5, 5, none⟩ (.slice (some ⟨g3, 0, none⟩) (i + 1) cap3)) b2 b4 b5 B cs K f N X KS L j (i + 1) kv (.slice (some ⟨g3, 0, none⟩) (i + 1) cap3) := by
  have hga := gtrans hg2 (galloc w2 o none)
  have hh := h.keep hga
  have hlt := fun k (hk : iv.ownBlock = some k) => hxs.1.lt k hk
  have ho := h.o
  have nb : ∀ b, b < B → iv.ownBlock ≠ some b := fun b hb e => by have := (hlt b e).1; omega
  have gs := gset w3 ⟨b5, 5, none⟩ (.slice (some ⟨g3, 0, none⟩) (i + 1) cap3)
  have hjl : i < L.length := (List.getElem?_eq_some_iff.1 hk).1
  have hsz := hg3.size
  have hsz2 := hg2.size
  have hsa : (w2.alloc o).heap.size = w2.heap.size + 1 := by simp
  have y2 := (hh.x2.on hg3 (nb b2 (by omega))).on gs (by intro e; injection e with e; simp at e; omega)
  have y4 := (hh.x4.on hg3 (nb b4 (by omega))).on gs (by intro e; injection e with e; simp at e; omega)
  have y5 := (hh.x5.on hg3 (nb b5 (by omega))).set 5 (.slice (some ⟨g3, 0, none⟩) (i + 1) cap3)
  refine ⟨⟨ho.1, ho.2.1, ho.2.2.1, ?_, ho.2.2.2.2⟩, y2, y4, y5, ?_, ⟨_, own_on ho3 gs ho.2.2.1, ?_⟩, ?_, h.jl, hjl⟩
  · have := gs.size; omega
  · have hap := own_ne_type hh.k (own_keep hxs.1 hga) (by decide)
    exact own_on (hh.k.kept hg3 hap) gs ho.2.2.1
  · have e : L.take (i + 1) = L.take i ++ [t] := by rw [List.take_add_one, hk]; rfl
    rw [e]
    have q := elems_more (b := b5) (g := g3) (X := fun g => some g ≠ kv.ownBlock) ho.2.2.1 ho.2.2.2.1 hxs.1 hxs.2 (gsome hg2 _) hT (fun g hg e => by have := (h.k.lt g e.symm).2; omega) hg3 hat
    refine q.on (Stays.grown gs (fun g hg e => by injection e with e; have := hg.1.1; simp at e; omega))
  · exact ((gtrans h.g hga).andThen hg3 (fun x hx => .inl (by have := (hlt x hx).1; omega))).andThen gs (fun x hx => .inl (by injection hx with hx; simp at hx; omega))
end Go.Proofs.YtihbpkebknifdaaGreatDoor

namespace Go.Proofs.YtihbpkebknifdaaGreatDoor
open Go Go.RowKit
open Go.RowKit (wrap32 wrap64)

theorem gd1 (w : World) (row : Option Nat) : w.grownBy w.drew row := ⟨rfl, rfl, rfl, Nat.le_refl _, fun _ _ _ => rfl⟩
/-- What turned promises of trees that hold no more than m. -/
def TurnOk (m : Nat) : Prop := ∀ (t : Tree), cntT t ≤ m → GoodP t → ∀ (n : Nat), n < 1000 → ∀ (w : World) (F : Nat → Prop) (v : Value), RdT w F t v →
  Calls Tryz.prog 8 #[v, .int .i64 (n : Nat)] w fun e w' => ∃ v', e = .returned v' ∧ RdT w' (fun g => w.heap.size ≤ g) (turnT n t) v' ∧ w.grownBy w' none
theorem TS.rd {w u : World} {b2 b4 b5 B : Nat} {cs : List Value} {K : Int} {f : Bool} {N : Int} {X : ByteArray} {KS : List ByteArray} {L : List Tree} {kv iv : Value} (h : TS w u b2 b4 b5 B cs K f N X KS L KS.length L.length kv iv) : RdT u (fun g => B ≤ g) (.mk K f N X KS L) (.agg #[.int .i64 K, .bool f, .int .i64 N, .string X, kv, iv]) := by
  obtain ⟨xs, q1, q2⟩ := h.it
  rw [List.take_length] at q2
  have hk := h.k
  rw [List.take_length] at hk
  obtain ⟨a, c, e, p1, p2⟩ := items_of (F := fun g => B ≤ g) q1 (Elems.kept (F := fun g => (B ≤ g ∧ some g ≠ kv.ownBlock) ∧ some g ≠ iv.ownBlock) (Stays.refl _ _) (fun g hg _ => hg.1.1) q2) (fun g hg => (q1.lt g hg).1)
  rw [RdT_eq]
  exact ⟨kv, a, c, by rw [e]; rfl, keys_of hk (fun g hg => (hk.lt g hg).1), p1, p2⟩
theorem tree_eta (t : Tree) : Tree.mk t.kind t.flag t.n t.text t.keys t.items = t := by cases t; rfl
end Go.Proofs.YtihbpkebknifdaaGreatDoor
