/- TersePrints' walk. -/
import Derived.Test.YtdmnhkgiojkphaaGreatDoorPgQ
import Derived.Test.YtdmnhkgiojkphaaGreatDoorX36
import Derived.Test.YtdmnhkgiojkphaaGreatDoorX37
import Derived.Test.YtdmnhkgiojkphaaGreatDoorX21
import Derived.Test.YtdmnhkgiojkphaaGreatDoorX26
namespace Go.Proofs.YtdmnhkgiojkphaaGreatDoor
open Go Go.RowKit Go.Maps
open Go.RowKit (wrap32 wrap64)

theorem muchL_mem {l : List Tree} {t : Tree} (h : t ∈ l) : muchT t ≤ muchL l := by
  induction l with
  | nil => cases h
  | cons a r ih =>
    rw [muchL]
    rcases List.mem_cons.1 h with rfl | q
    · omega
    · have := ih q; omega
/-- What both Prints tell of a tree. -/
def toldP (t : Tree) : ByteArray := if checkT t 0 = 0 then str (pr t) else ⟨#[]⟩
theorem neI (x y : Operand) (E : Int) (u : World) : (do eqGuard .neq 3 x y (.int .i64 E) (.int .i64 E); binOp .neq 3 (.int .i64 E) (.int .i64 E) : Sem Value).run Tryz.prog u = .ok (.bool false) u := by
  go_simp
theorem neS (x y : Operand) (T : ByteArray) (u : World) : (do eqGuard .neq 9 x y (.string T) (.string T); binOp .neq 9 (.string T) (.string T) : Sem Value).run Tryz.prog u = .ok (.bool false) u := by
  have h : (T.toList == T.toList) = true := by simp
  go_simp
end Go.Proofs.YtdmnhkgiojkphaaGreatDoor

namespace Go.Proofs.YtdmnhkgiojkphaaGreatDoor
open Go Go.RowKit
open Go.RowKit (wrap32 wrap64)

/-- A row of trees of one's own; its trees lie elsewhere. -/
def OwnI (w : World) (B : Nat) (l : List Tree) (v : Value) : Prop := ∃ xs, w.ownsRow B 26 6 v l.length xs ∧ Elems w (fun g => B ≤ g ∧ some g ≠ v.ownBlock) l xs
theorem OwnI.nil (w : World) (B : Nat) : OwnI w B [] (.slice none 0 0) := ⟨[], World.ownsRow_nil _ _ _ _, rfl⟩
theorem OwnI.keep {w w' : World} {B : Nat} {l : List Tree} {v : Value} (h : OwnI w B l v) (hg : w.grownBy w' none) : OwnI w' B l v := by
  obtain ⟨xs, h1, h2⟩ := h
  exact ⟨xs, h1.kept hg (by cases v.ownBlock <;> simp), h2.on (Stays.none hg)⟩
theorem OwnI.on {w w' : World} {B b : Nat} {l : List Tree} {v : Value} (h : OwnI w B l v) (hg : w.grownBy w' (some b)) (hb : b < B) : OwnI w' B l v := by
  obtain ⟨xs, h1, h2⟩ := h
  refine ⟨xs, h1.kept hg ?_, h2.on (Stays.grown hg fun g hg' e => ?_)⟩
  · cases hv : v.ownBlock with
    | none => exact .inl rfl
    | some g => exact .inr (fun e => by injection e with e; have := (h1.lt g hv).1; omega)
  · injection e with e; have := hg'.1; omega
theorem OwnI.base {w : World} {B B' : Nat} {l : List Tree} {v : Value} (h : OwnI w B l v) (hb : B' ≤ B) : OwnI w B' l v := by
  obtain ⟨xs, h1, h2⟩ := h
  refine ⟨xs, ⟨h1.1, h1.2.imp id (fun ⟨g, cap, cur, q1, q2, q3⟩ => ⟨g, cap, cur, q1, Nat.le_trans hb q2, q3⟩)⟩, Elems.kept (Stays.refl _ _) (fun g hg _ => ⟨Nat.le_trans hb hg.1, hg.2⟩) h2⟩
theorem OwnI.rd {w : World} {B : Nat} {l : List Tree} {v : Value} (h : OwnI w B l v) : RdS w (fun g => B ≤ g) l v := by
  obtain ⟨xs, h1, h2⟩ := h
  exact items_of h1 (Elems.kept (F := fun g => B ≤ g ∧ some g ≠ v.ownBlock) (Stays.refl _ _) (fun g hg _ => hg.1) h2) (fun g hg => (h1.lt g hg).1)
/-- A value whose lists are one's own. -/
def OwnV (w : World) (B : Nat) (t : Tree) (v : Value) : Prop := ∃ ka kn kc ia il ic, v = .agg #[.int .i64 t.kind, .bool t.flag, .int .i64 t.n, .string t.text, .slice ka kn kc, .slice ia il ic] ∧ w.ownsRow B 9 1 (.slice ka kn kc) t.keys.length (t.keys.map .string) ∧ OwnI w B t.items (.slice ia il ic)
theorem OwnV.rd {w : World} {B : Nat} {t : Tree} {v : Value} (h : OwnV w B t v) : RdT w (fun g => B ≤ g) t v := by
  obtain ⟨ka, kn, kc, ia, il, ic, rfl, h1, h2⟩ := h
  obtain ⟨a, c, e, q1, q2⟩ := h2.rd
  rw [RdT_eq]
  exact ⟨_, a, c, by rw [e], keys_of h1 (fun g hg => (h1.lt g hg).1), q1, q2⟩
theorem OwnV.keep {w w' : World} {B : Nat} {t : Tree} {v : Value} (h : OwnV w B t v) (hg : w.grownBy w' none) : OwnV w' B t v := by
  obtain ⟨ka, kn, kc, ia, il, ic, rfl, h1, h2⟩ := h
  exact ⟨ka, kn, kc, ia, il, ic, rfl, h1.kept hg (by cases ka <;> simp [Value.ownBlock]), h2.keep hg⟩
theorem own_slice {w : World} {B e z n : Nat} {v : Value} {xs : List Value} (h : w.ownsRow B e z v n xs) : ∃ a c, v = .slice a n c := by
  rcases h.2 with ⟨rfl, h0⟩ | ⟨g, cap, cur, rfl, _⟩
  · exact ⟨none, 0, by rw [h0]⟩
  · exact ⟨_, _, rfl⟩
theorem OwnI.len {w : World} {B : Nat} {l : List Tree} {v : Value} (h : OwnI w B l v) : ∃ a c, v = .slice a l.length c := by
  obtain ⟨xs, h1, _⟩ := h
  exact own_slice h1
end Go.Proofs.YtdmnhkgiojkphaaGreatDoor

namespace Go.Proofs.YtdmnhkgiojkphaaGreatDoor
open Go Go.RowKit
open Go.RowKit (wrap32 wrap64)

theorem own_onB {w w' : World} {B b e z n : Nat} {v : Value} {xs : List Value} (h : w.ownsRow B e z v n xs) (hg : w.grownBy w' (some b)) (hb : b < B) : w'.ownsRow B e z v n xs := by
  refine h.kept hg ?_
  cases hv : v.ownBlock with
  | none => exact .inl rfl
  | some g => exact .inr (fun e => by injection e with e; have := (h.lt g hv).1; omega)
theorem own_keep {w w' : World} {B e z n : Nat} {v : Value} {xs : List Value} (h : w.ownsRow B e z v n xs) (hg : w.grownBy w' none) : w'.ownsRow B e z v n xs := h.kept hg (by cases v.ownBlock <;> simp)
/-- What stands between the rounds of turned: j keys and i items are laid. -/
structure TS (w u : World) (b2 b4 b5 B : Nat) (cs : List Value) (K : Int) (f : Bool) (N : Int) (X : ByteArray) (KS : List ByteArray) (L : List Tree) (j i : Nat) (kv iv : Value) : Prop where
  o : b2 < b4 ∧ b4 < b5 ∧ b5 < B ∧ B ≤ u.heap.size ∧ w.heap.size ≤ b2
  x2 : Blk u b2 cs 26
  x4 : Blk u b4 Z6 26
  x5 : Blk u b5 [.int .i64 K, .bool f, .int .i64 N, .string X, kv, iv] 26
  k : u.ownsRow B 9 1 kv j ((KS.take j).map .string)
  it : ∃ xs, u.ownsRow B 26 6 iv i xs ∧ Elems u (fun g => (B ≤ g ∧ some g ≠ kv.ownBlock) ∧ some g ≠ iv.ownBlock) (L.take i) xs
  g : w.grownBy u none
  jl : j ≤ KS.length
  il : i ≤ L.length
variable {w u u' : World} {b2 b4 b5 B : Nat} {cs : List Value} {K : Int} {f : Bool} {N : Int} {X : ByteArray} {KS : List ByteArray} {L : List Tree} {j i : Nat} {kv iv : Value}
theorem TS.keep (h : TS w u b2 b4 b5 B cs K f N X KS L j i kv iv) (hg : u.grownBy u' none) : TS w u' b2 b4 b5 B cs K f N X KS L j i kv iv := by
  obtain ⟨xs, q1, q2⟩ := h.it
  exact ⟨⟨h.o.1, h.o.2.1, h.o.2.2.1, Nat.le_trans h.o.2.2.2.1 hg.size, h.o.2.2.2.2⟩, h.x2.keep hg, h.x4.keep hg, h.x5.keep hg, own_keep h.k hg, ⟨xs, own_keep q1 hg, q2.on (Stays.none hg)⟩, gtrans h.g hg, h.jl, h.il⟩
theorem own_ne_type {B1 B2 e1 e2 z1 z2 n1 n2 : Nat} {v1 v2 : Value} {x1 x2 : List Value} (h1 : u.ownsRow B1 e1 z1 v1 n1 x1) (h2 : u.ownsRow B2 e2 z2 v2 n2 x2) (he : e1 ≠ e2) : v1.ownBlock = none ∨ v1.ownBlock ≠ v2.ownBlock := rows_apart h1 h2 he
theorem TS.key (h : TS w u b2 b4 b5 B cs K f N X KS L j i kv iv) {o : Obj} {w3 : World} {g3 cap3 : Nat} {k : ByteArray} (hg3 : (u.alloc o).grownBy w3 kv.ownBlock) (ho3 : w3.ownsRow B 9 1 (.slice (some ⟨g3, 0, none⟩) (j + 1) cap3) (j + 1) ((KS.take j).map .string ++ [.string k])) (hat : kv.ownBlock = some g3 ∨ g3 = u.heap.size + 1) (hk : KS[j]? = some k) :
    TS w (w3.setCell ⟨b5, 4, none⟩ (.slice (some ⟨g3, 0, none⟩) (j + 1) cap3)) b2 b4 b5 B cs K f N X KS L (j + 1) i (.slice (some ⟨g3, 0, none⟩) (j + 1) cap3) iv := by
  have hga := galloc u o none
  have hh := h.keep hga
  have hlt := fun k (hk : kv.ownBlock = some k) => h.k.lt k hk
  have ho := h.o
  have nb : ∀ b, b < B → kv.ownBlock ≠ some b := fun b hb e => by have := (hlt b e).1; omega
  have gs := gset w3 ⟨b5, 4, none⟩ (.slice (some ⟨g3, 0, none⟩) (j + 1) cap3)
  have hjl : j < KS.length := (List.getElem?_eq_some_iff.1 hk).1
  have hsz := hg3.size
  have hsa : (u.alloc o).heap.size = u.heap.size + 1 := by simp
  have y2 := (hh.x2.on hg3 (nb b2 (by omega))).on gs (by intro e; injection e with e; simp at e; omega)
  have y4 := (hh.x4.on hg3 (nb b4 (by omega))).on gs (by intro e; injection e with e; simp at e; omega)
  have y5 := (hh.x5.on hg3 (nb b5 (by omega))).set 4 (.slice (some ⟨g3, 0, none⟩) (j + 1) cap3)
  have etk : (KS.take (j + 1)).map Value.string = (KS.take j).map Value.string ++ [.string k] := by rw [List.take_add_one, hk]; simp
  refine ⟨⟨ho.1, ho.2.1, ho.2.2.1, ?_, ho.2.2.2.2⟩, y2, y4, y5, ?_, ?_, ?_, hjl, h.il⟩
  · have := gs.size; omega
  · rw [etk]
    exact own_onB ho3 gs ho.2.2.1
  · obtain ⟨xs, q1', q2'⟩ := h.it
    have q1 := own_keep q1' hga
    have hap := own_ne_type q1 hh.k (by decide)
    have q3 : w3.ownsRow B 26 6 iv i xs := q1.kept hg3 hap
    refine ⟨xs, own_onB q3 gs ho.2.2.1, ?_⟩
    have s1 : Stays (fun g => (B ≤ g ∧ some g ≠ kv.ownBlock) ∧ some g ≠ iv.ownBlock) (u.alloc o) w3 := Stays.grown hg3 (fun g hg => hg.1.2)
    have s2 : Stays (fun g => (B ≤ g ∧ some g ≠ kv.ownBlock) ∧ some g ≠ iv.ownBlock) w3 (w3.setCell ⟨b5, 4, none⟩ (.slice (some ⟨g3, 0, none⟩) (j + 1) cap3)) := Stays.grown gs (fun g hg e => by injection e with e; have := hg.1.1; simp at e; omega)
    refine Elems.kept (F := fun g => (B ≤ g ∧ some g ≠ kv.ownBlock) ∧ some g ≠ iv.ownBlock) ((Stays.none hga).trans (s1.trans s2)) (fun g hg hl => ⟨⟨hg.1.1, fun e => ?_⟩, hg.2⟩) q2'
    have e2 : g = g3 := Option.some.inj e
    rcases hat with q | q
    · exact hg.1.2 (by rw [q, e2])
    · omega
  · exact ((gtrans h.g hga).andThen hg3 (fun x hx => .inl (by have := (hlt x hx).1; omega))).andThen gs (fun x hx => .inl (by injection hx with hx; simp at hx; omega))
theorem TS.item (h : TS w u b2 b4 b5 B cs K f N X KS L j i kv iv) {o : Obj} {w2 w3 : World} {g3 cap3 : Nat} {t : Tree} {a0 a1 a2 a3 a4 a5 : Value} (hg2 : u.grownBy w2 none) (hT : RdT w2 (fun g => u.heap.size ≤ g) t (.agg #[a0, a1, a2, a3, a4, a5])) (hg3 : (w2.alloc o).grownBy w3 iv.ownBlock) {xs : List Value} (hxs : u.ownsRow B 26 6 iv i xs ∧ Elems u (fun g => (B ≤ g ∧ some g ≠ kv.ownBlock) ∧ some g ≠ iv.ownBlock) (L.take i) xs) (ho3 : w3.ownsRow B 26 6 (.slice (some ⟨g3, 0, none⟩) (i + 1) cap3) (i + 1) (xs ++ [a0, a1, a2, a3, a4, a5])) (hat : iv.ownBlock = some g3 ∨ g3 = w2.heap.size + 1) (hk : L[i]? = some t) :
    TS w (w3.setCell ⟨b5, 5, none⟩ (.slice (some ⟨g3, 0, none⟩) (i + 1) cap3)) b2 b4 b5 B cs K f N X KS L j (i + 1) kv (.slice (some ⟨g3, 0, none⟩) (i + 1) cap3) := by
  have hga := gtrans hg2 (galloc w2 o none)
  have hh := h.keep hga
  have hlt := fun k (hk : iv.ownBlock = some k) => hxs.1.lt k hk
  have ho := h.o
  have nb : ∀ b, b < B → iv.ownBlock ≠ some b := fun b hb e => by have := (hlt b e).1; omega
  have gs := gset w3 ⟨b5, 5, none⟩ (.slice (some ⟨g3, 0, none⟩) (i + 1) cap3)
  have hjl : i < L.length := (List.getElem?_eq_some_iff.1 hk).1
  have hsz := hg3.size
  have hsz2 := hg2.size
  have hsa : (w2.alloc o).heap.size = w2.heap.size + 1 := by simp
  have y2 := (hh.x2.on hg3 (nb b2 (by omega))).on gs (by intro e; injection e with e; simp at e; omega)
  have y4 := (hh.x4.on hg3 (nb b4 (by omega))).on gs (by intro e; injection e with e; simp at e; omega)
  have y5 := (hh.x5.on hg3 (nb b5 (by omega))).set 5 (.slice (some ⟨g3, 0, none⟩) (i + 1) cap3)
  refine ⟨⟨ho.1, ho.2.1, ho.2.2.1, ?_, ho.2.2.2.2⟩, y2, y4, y5, ?_, ⟨_, own_onB ho3 gs ho.2.2.1, ?_⟩, ?_, h.jl, hjl⟩
  · have := gs.size; omega
  · have hap := own_ne_type hh.k (own_keep hxs.1 hga) (by decide)
    exact own_onB (hh.k.kept hg3 hap) gs ho.2.2.1
  · have e : L.take (i + 1) = L.take i ++ [t] := by rw [List.take_add_one, hk]; rfl
    rw [e]
    have q := elems_more (b := b5) (g := g3) (X := fun g => some g ≠ kv.ownBlock) ho.2.2.1 ho.2.2.2.1 hxs.1 hxs.2 (gsome hg2 _) hT (fun g hg e => by have := (h.k.lt g e.symm).2; omega) hg3 hat
    refine q.on (Stays.grown gs (fun g hg e => by injection e with e; have := hg.1.1; simp at e; omega))
  · exact ((gtrans h.g hga).andThen hg3 (fun x hx => .inl (by have := (hlt x hx).1; omega))).andThen gs (fun x hx => .inl (by injection hx with hx; simp at hx; omega))
end Go.Proofs.YtdmnhkgiojkphaaGreatDoor
