/- The walk of pairs: what stays between its steps. -/
import Derived.Test.YtihbpkebknifdaaGreatDoorWalkH
import Derived.Test.YtihbpkebknifdaaGreatDoorWalkI
namespace Go.Proofs.YtihbpkebknifdaaGreatDoor
open Go Go.RowKit Go.Maps
open Go.RowKit (wrap32 wrap64)

theorem row_ne_row {w : World} {B1 B2 e1 e2 z1 z2 n1 n2 : Nat} {v1 v2 : Value} {x1 x2 : List Value} (h1 : w.ownsRow B1 e1 z1 v1 n1 x1) (h2 : w.ownsRow B2 e2 z2 v2 n2 x2) (he : e1 ≠ e2) (g : Nat) (hg : v1.ownBlock = some g) : v2.ownBlock ≠ some g := by
  intro hg2
  rcases h1.2 with ⟨rfl, _⟩ | ⟨g1, cap1, cur1, rfl, _, hb1, _⟩
  · cases hg
  · rcases h2.2 with ⟨rfl, _⟩ | ⟨g2, cap2, cur2, rfl, _, hb2, _⟩
    · cases hg2
    · have e1' : g1 = g := by injection hg
      have e2' : g2 = g := by injection hg2
      subst e1' e2'
      rw [hb1] at hb2
      injection hb2 with hb2
      injection hb2 with _ hb2
      exact he hb2
theorem row_ne_map {w : World} {B e z n m mb : Nat} {v : Value} {xs : List Value} {ks : List ByteArray} (h : w.ownsRow B e z v n xs) (hm : MapOf w mb m ks) : v.ownBlock ≠ some mb := by
  intro hg
  obtain ⟨D, ⟨es, clock, hb, _⟩, _⟩ := hm
  rcases h.2 with ⟨rfl, _⟩ | ⟨g1, cap1, cur1, rfl, _, hb1, _⟩
  · cases hg
  · have e1' : g1 = mb := by injection hg
    subst e1'
    rw [hb] at hb1
    cases hb1

theorem rows_apart {w : World} {B1 B2 e1 e2 z1 z2 n1 n2 : Nat} {v1 v2 : Value} {x1 x2 : List Value} (h1 : w.ownsRow B1 e1 z1 v1 n1 x1) (h2 : w.ownsRow B2 e2 z2 v2 n2 x2) (he : e1 ≠ e2) : v1.ownBlock = none ∨ v1.ownBlock ≠ v2.ownBlock := by
  cases hv : v1.ownBlock with
  | none => exact .inl rfl
  | some g => exact .inr fun e => row_ne_row h1 h2 he g hv e.symm
theorem Two.split {b m : Nat} {w w2 : World} (h : Two b m w w2) : ∃ w', w.grownBy w' (some m) ∧ w'.grownBy w2 (some b) := by
  by_cases hm : m < w.heap.size
  · have hm2 : m < w2.heap.size := Nat.lt_of_lt_of_le hm h.size
    refine ⟨{ w with heap := w.heap.setIfInBounds m w2.heap[m] }, ⟨rfl, rfl, rfl, by simp, fun k hk hr => ?_⟩, ⟨h.os, h.tape, h.output, by simpa using h.size, fun k hk hr => ?_⟩⟩
    · show (w.heap.setIfInBounds m w2.heap[m])[k]? = _
      rw [Array.getElem?_setIfInBounds_ne (fun e => hr (by rw [e]))]
    · show _ = (w.heap.setIfInBounds m w2.heap[m])[k]?
      by_cases hkm : m = k
      · subst hkm
        rw [Array.getElem?_setIfInBounds_self_of_lt hm]
        exact Array.getElem?_eq_getElem hm2
      · rw [Array.getElem?_setIfInBounds_ne hkm]
        exact h.block k (by simpa using hk) (fun e => hr (by rw [e])) (fun e => hkm e.symm)
  · exact ⟨w, ⟨rfl, rfl, rfl, Nat.le_refl _, fun _ _ _ => rfl⟩, ⟨h.os, h.tape, h.output, h.size, fun k hk hr => h.block k hk (fun e => hr (by rw [e])) (by omega)⟩⟩

/-- The state of pairs: the reader, the two blocks of its own, the map of the keys, both rows. -/
structure PS (w : World) (b : Nat) (s : ByteArray) (d : Int) (mb n q : Nat) (ks : List ByteArray) (acc : List Tree) (kv iv : Value) (xi : List Value) (wr : World) : Prop where
  rd : Rdr wr b s q d
  gr : w.grownBy wr (some b)
  zero : wr.heap[w.heap.size]? = some (.cells #[.int .i64 0, .bool false, .int .i64 0, .string ⟨#[]⟩, .slice none 0 0, .slice none 0 0] 25 (0, 0))
  val : wr.heap[w.heap.size + 1]? = some (.cells #[.int .i64 6, .bool false, .int .i64 0, .string ⟨#[]⟩, kv, iv] 25 (0, 0))
  map : MapOf wr mb n ks
  mlo : w.heap.size + 2 ≤ mb
  keys : wr.ownsRow (w.heap.size + 2) 9 1 kv ks.length (ks.map .string)
  items : wr.ownsRow (w.heap.size + 2) 25 6 iv acc.length xi
  elems : Elems wr (fun g => (w.heap.size + 2 ≤ g ∧ some g ≠ kv.ownBlock ∧ g ≠ mb) ∧ some g ≠ iv.ownBlock) acc xi

variable {w wr : World} {b mb n q : Nat} {s : ByteArray} {d : Int} {ks : List ByteArray} {acc : List Tree} {kv iv : Value} {xi : List Value}
theorem PS.size (h : PS w b s d mb n q ks acc kv iv xi wr) : w.heap.size + 1 < wr.heap.size := (Array.getElem?_eq_some_iff.1 h.val).1
/-- The reader goes on. -/
theorem PS.step (h : PS w b s d mb n q ks acc kv iv xi wr) {w2 : World} {q2 : Nat} (hb : b < w.heap.size) (hr : Rdr w2 b s q2 d) (hg : wr.grownBy w2 (some b)) : PS w b s d mb n q2 ks acc kv iv xi w2 := by
  have hz := h.size
  refine ⟨hr, gtrans h.gr hg, ?_, ?_, h.map.kept hg (by have := h.mlo; simp; omega), h.mlo, h.keys.kept hg (.inr fun e => ?_), h.items.kept hg (.inr fun e => ?_), h.elems.on (Stays.grown hg fun x hx e => ?_)⟩
  · rw [hg.block _ (by omega) (by simp; omega)]; exact h.zero
  · rw [hg.block _ (by omega) (by simp; omega)]; exact h.val
  · have := (h.keys.lt _ e).1; omega
  · have := (h.items.lt _ e).1; omega
  · injection e with e
    omega
/-- One key more. -/
theorem PS.key (h : PS w b s d mb n q ks acc kv iv xi wr) {w2 w3 : World} {q2 g cap : Nat} {k : ByteArray} {o : Obj} (hb : b < w.heap.size) (hr : Rdr w2 b s q2 d) (hm : MapOf w2 mb (n + 1) (ks ++ [k])) (ht : Two b mb wr w2)
    (hown : w3.ownsRow (w.heap.size + 2) 9 1 (.slice (some ⟨g, 0, none⟩) (ks.length + 1) cap) (ks.length + 1) (ks.map .string ++ [.string k])) (hg : (w2.alloc o).grownBy w3 kv.ownBlock) (hat : kv.ownBlock = some g ∨ g = w2.heap.size + 1) :
    PS w b s d mb (n + 1) q2 (ks ++ [k]) acc (.slice (some ⟨g, 0, none⟩) (ks.length + 1) cap) iv xi (w3.setCell ⟨w.heap.size + 1, 4, none⟩ (.slice (some ⟨g, 0, none⟩) (ks.length + 1) cap)) := by
  have hz := h.size
  obtain ⟨w', h1, h2⟩ := ht.split
  have hz1 := h1.size
  have hz2 := h2.size
  have hz3 := hg.size
  simp only [World.alloc, Array.size_push] at hz3
  have hlo := h.mlo
  have gs : w3.grownBy (w3.setCell ⟨w.heap.size + 1, 4, none⟩ (.slice (some ⟨g, 0, none⟩) (ks.length + 1) cap)) (some (w.heap.size + 1)) := gset w3 ⟨w.heap.size + 1, 4, none⟩ _
  have kne : ∀ x, kv.ownBlock = some x → w.heap.size + 2 ≤ x ∧ x < wr.heap.size := fun x hx => h.keys.lt x hx
  have ine : ∀ x, iv.ownBlock = some x → w.heap.size + 2 ≤ x ∧ x < wr.heap.size := fun x hx => h.items.lt x hx
  have hkm := row_ne_map h.keys h.map
  have him := row_ne_map h.items h.map
  have keep : ∀ x, x < w.heap.size + 2 → x ≠ b → w3.heap[x]? = wr.heap[x]? := fun x hx hxb => by
    rw [hg.block _ (by simp only [World.alloc, Array.size_push]; omega) (fun e => by have := (kne x e.symm).1; omega), Below.heap_alloc _ _ _ (by omega), h2.block x (by omega) (by simp; exact hxb), h1.block x (by omega) (by simp; omega)]
  have hr3 : Rdr w3 b s q2 d := by
    have hrl := hr.lt
    unfold Rdr at hr ⊢
    rw [hg.block b (by simp only [World.alloc, Array.size_push]; omega) (fun e => by have := (kne b e.symm).1; omega), Below.heap_alloc _ _ _ hrl]
    exact hr
  have hm3 : MapOf w3 mb (n + 1) (ks ++ [k]) := (hm.kept (galloc w2 o none) (by simp)).kept hg (fun e => hkm e.symm)
  have hi3 := (((h.items.kept h1 (.inr him)).kept h2 (.inr fun e => by have := (ine b e).1; omega)).alloc o).kept hg (rows_apart h.items h.keys (by decide))
  refine ⟨hr3.far gs (by omega), ?_, ?_, set4_heap ((keep _ (by omega) (by omega)).trans h.val) _, hm3.kept gs (by simp; omega), hlo, ?_, hi3.kept gs (.inr fun e => by have := (ine _ e).1; omega), ?_⟩
  · refine World.grownBy.andThen (World.grownBy.andThen (World.grownBy.andThen (World.grownBy.andThen (h.gr.andThen h1 (fun j hj => .inl (by injection hj with hj; omega))) h2 (fun j hj => .inr hj)) (galloc w2 o none) (fun j hj => by cases hj)) hg (fun j hj => .inl (by have := (kne j hj).1; omega))) gs (fun j hj => .inl (by injection hj with hj; omega))
  · rw [gs.block _ (by omega) (by simp), keep _ (by omega) (by omega)]
    exact h.zero
  · rw [List.length_append, List.map_append]
    exact hown.kept gs (.inr fun e => by have := (hown.lt _ e).1; omega)
  · refine Elems.kept (F := fun g => (w.heap.size + 2 ≤ g ∧ some g ≠ kv.ownBlock ∧ g ≠ mb) ∧ some g ≠ iv.ownBlock) ?_ ?_ h.elems
    · refine ((((Stays.grown h1 fun x hx e => ?_).trans (Stays.grown h2 fun x hx e => ?_)).trans (Stays.grown (galloc w2 o none) (fun _ _ => by simp))).trans (Stays.grown hg fun x hx => hx.1.2.1)).trans (Stays.grown gs fun x hx e => ?_)
      · injection e with e; exact hx.1.2.2 e
      · injection e with e; omega
      · injection e with e; omega
    · intro x hx hl
      refine ⟨⟨hx.1.1, fun e => ?_, hx.1.2.2⟩, hx.2⟩
      have e : x = g := by injection e
      rcases hat with h' | h'
      · exact hx.1.2.1 (by rw [h', e])
      · omega
/-- One item more. -/
theorem PS.item (h : PS w b s d mb n q ks acc kv iv xi wr) {w2 w3 : World} {q2 g cap : Nat} {t : Tree} {a0 a1 a2 a3 a4 a5 : Value} {o : Obj} (hb : b < w.heap.size) (hr : Rdr w2 b s q2 d) (hg2 : wr.grownBy w2 (some b))
    (hT : RdT w2 (fun g => wr.heap.size ≤ g) t (.agg #[a0, a1, a2, a3, a4, a5]))
    (hown : w3.ownsRow (w.heap.size + 2) 25 6 (.slice (some ⟨g, 0, none⟩) (acc.length + 1) cap) (acc.length + 1) (xi ++ [a0, a1, a2, a3, a4, a5])) (hg : (w2.alloc o).grownBy w3 iv.ownBlock) (hat : iv.ownBlock = some g ∨ g = w2.heap.size + 1) :
    PS w b s d mb n q2 ks (acc ++ [t]) kv (.slice (some ⟨g, 0, none⟩) (acc.length + 1) cap) (xi ++ [a0, a1, a2, a3, a4, a5]) (w3.setCell ⟨w.heap.size + 1, 5, none⟩ (.slice (some ⟨g, 0, none⟩) (acc.length + 1) cap)) := by
  have hz := h.size
  have hz2 := hg2.size
  have hz3 := hg.size
  simp only [World.alloc, Array.size_push] at hz3
  have hlo := h.mlo
  have gs : w3.grownBy (w3.setCell ⟨w.heap.size + 1, 5, none⟩ (.slice (some ⟨g, 0, none⟩) (acc.length + 1) cap)) (some (w.heap.size + 1)) := gset w3 ⟨w.heap.size + 1, 5, none⟩ _
  have kne : ∀ x, kv.ownBlock = some x → w.heap.size + 2 ≤ x ∧ x < wr.heap.size := fun x hx => h.keys.lt x hx
  have ine : ∀ x, iv.ownBlock = some x → w.heap.size + 2 ≤ x ∧ x < wr.heap.size := fun x hx => h.items.lt x hx
  have hmlt := h.map.lt
  have him := row_ne_map h.items h.map
  have keep : ∀ x, x < w.heap.size + 2 → x ≠ b → w3.heap[x]? = wr.heap[x]? := fun x hx hxb => by
    rw [hg.block _ (by simp only [World.alloc, Array.size_push]; omega) (fun e => by have := (ine x e.symm).1; omega), Below.heap_alloc _ _ _ (by omega), hg2.block x (by omega) (by simp; exact hxb)]
  have hr3 : Rdr w3 b s q2 d := by
    have hrl := hr.lt
    unfold Rdr at hr ⊢
    rw [hg.block b (by simp only [World.alloc, Array.size_push]; omega) (fun e => by have := (ine b e.symm).1; omega), Below.heap_alloc _ _ _ hrl]
    exact hr
  have hm3 : MapOf w3 mb n ks := ((h.map.kept hg2 (by simp; omega)).kept (galloc w2 o none) (by simp)).kept hg (fun e => him e.symm)
  have hk3 := ((h.keys.kept hg2 (.inr fun e => by have := (kne b e).1; omega)).alloc o).kept hg (rows_apart h.keys h.items (by decide))
  have hE3 := elems_more (X := fun g => some g ≠ kv.ownBlock ∧ g ≠ mb) (B := w.heap.size + 2) (b := b) (by omega) (by omega) h.items h.elems hg2 hT (fun x hx => ⟨fun e => by have := (kne x e.symm).2; omega, by omega⟩) hg hat
  refine ⟨hr3.far gs (by omega), ?_, ?_, set5_heap ((keep _ (by omega) (by omega)).trans h.val) _, hm3.kept gs (by simp; omega), hlo, hk3.kept gs (.inr fun e => by have := (kne _ e).1; omega), ?_, hE3.on (Stays.grown gs fun x hx e => ?_)⟩
  · refine World.grownBy.andThen (World.grownBy.andThen (World.grownBy.andThen (h.gr.andThen hg2 (fun j hj => .inr hj)) (galloc w2 o none) (fun j hj => by cases hj)) hg (fun j hj => .inl (by have := (ine j hj).1; omega))) gs (fun j hj => .inl (by injection hj with hj; omega))
  · rw [gs.block _ (by omega) (by simp), keep _ (by omega) (by omega)]
    exact h.zero
  · rw [List.length_append]
    exact hown.kept gs (.inr fun e => by have := (hown.lt _ e).1; omega)
  · injection e with e
    omega
end Go.Proofs.YtihbpkebknifdaaGreatDoor
