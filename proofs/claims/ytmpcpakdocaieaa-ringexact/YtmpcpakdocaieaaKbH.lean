/- The book's own steps over keys. -/
import Derived.Test.YtmpcpakdocaieaaKbG
namespace Go.Proofs.Ytmpcpakdocaieaa.Bk
open Go Go.RowKit
open Go.RowKit (wrap32 wrap64)

/-- The book behind a write into its own cells. -/
theorem Bst.but {w w' : World} {B bk : Nat} {v0 v1 : Value} {A T D U T' D' U' : Int} {gs : List Value} {ms : List Nat} {k N : Nat} (h : Bst w B bk v0 v1 A T D U gs ms k N) (hb : But w w' bk) (hc : Bkc w' bk v0 v1 A T' D' U') : Bst w' B bk v0 v1 A T' D' U' gs ms k N := by
  obtain ⟨cs, hcs⟩ := bkc_block h.cells
  have s : ∀ e, e ≠ 50 → Same e w w' := fun e he => Same.but hcs he hb
  exact ⟨hc, own_same h.row0 (s 55 (by decide)), own_same h.row1 (s 3 (by decide)), fun i g m hg hm => held_same (h.held i g m hg hm) (s 107 (by decide)), h.mle, fun i g m h1 h2 hg hm => by
    obtain ⟨⟨n, hn, ho⟩, h4⟩ := h.fresh i g m h1 h2 hg hm
    exact ⟨⟨n, hn, own_same ho (s 107 (by decide))⟩, h4⟩, fun i g b hg hb' => by rw [hb.size]; exact h.low i g b hg hb'⟩

/-- The book behind a write into a list of bytes that is none of its own. -/
theorem Bst.other {w w' : World} {B bk b : Nat} {v0 v1 : Value} {A T D U : Int} {gs : List Value} {ms : List Nat} {k N : Nat} (h : Bst w B bk v0 v1 A T D U gs ms k N) {cs : Array Value} (hb5 : w.heap[b]? = some (.cells cs 107 (0, 0))) (hb : But w w' b)
    (hap : ∀ (j : Nat) g', gs[j]? = some g' → g'.ownBlock ≠ some b) : Bst w' B bk v0 v1 A T D U gs ms k N := by
  have s : ∀ e, e ≠ 107 → Same e w w' := fun e he => Same.but hb5 he hb
  refine ⟨bkc_same h.cells (s 50 (by decide)), own_same h.row0 (s 55 (by decide)), own_same h.row1 (s 3 (by decide)), fun i g m hg hm => held_keeps (h.held i g m hg hm) (fun b' hb' => KeepsTo.same (hb.block b' (fun e => hap i g hg (by rw [hb', e])))), h.mle, fun i g m h1 h2 hg hm => ?_, fun i g b' hg hb' => by rw [hb.size]; exact h.low i g b' hg hb'⟩
  obtain ⟨⟨n, hn, ho⟩, h4⟩ := h.fresh i g m h1 h2 hg hm
  refine ⟨⟨n, hn, ?_⟩, h4⟩
  refine ⟨ho.1, ?_⟩
  rcases ho.2 with h5 | ⟨q, cap, cur, hv, hg', hh, r⟩
  · exact Or.inl h5
  · exact Or.inr ⟨q, cap, cur, hv, hg', by rw [hb.block q (fun e => hap i g hg (by rw [hv, e]; rfl))]; exact hh, r⟩

theorem But.below {w w' : World} {B b : Nat} (h : But w w' b) (hB : B ≤ b) : Below B w w' := ⟨h.os, h.tape, h.output, Nat.le_of_eq h.size.symm, fun k hk => h.block k (by omega)⟩

/-- What Bytes leaves as it was. -/
structure Kept (w w' : World) (B bk : Nat) (v0 v1 o : Value) : Prop where
  below : Below B w w'
  block : ∀ b, b < w.heap.size → b ≠ bk → v0.ownBlock ≠ some b → v1.ownBlock ≠ some b → o.ownBlock ≠ some b → w'.heap[b]? = w.heap[b]?

theorem Kept.refl (w : World) (B bk : Nat) (v0 v1 o : Value) : Kept w w B bk v0 v1 o := ⟨Below.refl _ _, fun _ _ _ _ _ _ => rfl⟩
theorem Kept.step {w w1 w2 : World} {B bk : Nat} {v0 v1 o : Value} (h : Kept w w1 B bk v0 v1 o) (hb : Below B w1 w2) (k : ∀ b, b < w1.heap.size → b ≠ bk → v0.ownBlock ≠ some b → v1.ownBlock ≠ some b → o.ownBlock ≠ some b → w2.heap[b]? = w1.heap[b]?) : Kept w w2 B bk v0 v1 o :=
  ⟨h.below.trans hb, fun b h1 h2 h3 h4 h5 => by rw [k b (Nat.lt_of_lt_of_le h1 h.below.size) h2 h3 h4 h5, h.block b h1 h2 h3 h4 h5]⟩

/-- The book behind one list more, its own. -/
theorem Bst.pushNew {w w' : World} {B bk : Nat} {v0 v1 v0' v1' : Value} {A T D U U' T' : Int} {gs : List Value} {ms : List Nat} {k : Nat} (h : Bst w B bk v0 v1 A T D U gs ms k gs.length) {gv : Value} {m n : Nat}
    (hc : Bkc w' bk v0' v1' A T' D U') (h0 : w'.ownsRow B 55 1 v0' (gs.length + 1) (gs ++ [gv])) (h1 : w'.ownsRow B 3 1 v1' (gs.length + 1) (ci ms ++ [.int .i64 m])) (hs : Same 107 w w')
    (ho : w'.ownsRow B 107 34 gv n (kcs (List.replicate n (kyM m)))) (hn : n ≤ 1048000) (hm : m ≤ 1099511627776) (hap : ∀ (j : Nat) g', gs[j]? = some g' → Apart g' gv) (hsz : w.heap.size ≤ w'.heap.size) : Bst w' B bk v0' v1' A T' D U' (gs ++ [gv]) (ms ++ [m]) k (gs ++ [gv]).length := by
  have h2 := h.push hc h0 h1 hs (own_held (by omega) ho) hm (Nat.le_refl _) (fun i r _ _ hr => (hap i r hr).symm) hsz (fun b hb => (ho.lt b hb).2)
  refine ⟨h2.cells, h2.row0, h2.row1, h2.held, h2.mle, fun i g q h3 h4 hg hq => ?_, h2.low⟩
  rw [List.length_append] at h4
  simp at h4
  by_cases hi : i < gs.length
  · exact h2.fresh i g q h3 hi hg hq
  · have hi2 : i = gs.length := by omega
    subst hi2
    have hl := h.len
    rw [List.getElem?_append_right (by omega)] at hg
    rw [List.getElem?_append_right (by omega), hl] at hq
    simp at hg hq
    subst hg
    subst hq
    refine ⟨⟨n, hn, ho⟩, fun j g' hj hg' => ?_⟩
    by_cases hjl : j < gs.length
    · rw [List.getElem?_append_left hjl] at hg'
      exact hap j g' hg'
    · have := (List.getElem?_eq_some_iff.1 hg').1
      simp at this
      omega
end Go.Proofs.Ytmpcpakdocaieaa.Bk
