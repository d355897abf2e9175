/- The law's book over keys as RingExact has it: its state, Ring, Look. -/
import Derived.Test.YtmpcpakdocaieaaKbI
namespace Go.Proofs.Ytmpcpakdocaieaa.Bk
open Go Go.RowKit
open Go.RowKit (wrap32 wrap64)

/-- The book: its lists lie below L, and none in X. -/
def BkS (w : World) (B bk T L : Nat) (X : Nat → Prop) : Prop :=
  ∃ (v0 v1 : Value) (D U : Int) (gs : List Value) (ms : List Nat), Bst w B bk v0 v1 ((0 : Nat) : Int) T D U gs ms 0 gs.length ∧ 0 ≤ U ∧ U ≤ 16777216 ∧ 48000 * (gs.length : Int) ≤ 6 * U ∧ B ≤ bk ∧ B ≤ w.heap.size ∧ ∀ (j : Nat) g', gs[j]? = some g' → ∀ b, g'.ownBlock = some b → b < L ∧ ¬ X b
theorem BkS.grown {w w' : World} {B bk T L : Nat} {X : Nat → Prop} (h : BkS w B bk T L X) (hg : w.grownBy w' none) : BkS w' B bk T L X := by
  obtain ⟨v0, v1, D, U, gs, ms, h1, h2, h3, h4, h5, h6, h7⟩ := h
  exact ⟨v0, v1, D, U, gs, ms, h1.grown hg, h2, h3, h4, h5, Nat.le_trans h6 hg.size, h7⟩
/-- A call that changes one block, and makes others: the change first, then what is new. -/
theorem grown_split {w w2 : World} {b : Nat} (hb : b < w.heap.size) (hg : w.grownBy w2 (some b)) : ∃ wm, But w wm b ∧ wm.grownBy w2 none := by
  have hb2 : b < w2.heap.size := Nat.lt_of_lt_of_le hb hg.size
  refine ⟨{ w with heap := w.heap.setIfInBounds b (w2.heap[b]'hb2) }, ⟨rfl, rfl, rfl, by simp, fun k hk => ?_⟩, ⟨hg.os, hg.tape, hg.output, ?_, fun k hk _ => ?_⟩⟩
  · simp [Ne.symm hk]
  · simpa using hg.size
  · have hk' : k < w.heap.size := by simpa using hk
    by_cases e : b = k
    · subst e
      simp [hb, hb2]
    · rw [show (({ w with heap := w.heap.setIfInBounds b (w2.heap[b]'hb2) } : World).heap[k]?) = w.heap[k]? by simp [e]]
      exact hg.block k hk' (fun x => e (by injection x with x; exact x.symm))
theorem BkS.one {w w' : World} {B bk T L b t : Nat} {X : Nat → Prop} {cs : Array Value} (h : BkS w B bk T L X) (hb : w.heap[b]? = some (.cells cs t (0, 0))) (ht : t ≠ 50 ∧ t ≠ 55 ∧ t ≠ 3) (h107 : t = 107 → L ≤ b ∨ X b) (hg : w.grownBy w' (some b)) : BkS w' B bk T L X := by
  obtain ⟨wm, hbut, hg2⟩ := grown_split (Array.getElem?_eq_some_iff.1 hb).1 hg
  refine BkS.grown ?_ hg2
  obtain ⟨v0, v1, D, U, gs, ms, h1, h2, h3, h4, h5, h6, h7⟩ := h
  refine ⟨v0, v1, D, U, gs, ms, ?_, h2, h3, h4, h5, by rw [hbut.size]; exact h6, h7⟩
  by_cases e : t = 107
  · subst e
    exact h1.other hb hbut (fun j g' hj hk => by
      have h8 := h7 j g' hj b hk
      rcases h107 rfl with h9 | h9
      · omega
      · exact h8.2 h9)
  · exact h1.same (fun q hq => Same.but hb (fun e2 => by rcases hq with rfl | rfl | rfl | rfl <;> first | exact e e2.symm | exact ht.1 e2.symm | exact ht.2.1 e2.symm | exact ht.2.2 e2.symm) hbut) (Nat.le_of_eq hbut.size.symm)
theorem BkS.up {w : World} {B bk T L L' : Nat} {X : Nat → Prop} (h : BkS w B bk T L X) (hL : L ≤ L') : BkS w B bk T L' X := by
  obtain ⟨v0, v1, D, U, gs, ms, h1, h2, h3, h4, h5, h6, h7⟩ := h
  exact ⟨v0, v1, D, U, gs, ms, h1, h2, h3, h4, h5, h6, fun j g' hj b hb => ⟨by have := (h7 j g' hj b hb).1; omega, (h7 j g' hj b hb).2⟩⟩
theorem BkS.other {w : World} {B bk T L : Nat} {X X' : Nat → Prop} (h : BkS w B bk T L X) (hX : ∀ b, b < L → X' b → X b) : BkS w B bk T L X' := by
  obtain ⟨v0, v1, D, U, gs, ms, h1, h2, h3, h4, h5, h6, h7⟩ := h
  exact ⟨v0, v1, D, U, gs, ms, h1, h2, h3, h4, h5, h6, fun j g' hj b hb => ⟨(h7 j g' hj b hb).1, fun hx => (h7 j g' hj b hb).2 (hX b (h7 j g' hj b hb).1 hx)⟩⟩
/-- What Keys leaves as it was: all blocks but the list's and the book's own. -/
def KK (w w' : World) (B : Nat) (o : Value) : Prop := Below B w w' ∧ ∀ b cs t, w.heap[b]? = some (.cells cs t (0, 0)) → t ≠ 50 → t ≠ 55 → t ≠ 3 → o.ownBlock ≠ some b → w'.heap[b]? = w.heap[b]?
theorem own_neT {w : World} {B b e e' q n : Nat} {v : Value} {xs : List Value} {cs : Array Value} {fr : Nat × Nat} (h : w.ownsRow B e q v n xs) (hb : w.heap[b]? = some (.cells cs e' fr)) (hne : e' ≠ e) : v.ownBlock ≠ some b := fun k => by
  obtain ⟨_, _, cs', hcs⟩ := own_block h k
  rw [hb] at hcs
  injection hcs with q1
  injection q1 with q1 q2
  exact hne q2
set_option maxRecDepth 100000 in
set_option maxHeartbeats 1600000 in
theorem BkS.keys {w : World} {B bk T L : Nat} {X : Nat → Prop} (h : BkS w B bk T L X) {o : Value} {l : List Ky} (ho : OutK B w o l) (hl : l.length ≤ 1000000) (hT : T ≤ 549755813888) (hL : ∀ b, o.ownBlock = some b → L ≤ b ∧ ¬ X b) :
    Calls Try.prog 44 #[.pointer (some ⟨bk, 0, none⟩), o] w fun e w' => e = .returned (.tuple #[]) ∧ BkS w' B bk (T + 1) (max L w.heap.size) X ∧ KK w w' B o := by
  obtain ⟨v0, v1, D, U, gs, ms, h1, h2, h3, h4, h5, h6, h7⟩ := h
  have hn : gs.length ≤ 1048575 := by omega
  refine (keys_any w B bk 0 T v0 v1 o D U gs ms l h1 h5 h6 ho.1.len ho.2 hl hT h2 h3 hn (fun j g' hj => ?_)).mono ?_
  · cases hg : g'.ownBlock with
    | none => exact .inl hg
    | some x =>
      refine .inr (fun e => ?_)
      rw [hg] at e
      have h8 := h7 j g' hj x hg
      have h9 := hL x e.symm
      omega
  · rintro e w' ⟨rfl, v0', v1', gs', ms', U', hS, hu0, hu1, hcase, hK, _⟩
    refine ⟨rfl, ⟨v0', v1', D, U', gs', ms', hS, hu0, hu1, ?_, h5, Nat.le_trans h6 hK.below.size, ?_⟩, hK.below, ?_⟩
    · rcases hcase with ⟨rfl, rfl⟩ | ⟨rfl, rfl⟩
      · exact h4
      · rw [List.length_append]
        simp only [List.length_cons, List.length_nil]
        omega
    · intro j g' hj b hb
      rcases hcase with ⟨rfl, _⟩ | ⟨rfl, _⟩
      · have h8 := h7 j g' hj b hb
        exact ⟨by omega, h8.2⟩
      · by_cases hjl : j < gs.length
        · rw [List.getElem?_append_left hjl] at hj
          have h8 := h7 j g' hj b hb
          exact ⟨by omega, h8.2⟩
        · rw [List.getElem?_append_right (by omega)] at hj
          have hj2 : j = gs.length := by
            have := (List.getElem?_eq_some_iff.1 hj).1
            simp at this
            omega
          subst hj2
          simp at hj
          subst hj
          have h8 := (ho.2.lt b hb).2
          exact ⟨by omega, (hL b hb).2⟩
    · intro b cs t hb t1 t2 t3 hob
      obtain ⟨cb, hcb⟩ := bkc_block h1.cells
      refine hK.block b (Array.getElem?_eq_some_iff.1 hb).1 (fun e => ?_) (own_neT h1.row0 hb t2) (own_neT h1.row1 hb t3) hob
      subst e
      rw [hb] at hcb
      injection hcb with q1
      injection q1 with q1 q2
      exact t1 q2
set_option maxRecDepth 100000 in
set_option maxHeartbeats 1600000 in
/-- The book takes a ring. -/
theorem BkS.ring {w : World} {B bk T L : Nat} {X : Nat → Prop} (h : BkS w B bk T L X) {a : Option Addr} {n c : Nat} {nx : Int} {l : List Ky} (ho : OutK B w (.slice a n c) l) (hl : l.length ≤ 1000000) (hT : T ≤ 549755813888) (hL : ∀ b, (Value.slice a n c).ownBlock = some b → L ≤ b ∧ ¬ X b) :
    Calls Try.prog 23 #[.pointer (some ⟨bk, 0, none⟩), .agg #[.slice a n c, .int .u64 nx]] w fun e w' => e = .returned (.tuple #[]) ∧ BkS w' B bk (T + 1) (max L (w.heap.size + 1)) X ∧ KK w w' B (.slice a n c) := by
  have HKy : Hid (∀ u, u.heap.size = w.heap.size + 1 → w.grownBy u none → Calls Try.prog 44 #[.pointer (some ⟨bk, 0, none⟩), .slice a n c] u fun e w' => e = .returned (.tuple #[]) ∧ BkS w' B bk (T + 1) (max L (w.heap.size + 1)) X ∧ KK u w' B (.slice a n c)) := hid (fun u hu hg => by
    have h9 := (h.grown hg).keys (ho.keep hg) hl hT hL
    rw [hu] at h9
    exact h9)
  have HB : Hid (B ≤ w.heap.size) := hid (by obtain ⟨v0, v1, D, U, gs, ms, h1, h2, h3, h4, h5, h6, h7⟩ := h; exact h6)
  clear h ho hL
  go_enter Try.func23, Try.ntmps23
  go_wp2_with (first
    | ((with_reducible refine wpList_box_row (by with_unfolding_all rfl) 69 _ (by with_unfolding_all rfl) [.slice a n c, .int .u64 nx] (by with_unfolding_all rfl) ?_); intro w1 B1 s1 g1; have HB1 := hid B1; have HG1 := hid g1; have HS1 := hid s1; have hc0 : w1.cell? ⟨w.heap.size, 0, none⟩ = some (.slice a n c) := HB1.out.cell 0; clear B1 g1 s1)
    | (go_at_call 44; refine (HKy.out w1 (by have h9 := HS1.out; omega) HG1.out).mono ?_; rintro e w2 ⟨rfl, hb, hk⟩))
  go_end0
  exact ⟨rfl, hb, ((gbelow HG1.out).mono HB.out).trans hk.1, fun b cs t h1 h2 h3 h4 h5 => by
    have h8 := HG1.out.block b (Array.getElem?_eq_some_iff.1 h1).1 (by simp)
    rw [hk.2 b cs t (by rw [h8]; exact h1) h2 h3 h4 h5, h8]⟩
theorem BkS.look {w : World} {B bk T L : Nat} {X : Nat → Prop} (h : BkS w B bk T L X) : Calls Try.prog 25 #[.pointer (some ⟨bk, 0, none⟩)] w fun e w' => e = .returned (.bool true) ∧ Below B w w' := by
  obtain ⟨v0, v1, D, U, gs, ms, h1, h2, h3, h4, h5, h6, h7⟩ := h
  exact look_any w B bk 0 v0 v1 T D U gs ms h1 (Nat.zero_le _) (by simpa using h4) h3 h5 h6
end Go.Proofs.Ytmpcpakdocaieaa.Bk
