/- RingExact's state: the ring that there is, the book, the seat. -/
import Derived.Test.YtlgjmhemgfjgnaaGreatX45
import Derived.Test.YtlgjmhemgfjgnaaGreatYD
import Derived.Test.YtlgjmhemgfjgnaaGreatX36
namespace Go.Proofs.YtlgjmhemgfjgnaaGreat.Bk
open Go Go.RowKit
open Go.RowKit (wrap32 wrap64)

theorem ob (a : Option Addr) (n c n' c' : Nat) : (Value.slice a n c).ownBlock = (Value.slice a n' c').ownBlock := by cases a <;> rfl
/-- Keys at a ring's place: the beginning of a row of the call's own. -/
def RK (B : Nat) (w : World) (a : Option Addr) (n c : Nat) (l : List Ky) : Prop := ∃ N lf, OutK B w (.slice a N c) lf ∧ n ≤ N ∧ l = lf.take n
theorem OutK.num {B n c : Nat} {w : World} {a : Option Addr} {l : List Ky} (h : OutK B w (.slice a n c) l) : l.length = n := by
  obtain ⟨_, _, e⟩ := h.slice
  injection e with _ e _
  exact e.symm
theorem RK.of {B n c : Nat} {w : World} {a : Option Addr} {l : List Ky} (h : OutK B w (.slice a n c) l) : RK B w a n c l := ⟨n, l, h, Nat.le_refl _, by rw [List.take_of_length_le (Nat.le_of_eq (OutK.num h))]⟩
theorem RK.nil (B : Nat) (w : World) : RK B w none 0 0 [] := RK.of (OutK.nil B w)
theorem RK.len {B n c : Nat} {w : World} {a : Option Addr} {l : List Ky} (h : RK B w a n c l) : l.length = n := by
  obtain ⟨N, lf, h1, h2, rfl⟩ := h
  rw [List.length_take, OutK.num h1]
  omega
theorem RdK.take {w : World} {F : Nat → Prop} {a : Option Addr} {N n c : Nat} {l : List Ky} (h : RdK w F (.slice a N c) l) (hn : n ≤ N) : RdK w F (.slice a n c) (l.take n) := by
  obtain ⟨hok, p, b, off, c', e, hc, hnn, ha, hcell⟩ := h
  injection e with e1 e2 e3
  subst e1 e2 e3
  have hl : (l.take n).length = n := by rw [List.length_take]; omega
  refine ⟨fun k hk => hok k (List.mem_of_mem_take hk), a, b, off, c, by rw [hl], by rw [hl]; omega, hnn, fun h0 => ha (by rw [hl] at h0; omega), fun i hi => ?_⟩
  rw [List.getElem_take]
  exact hcell i (by rw [hl] at hi; omega)
theorem RK.rd {B n c : Nat} {w : World} {a : Option Addr} {l : List Ky} (h : RK B w a n c l) : RdK w (fun k => B ≤ k) (.slice a n c) l := by
  obtain ⟨N, lf, h1, h2, rfl⟩ := h
  exact RdK.take h1.rd h2
theorem RK.cut {B n c m : Nat} {w : World} {a : Option Addr} {l : List Ky} (h : RK B w a n c l) (hm : m ≤ n) : RK B w a m c (l.take m) := by
  obtain ⟨N, lf, h1, h2, rfl⟩ := h
  exact ⟨N, lf, h1, by omega, by rw [List.take_take, Nat.min_eq_left hm]⟩
theorem RK.on {B n c : Nat} {w w' : World} {a : Option Addr} {l : List Ky} {row : Option Nat} (h : RK B w a n c l) (hg : w.grownBy w' row) (hr : ∀ k, row = some k → (Value.slice a n c).ownBlock ≠ some k) : RK B w' a n c l := by
  obtain ⟨N, lf, h1, h2, rfl⟩ := h
  exact ⟨N, lf, h1.on hg (fun k hk => by rw [ob a N c n c]; exact hr k hk), h2, rfl⟩
theorem RK.keep {B n c : Nat} {w w' : World} {a : Option Addr} {l : List Ky} (h : RK B w a n c l) (hg : w.grownBy w' none) : RK B w' a n c l := h.on hg (fun k hk => by cases hk)
theorem RK.low {B n c : Nat} {w : World} {a : Option Addr} {l : List Ky} (h : RK B w a n c l) {k : Nat} (hk : (Value.slice a n c).ownBlock = some k) : B ≤ k ∧ k < w.heap.size ∧ ∃ cs, w.heap[k]? = some (.cells cs 85 (0, 0)) := by
  obtain ⟨N, lf, h1, h2, rfl⟩ := h
  exact own_block h1.2 (by rw [ob a N c n c]; exact hk)
theorem OutK.kk {B C : Nat} {w w' : World} {v o : Value} {l : List Ky} (h : OutK B w v l) (hk : KK w w' C o) (hne : ∀ k, v.ownBlock = some k → o.ownBlock ≠ some k) : OutK B w' v l := by
  refine ⟨h.1, ?_⟩
  rcases h.2 with ⟨hl, h1 | ⟨g, cap, cur, hv, hB, hg, hle, hm, hs, ht⟩⟩
  · exact ⟨hl, .inl h1⟩
  · refine ⟨hl, .inr ⟨g, cap, cur, hv, hB, ?_, hle, hm, hs, ht⟩⟩
    rw [hk.2 g cur 85 hg (by decide) (by decide) (by decide) (hne g (by rw [hv]; rfl))]
    exact hg
theorem RK.kk {B C n c : Nat} {w w' : World} {a : Option Addr} {o : Value} {l : List Ky} (h : RK B w a n c l) (hk : KK w w' C o) (hne : ∀ k, (Value.slice a n c).ownBlock = some k → o.ownBlock ≠ some k) : RK B w' a n c l := by
  obtain ⟨N, lf, h1, h2, rfl⟩ := h
  exact ⟨N, lf, OutK.kk h1 hk (fun k hk => hne k (by rw [ob a n c N c]; exact hk)), h2, rfl⟩
theorem Blk.kk {C b t : Nat} {w w' : World} {o : Value} {cs : List Value} (h : Blk w b cs t) (hk : KK w w' C o) (ht : t ≠ 50 ∧ t ≠ 57 ∧ t ≠ 3) (hne : o.ownBlock ≠ some b) : Blk w' b cs t :=
  (hk.2 b _ t h ht.1 ht.2.1 ht.2.2 hne).trans h
/-- The seat's Ring as two changes, one behind the other. -/
theorem KS.split {w w' : World} {sb : Nat} {v : Value} (h : KS w w' sb v) (hb : sb < w.heap.size) : ∃ wm, w.grownBy wm (some sb) ∧ wm.grownBy w' v.ownBlock ∧ wm.heap.size = w.heap.size := by
  have hb2 : sb < w'.heap.size := Nat.lt_of_lt_of_le hb h.size
  refine ⟨{ w with heap := w.heap.setIfInBounds sb (w'.heap[sb]'hb2) }, ⟨rfl, rfl, rfl, by simp, fun k hk hne => ?_⟩, ⟨h.os, h.tape, h.output, by simpa using h.size, fun k hk hne => ?_⟩, by simp⟩
  · have : sb ≠ k := fun e => hne (by rw [e])
    simp [this]
  · have hk' : k < w.heap.size := by simpa using hk
    by_cases e : sb = k
    · subst e
      simp [hb, hb2]
    · rw [show (({ w with heap := w.heap.setIfInBounds sb (w'.heap[sb]'hb2) } : World).heap[k]?) = w.heap[k]? by simp [e]]
      exact h.block k hk' (fun x => e x.symm) (fun x => hne x.symm)
theorem BkS.ks {w w' : World} {B bk T L sb : Nat} {v : Value} {cs : List Value} {lk : List Ky} (h : BkS w B bk T L (fun k => v.ownBlock = some k)) (hs : Blk w sb cs 66) (hv : OutK B w v lk) (hk : KS w w' sb v) : BkS w' B bk T L (fun k => v.ownBlock = some k) := by
  obtain ⟨wm, g1, g2, e⟩ := hk.split hs.lt
  have h1 := h.one hs (by decide) (fun e => by cases e) g1
  cases hv' : v.ownBlock with
  | none => rw [hv'] at g2 h1; exact h1.grown g2
  | some r =>
    obtain ⟨_, _, cr, hcr⟩ := own_block hv.2 hv'
    have hcm : wm.heap[r]? = some (.cells cr 85 (0, 0)) := by
      rw [g1.block r (Array.getElem?_eq_some_iff.1 hcr).1 (fun e => ?_)]
      · exact hcr
      · injection e with e
        subst e
        have h9 := hs
        unfold Blk at h9
        rw [hcr] at h9
        injection h9 with h9
        injection h9 with _ h9
        cases h9
    rw [hv'] at g2 h1
    exact h1.one hcm (by decide) (fun _ => .inr rfl) g2
set_option maxRecDepth 100000 in
set_option maxHeartbeats 1600000 in
theorem BkS.keysX {w : World} {B bk T L : Nat} {X X' : Nat → Prop} (h : BkS w B bk T L X) {o : Value} {l : List Ky} (ho : OutK B w o l) (hl : l.length ≤ 1000000) (hT : T ≤ 549755813888) (hL : ∀ b, o.ownBlock = some b → (L ≤ b ∨ X b) ∧ ¬ X' b) (hX : ∀ b, X' b → X b) {M : Nat} (hM : ∀ b, o.ownBlock = some b → b < M) :
    Calls Tryz.prog 12 #[.pointer (some ⟨bk, 0, none⟩), o] w fun e w' => e = .returned (.tuple #[]) ∧ BkS w' B bk (T + 1) (max L M) X' ∧ KK w w' B o := by
  obtain ⟨v0, v1, D, U, gs, ms, h1, h2, h3, h4, h5, h6, h7⟩ := h
  have hn : gs.length ≤ 1048575 := by omega
  refine (keys_any w B bk 0 T v0 v1 o D U gs ms l h1 h5 h6 ho.1.len ho.2 hl hT h2 h3 hn (fun j g' hj => ?_)).mono ?_
  · cases hg : g'.ownBlock with
    | none => exact .inl hg
    | some x =>
      refine .inr (fun e => ?_)
      rw [hg] at e
      have h8 := h7 j g' hj x hg
      rcases (hL x e.symm).1 with h9 | h9
      · omega
      · exact h8.2 h9
  · rintro e w' ⟨rfl, v0', v1', gs', ms', U', hS, hu0, hu1, hcase, hK, _⟩
    refine ⟨rfl, ⟨v0', v1', D, U', gs', ms', hS, hu0, hu1, ?_, h5, Nat.le_trans h6 hK.below.size, ?_⟩, hK.below, ?_⟩
    · rcases hcase with ⟨rfl, rfl⟩ | ⟨rfl, rfl⟩
      · exact h4
      · rw [List.length_append]
        simp only [List.length_cons, List.length_nil]
        omega
    · intro j g' hj b hb
      rcases hcase with ⟨rfl, _⟩ | ⟨rfl, _⟩
      · have h8 := h7 j g' hj b hb
        exact ⟨by omega, fun q => h8.2 (hX b q)⟩
      · by_cases hjl : j < gs.length
        · rw [List.getElem?_append_left hjl] at hj
          have h8 := h7 j g' hj b hb
          exact ⟨by omega, fun q => h8.2 (hX b q)⟩
        · rw [List.getElem?_append_right (by omega)] at hj
          have hj2 : j = gs.length := by
            have := (List.getElem?_eq_some_iff.1 hj).1
            simp at this
            omega
          subst hj2
          simp at hj
          subst hj
          have h8 := hM b hb
          exact ⟨by omega, (hL b hb).2⟩
    · intro b cs t hb t1 t2 t3 hob
      obtain ⟨cb, hcb⟩ := bkc_block h1.cells
      refine hK.block b (Array.getElem?_eq_some_iff.1 hb).1 (fun e => ?_) (own_neT h1.row0 hb t2) (own_neT h1.row1 hb t3) hob
      subst e
      rw [hb] at hcb
      injection hcb with q1
      injection q1 with q1 q2
      exact t1 q2
def zbk : List Value := (List.range 75).map (bkF (.slice none 0 0) (.slice none 0 0) 0 0 0 0)
theorem built50 : Tryz.prog.built 50 [] = some zbk.toArray := by kernel_rfl
theorem built66 : Tryz.prog.built 66 [] = some (List.replicate 14 (Value.slice none 0 0)).toArray := by kernel_rfl
/-- A new book. -/
theorem BkS.new {w : World} {B bk L : Nat} {X : Nat → Prop} (h : Blk w bk zbk 50) (hB : B ≤ bk) : BkS w B bk 0 L X := by
  refine ⟨.slice none 0 0, .slice none 0 0, 0, 0, [], [], ⟨⟨zbk.toArray, h, by simp [zbk], fun i hi => by simp [zbk, hi]⟩, World.ownsRow_nil _ _ _ _, World.ownsRow_nil _ _ _ _, fun i g m hg => by simp at hg, fun m hm => by simp at hm, fun i g m _ h => by simp at h, fun i g b hg => by simp at hg⟩, by decide, by decide, by decide, hB, by have := h.lt; omega, fun j g hg => by simp at hg⟩

end Go.Proofs.YtlgjmhemgfjgnaaGreat.Bk
