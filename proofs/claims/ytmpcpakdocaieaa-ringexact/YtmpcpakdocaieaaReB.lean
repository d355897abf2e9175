/- RingExact's state: the ring that there is, the book, the seat. -/
import Derived.Test.YtmpcpakdocaieaaSeC
import Derived.Test.YtmpcpakdocaieaaCpW
import Derived.Test.YtmpcpakdocaieaaOpenS2
namespace Go.Proofs.Ytmpcpakdocaieaa.Bk
open Go Go.RowKit
open Go.RowKit (wrap32 wrap64)

theorem ob (a : Option Addr) (n c n' c' : Nat) : (Value.slice a n c).ownBlock = (Value.slice a n' c').ownBlock := by cases a <;> rfl
/-- Keys at a ring's place: the beginning of a row of the call's own. -/
def RK (B : Nat) (w : World) (a : Option Addr) (n c : Nat) (l : List Ky) : Prop := ∃ N lf, OutK B w (.slice a N c) lf ∧ n ≤ N ∧ l = lf.take n
theorem OutK.num {B n c : Nat} {w : World} {a : Option Addr} {l : List Ky} (h : OutK B w (.slice a n c) l) : l.length = n := by
  obtain ⟨_, _, e⟩ := h.slice
  injection e with _ e _
  exact e.symm
theorem RK.of {B n c : Nat} {w : World} {a : Option Addr} {l : List Ky} (h : OutK B w (.slice a n c) l) : RK B w a n c l := ⟨n, l, h, Nat.le_refl _, by rw [List.take_of_length_le (Nat.le_of_eq (OutK.num h))]⟩
theorem RK.nil (B : Nat) (w : World) : RK B w none 0 0 [] := RK.of (OutK.nil B w)
theorem RK.len {B n c : Nat} {w : World} {a : Option Addr} {l : List Ky} (h : RK B w a n c l) : l.length = n := by
  obtain ⟨N, lf, h1, h2, rfl⟩ := h
  rw [List.length_take, OutK.num h1]
  omega
theorem RdK.take {w : World} {F : Nat → Prop} {a : Option Addr} {N n c : Nat} {l : List Ky} (h : RdK w F (.slice a N c) l) (hn : n ≤ N) : RdK w F (.slice a n c) (l.take n) := by
  obtain ⟨hok, p, b, off, c', e, hc, hnn, ha, hcell⟩ := h
  injection e with e1 e2 e3
  subst e1 e2 e3
  have hl : (l.take n).length = n := by rw [List.length_take]; omega
  refine ⟨fun k hk => hok k (List.mem_of_mem_take hk), a, b, off, c, by rw [hl], by rw [hl]; omega, hnn, fun h0 => ha (by rw [hl] at h0; omega), fun i hi => ?_⟩
  rw [List.getElem_take]
  exact hcell i (by rw [hl] at hi; omega)
theorem RK.rd {B n c : Nat} {w : World} {a : Option Addr} {l : List Ky} (h : RK B w a n c l) : RdK w (fun k => B ≤ k) (.slice a n c) l := by
  obtain ⟨N, lf, h1, h2, rfl⟩ := h
  exact RdK.take h1.rd h2
theorem RK.cut {B n c m : Nat} {w : World} {a : Option Addr} {l : List Ky} (h : RK B w a n c l) (hm : m ≤ n) : RK B w a m c (l.take m) := by
  obtain ⟨N, lf, h1, h2, rfl⟩ := h
  exact ⟨N, lf, h1, by omega, by rw [List.take_take, Nat.min_eq_left hm]⟩
theorem RK.on {B n c : Nat} {w w' : World} {a : Option Addr} {l : List Ky} {row : Option Nat} (h : RK B w a n c l) (hg : w.grownBy w' row) (hr : ∀ k, row = some k → (Value.slice a n c).ownBlock ≠ some k) : RK B w' a n c l := by
  obtain ⟨N, lf, h1, h2, rfl⟩ := h
  exact ⟨N, lf, h1.on hg (fun k hk => by rw [ob a N c n c]; exact hr k hk), h2, rfl⟩
theorem RK.keep {B n c : Nat} {w w' : World} {a : Option Addr} {l : List Ky} (h : RK B w a n c l) (hg : w.grownBy w' none) : RK B w' a n c l := h.on hg (fun k hk => by cases hk)
theorem RK.low {B n c : Nat} {w : World} {a : Option Addr} {l : List Ky} (h : RK B w a n c l) {k : Nat} (hk : (Value.slice a n c).ownBlock = some k) : B ≤ k ∧ k < w.heap.size ∧ ∃ cs, w.heap[k]? = some (.cells cs 107 (0, 0)) := by
  obtain ⟨N, lf, h1, h2, rfl⟩ := h
  exact own_block h1.2 (by rw [ob a N c n c]; exact hk)
theorem OutK.kk {B C : Nat} {w w' : World} {v o : Value} {l : List Ky} (h : OutK B w v l) (hk : KK w w' C o) (hne : ∀ k, v.ownBlock = some k → o.ownBlock ≠ some k) : OutK B w' v l := by
  refine ⟨h.1, ?_⟩
  rcases h.2 with ⟨hl, h1 | ⟨g, cap, cur, hv, hB, hg, hle, hm, hs, ht⟩⟩
  · exact ⟨hl, .inl h1⟩
  · refine ⟨hl, .inr ⟨g, cap, cur, hv, hB, ?_, hle, hm, hs, ht⟩⟩
    rw [hk.2 g cur 107 hg (by decide) (by decide) (by decide) (hne g (by rw [hv]; rfl))]
    exact hg
theorem RK.kk {B C n c : Nat} {w w' : World} {a : Option Addr} {o : Value} {l : List Ky} (h : RK B w a n c l) (hk : KK w w' C o) (hne : ∀ k, (Value.slice a n c).ownBlock = some k → o.ownBlock ≠ some k) : RK B w' a n c l := by
  obtain ⟨N, lf, h1, h2, rfl⟩ := h
  exact ⟨N, lf, OutK.kk h1 hk (fun k hk => hne k (by rw [ob a n c N c]; exact hk)), h2, rfl⟩
theorem Blk.kk {C b t : Nat} {w w' : World} {o : Value} {cs : List Value} (h : Blk w b cs t) (hk : KK w w' C o) (ht : t ≠ 50 ∧ t ≠ 55 ∧ t ≠ 3) (hne : o.ownBlock ≠ some b) : Blk w' b cs t :=
  (hk.2 b _ t h ht.1 ht.2.1 ht.2.2 hne).trans h
/-- The seat's Ring as two changes, one behind the other. -/
theorem KS.split {w w' : World} {sb : Nat} {v : Value} (h : KS w w' sb v) (hb : sb < w.heap.size) : ∃ wm, w.grownBy wm (some sb) ∧ wm.grownBy w' v.ownBlock ∧ wm.heap.size = w.heap.size := by
  have hb2 : sb < w'.heap.size := Nat.lt_of_lt_of_le hb h.size
  refine ⟨{ w with heap := w.heap.setIfInBounds sb (w'.heap[sb]'hb2) }, ⟨rfl, rfl, rfl, by simp, fun k hk hne => ?_⟩, ⟨h.os, h.tape, h.output, by simpa using h.size, fun k hk hne => ?_⟩, by simp⟩
  · have : sb ≠ k := fun e => hne (by rw [e])
    simp [this]
  · have hk' : k < w.heap.size := by simpa using hk
    by_cases e : sb = k
    · subst e
      simp [hb, hb2]
    · rw [show (({ w with heap := w.heap.setIfInBounds sb (w'.heap[sb]'hb2) } : World).heap[k]?) = w.heap[k]? by simp [e]]
      exact h.block k hk' (fun x => e x.symm) (fun x => hne x.symm)
theorem BkS.ks {w w' : World} {B bk T L sb : Nat} {v : Value} {cs : List Value} {lk : List Ky} (h : BkS w B bk T L (fun k => v.ownBlock = some k)) (hs : Blk w sb cs 66) (hv : OutK B w v lk) (hk : KS w w' sb v) : BkS w' B bk T L (fun k => v.ownBlock = some k) := by
  obtain ⟨wm, g1, g2, e⟩ := hk.split hs.lt
  have h1 := h.one hs (by decide) (fun e => by cases e) g1
  cases hv' : v.ownBlock with
  | none => rw [hv'] at g2 h1; exact h1.grown g2
  | some r =>
    obtain ⟨_, _, cr, hcr⟩ := own_block hv.2 hv'
    have hcm : wm.heap[r]? = some (.cells cr 107 (0, 0)) := by
      rw [g1.block r (Array.getElem?_eq_some_iff.1 hcr).1 (fun e => ?_)]
      · exact hcr
      · injection e with e
        subst e
        have h9 := hs
        unfold Blk at h9
        rw [hcr] at h9
        injection h9 with h9
        injection h9 with _ h9
        cases h9
    rw [hv'] at g2 h1
    exact h1.one hcm (by decide) (fun _ => .inr rfl) g2
set_option maxRecDepth 100000 in
set_option maxHeartbeats 1600000 in
theorem BkS.keysX {w : World} {B bk T L : Nat} {X X' : Nat → Prop} (h : BkS w B bk T L X) {o : Value} {l : List Ky} (ho : OutK B w o l) (hl : l.length ≤ 1000000) (hT : T ≤ 549755813888) (hL : ∀ b, o.ownBlock = some b → (L ≤ b ∨ X b) ∧ ¬ X' b) (hX : ∀ b, X' b → X b) {M : Nat} (hM : ∀ b, o.ownBlock = some b → b < M) :
    Calls Try.prog 44 #[.pointer (some ⟨bk, 0, none⟩), o] w fun e w' => e = .returned (.tuple #[]) ∧ BkS w' B bk (T + 1) (max L M) X' ∧ KK w w' B o := by
  obtain ⟨v0, v1, D, U, gs, ms, h1, h2, h3, h4, h5, h6, h7⟩ := h
  have hn : gs.length ≤ 1048575 := by omega
  refine (keys_any w B bk 0 T v0 v1 o D U gs ms l h1 h5 h6 ho.1.len ho.2 hl hT h2 h3 hn (fun j g' hj => ?_)).mono ?_
  · cases hg : g'.ownBlock with
    | none => exact .inl hg
    | some x =>
      refine .inr (fun e => ?_)
      rw [hg] at e
      have h8 := h7 j g' hj x hg
      rcases (hL x e.symm).1 with h9 | h9
      · omega
      · exact h8.2 h9
  · rintro e w' ⟨rfl, v0', v1', gs', ms', U', hS, hu0, hu1, hcase, hK, _⟩
    refine ⟨rfl, ⟨v0', v1', D, U', gs', ms', hS, hu0, hu1, ?_, h5, Nat.le_trans h6 hK.below.size, ?_⟩, hK.below, ?_⟩
    · rcases hcase with ⟨rfl, rfl⟩ | ⟨rfl, rfl⟩
      · exact h4
      · rw [List.length_append]
        simp only [List.length_cons, List.length_nil]
        omega
    · intro j g' hj b hb
      rcases hcase with ⟨rfl, _⟩ | ⟨rfl, _⟩
      · have h8 := h7 j g' hj b hb
        exact ⟨by omega, fun q => h8.2 (hX b q)⟩
      · by_cases hjl : j < gs.length
        · rw [List.getElem?_append_left hjl] at hj
          have h8 := h7 j g' hj b hb
          exact ⟨by omega, fun q => h8.2 (hX b q)⟩
        · rw [List.getElem?_append_right (by omega)] at hj
          have hj2 : j = gs.length := by
            have := (List.getElem?_eq_some_iff.1 hj).1
            simp at this
            omega
          subst hj2
          simp at hj
          subst hj
          have h8 := hM b hb
          exact ⟨by omega, (hL b hb).2⟩
    · intro b cs t hb t1 t2 t3 hob
      obtain ⟨cb, hcb⟩ := bkc_block h1.cells
      refine hK.block b (Array.getElem?_eq_some_iff.1 hb).1 (fun e => ?_) (own_neT h1.row0 hb t2) (own_neT h1.row1 hb t3) hob
      subst e
      rw [hb] at hcb
      injection hcb with q1
      injection q1 with q1 q2
      exact t1 q2
set_option maxRecDepth 100000 in
set_option maxHeartbeats 1600000 in
/-- The book takes a ring. -/
theorem BkS.ringX {w : World} {B bk T L : Nat} {X X' : Nat → Prop} (h : BkS w B bk T L X) {a : Option Addr} {n c : Nat} {nx : Int} {l : List Ky} (ho : OutK B w (.slice a n c) l) (hl : l.length ≤ 1000000) (hT : T ≤ 549755813888) (hL : ∀ b, (Value.slice a n c).ownBlock = some b → (L ≤ b ∨ X b) ∧ ¬ X' b) (hX : ∀ b, X' b → X b) :
    Calls Try.prog 23 #[.pointer (some ⟨bk, 0, none⟩), .agg #[.slice a n c, .int .u64 nx]] w fun e w' => e = .returned (.tuple #[]) ∧ BkS w' B bk (T + 1) (max L w.heap.size) X' ∧ KK w w' B (.slice a n c) := by
  have HKy : Hid (∀ u, u.heap.size = w.heap.size + 1 → w.grownBy u none → Calls Try.prog 44 #[.pointer (some ⟨bk, 0, none⟩), .slice a n c] u fun e w' => e = .returned (.tuple #[]) ∧ BkS w' B bk (T + 1) (max L w.heap.size) X' ∧ KK u w' B (.slice a n c)) := hid (fun u hu hg => by
    exact (h.grown hg).keysX (ho.keep hg) hl hT hL hX (fun b hb => (ho.2.lt b hb).2))
  have HB : Hid (B ≤ w.heap.size) := hid (by obtain ⟨v0, v1, D, U, gs, ms, h1, h2, h3, h4, h5, h6, h7⟩ := h; exact h6)
  clear h ho hL
  go_enter Try.func23, Try.ntmps23
  go_wp2_with (first
    | ((with_reducible refine wpList_box_row (by with_unfolding_all rfl) 69 _ (by with_unfolding_all rfl) [.slice a n c, .int .u64 nx] (by with_unfolding_all rfl) ?_); intro w1 B1 s1 g1; have HB1 := hid B1; have HG1 := hid g1; have HS1 := hid s1; have hc0 : w1.cell? ⟨w.heap.size, 0, none⟩ = some (.slice a n c) := HB1.out.cell 0; clear B1 g1 s1)
    | (go_at_call 44; refine (HKy.out w1 (by have h9 := HS1.out; omega) HG1.out).mono ?_; rintro e w2 ⟨rfl, hb, hk⟩))
  go_end0
  exact ⟨rfl, hb, ((gbelow HG1.out).mono HB.out).trans hk.1, fun b cs t h1 h2 h3 h4 h5 => by
    have h8 := HG1.out.block b (Array.getElem?_eq_some_iff.1 h1).1 (by simp)
    rw [hk.2 b cs t (by rw [h8]; exact h1) h2 h3 h4 h5, h8]⟩
/-- What stands in the midst of a round: the book, the seat, the ring that there is (at p5), the step (at pS), the ring that is wanted (at p8). -/
structure JS (w u : World) (bk sb p5 p8 pS T L : Nat) (X : Nat → Prop) (ra : Option Addr) (rn rc nx : Nat) (l : List Ky) (va : Option Addr) (vn vc : Nat) (lk : List Ky) (cs : List Value) (wa : Option Addr) (wn wc wx : Nat) (lw : List Ky) (SC : List Value) : Prop where
  grown : w.grownBy u none
  book : BkS u w.heap.size bk T L X
  seat : Blk u sb cs 66
  c4 : cs[4]? = some (.slice va vn vc)
  row : OutK w.heap.size u (.slice va vn vc) lk
  r : Blk u p5 [.slice ra rn rc, .int .u64 nx] 69
  keys : RK w.heap.size u ra rn rc l
  s : Blk u pS SC 72
  w8 : Blk u p8 [.slice wa wn wc, .int .u64 wx] 69
  wk : RK w.heap.size u wa wn wc lw
  new : w.heap.size ≤ sb ∧ w.heap.size ≤ p5 ∧ w.heap.size ≤ p8 ∧ p5 ≠ p8
  ra : ∀ k, (Value.slice ra rn rc).ownBlock = some k → (Value.slice va vn vc).ownBlock ≠ some k
  wa : ∀ k, (Value.slice wa wn wc).ownBlock = some k → (Value.slice va vn vc).ownBlock ≠ some k
variable {w u u' : World} {bk sb p5 p8 pS T L : Nat} {X : Nat → Prop} {ra : Option Addr} {rn rc nx : Nat} {l : List Ky} {va : Option Addr} {vn vc : Nat} {lk : List Ky} {cs : List Value} {wa : Option Addr} {wn wc wx : Nat} {lw : List Ky} {SC : List Value}
theorem JS.keep (h : JS w u bk sb p5 p8 pS T L X ra rn rc nx l va vn vc lk cs wa wn wc wx lw SC) (g : u.grownBy u' none) : JS w u' bk sb p5 p8 pS T L X ra rn rc nx l va vn vc lk cs wa wn wc wx lw SC :=
  ⟨gtrans h.grown g, h.book.grown g, h.seat.keep g, h.c4, h.row.keep g, h.r.keep g, h.keys.keep g, h.s.keep g, h.w8.keep g, h.wk.keep g, h.new, h.ra, h.wa⟩
/-- A row of keys that is not among these is written over. -/
theorem JS.over {b : Nat} {cb : Array Value} (h : JS w u bk sb p5 p8 pS T L X ra rn rc nx l va vn vc lk cs wa wn wc wx lw SC) (hb : u.heap[b]? = some (.cells cb 107 (0, 0))) (g : u.grownBy u' (some b)) (hB : w.heap.size ≤ b) (hL : L ≤ b) (h1 : (Value.slice va vn vc).ownBlock ≠ some b) (h2 : (Value.slice ra rn rc).ownBlock ≠ some b) (h3 : (Value.slice wa wn wc).ownBlock ≠ some b) : JS w u' bk sb p5 p8 pS T L X ra rn rc nx l va vn vc lk cs wa wn wc wx lw SC := by
  have ne : ∀ {q t : Nat} {c : List Value}, Blk u q c t → t ≠ 107 → some b ≠ some q := fun hq ht e => by
    injection e with e
    subst e
    unfold Blk at hq
    rw [hb] at hq
    injection hq with hq
    injection hq with _ hq
    exact ht hq.symm
  exact ⟨h.grown.andThen g (fun j hj => .inl (by injection hj with hj; omega)), h.book.one hb (by decide) (fun _ => .inl hL) g, h.seat.on g (ne h.seat (by decide)), h.c4, h.row.on g (fun k hk => by injection hk with hk; subst hk; exact h1), h.r.on g (ne h.r (by decide)), h.keys.on g (fun k hk => by injection hk with hk; subst hk; exact h2), h.s.on g (ne h.s (by decide)), h.w8.on g (ne h.w8 (by decide)), h.wk.on g (fun k hk => by injection hk with hk; subst hk; exact h3), h.new, h.ra, h.wa⟩
/-- The book has taken a ring. -/
theorem JS.kk {o : Value} {T' L' : Nat} {X' : Nat → Prop} (h : JS w u bk sb p5 p8 pS T L X ra rn rc nx l va vn vc lk cs wa wn wc wx lw SC) (hk : KK u u' w.heap.size o) (hb : BkS u' w.heap.size bk T' L' X') {D : Nat} {lo : List Ky} (ho : OutK D u o lo) (h1 : ∀ k, o.ownBlock = some k → (Value.slice va vn vc).ownBlock ≠ some k ∧ (Value.slice ra rn rc).ownBlock ≠ some k ∧ (Value.slice wa wn wc).ownBlock ≠ some k) : JS w u' bk sb p5 p8 pS T' L' X' ra rn rc nx l va vn vc lk cs wa wn wc wx lw SC := by
  have ne : ∀ {q t : Nat} {c : List Value}, Blk u q c t → t ≠ 107 → o.ownBlock ≠ some q := fun hq ht e => ho.ne_blk hq ht _ e rfl
  exact ⟨gof ((gbelow h.grown).trans hk.1) none, hb, Blk.kk h.seat hk (by decide) (ne h.seat (by decide)), h.c4, OutK.kk h.row hk (fun k e e2 => (h1 k e2).1 e), Blk.kk h.r hk (by decide) (ne h.r (by decide)), h.keys.kk hk (fun k e e2 => (h1 k e2).2.1 e), Blk.kk h.s hk (by decide) (ne h.s (by decide)), Blk.kk h.w8 hk (by decide) (ne h.w8 (by decide)), h.wk.kk hk (fun k e e2 => (h1 k e2).2.2 e), h.new, h.ra, h.wa⟩
/-- What is wanted is the ring that there was. -/
theorem JS.back (h : JS w u bk sb p5 p8 pS T L X ra rn rc nx l va vn vc lk cs wa wn wc wx lw SC) (hb : Blk u' p8 [.slice ra rn rc, .int .u64 nx] 69) (g : u.grownBy u' (some p8)) : JS w u' bk sb p5 p8 pS T L X ra rn rc nx l va vn vc lk cs ra rn rc nx l SC := by
  have o8 : ∀ {C : Nat} {v : Value} {x : List Ky}, OutK C u v x → OutK C u' v x := fun ho => ho.offB g h.w8 (by decide)
  have k8 : ∀ k, (Value.slice ra rn rc).ownBlock = some k → some p8 ≠ some k := fun k e e2 => by
    injection e2 with e2
    subst e2
    obtain ⟨_, _, c, hc⟩ := h.keys.low e
    have h9 := h.w8
    unfold Blk at h9
    rw [hc] at h9
    injection h9 with h9
    injection h9 with _ h9
    cases h9
  have hk := h.keys.on g (fun k hk e => k8 k e hk)
  exact ⟨h.grown.andThen g (fun j hj => .inl (by injection hj with hj; have := h.new.2.2.1; omega)), h.book.one h.w8 (by decide) (fun e => by cases e) g, h.seat.on g (fun e => by
    injection e with e
    have h1 := h.seat
    have h2 := h.w8
    rw [e] at h2
    have := (Blk.agree h1 h2).2
    cases this), h.c4, o8 h.row, h.r.on g (fun e => by injection e with e; exact h.new.2.2.2 e.symm), hk, h.s.on g (fun e => by
    injection e with e
    have h1 := h.s
    have h2 := h.w8
    rw [e] at h2
    have := (Blk.agree h1 h2).2
    cases this), hb, hk, h.new, h.ra, h.ra⟩
/-- The ring that there is is the one that was wanted. -/
theorem JS.take (h : JS w u bk sb p5 p8 pS T L X ra rn rc nx l va vn vc lk cs wa wn wc wx lw SC) (hb : Blk u' p5 [.slice wa wn wc, .int .u64 wx] 69) (g : u.grownBy u' (some p5)) : JS w u' bk sb p5 p8 pS T L X wa wn wc wx lw va vn vc lk cs wa wn wc wx lw SC := by
  have o5 : ∀ {C : Nat} {v : Value} {x : List Ky}, OutK C u v x → OutK C u' v x := fun ho => ho.offB g h.r (by decide)
  have k5 : ∀ k, (Value.slice wa wn wc).ownBlock = some k → some p5 ≠ some k := fun k e e2 => by
    injection e2 with e2
    subst e2
    obtain ⟨_, _, c, hc⟩ := h.wk.low e
    have h9 := h.r
    unfold Blk at h9
    rw [hc] at h9
    injection h9 with h9
    injection h9 with _ h9
    cases h9
  have hk := h.wk.on g (fun k hk e => k5 k e hk)
  exact ⟨h.grown.andThen g (fun j hj => .inl (by injection hj with hj; have := h.new.2.1; omega)), h.book.one h.r (by decide) (fun e => by cases e) g, h.seat.on g (fun e => by
    injection e with e
    have h1 := h.seat
    have h2 := h.r
    rw [e] at h2
    have := (Blk.agree h1 h2).2
    cases this), h.c4, o5 h.row, hb, hk, h.s.on g (fun e => by
    injection e with e
    have h1 := h.s
    have h2 := h.r
    rw [e] at h2
    have := (Blk.agree h1 h2).2
    cases this), h.w8.on g (fun e => by injection e with e; exact h.new.2.2.2 e), hk, h.new, h.wa, h.wa⟩
/-- What stands between two rounds. -/
structure SS (w u : World) (bk sb p5 T : Nat) (ra : Option Addr) (rn rc nx : Nat) (l : List Ky) (va : Option Addr) (vn vc : Nat) (lk : List Ky) (cs : List Value) : Prop where
  grown : w.grownBy u none
  book : BkS u w.heap.size bk T u.heap.size (fun k => (Value.slice va vn vc).ownBlock = some k)
  seat : Blk u sb cs 66
  c4 : cs[4]? = some (.slice va vn vc)
  row : OutK w.heap.size u (.slice va vn vc) lk
  r : Blk u p5 [.slice ra rn rc, .int .u64 nx] 69
  keys : RK w.heap.size u ra rn rc l
  new : w.heap.size ≤ sb ∧ w.heap.size ≤ p5
  ra : ∀ k, (Value.slice ra rn rc).ownBlock = some k → (Value.slice va vn vc).ownBlock ≠ some k
/-- The keys stay where the seat takes another ring. -/
theorem JS.rd (h : JS w u bk sb p5 p8 pS T L X ra rn rc nx l va vn vc lk cs wa wn wc wx lw SC) (hk : KS u u' sb (.slice va vn vc)) : RK w.heap.size u' ra rn rc l := by
  obtain ⟨wm, g1, g2, e⟩ := hk.split h.seat.lt
  refine (h.keys.on g1 (fun k hk e => ?_)).on g2 (fun k hk e => h.ra k e hk)
  injection hk with hk
  subst hk
  obtain ⟨_, _, c, hc⟩ := h.keys.low e
  have h9 := h.seat
  unfold Blk at h9
  rw [hc] at h9
  injection h9 with h9
  injection h9 with _ h9
  cases h9
theorem JS.done {na : Option Addr} {nn nc : Nat} {ln : List Ky} (h : JS w u bk sb p5 p8 pS T L (fun k => (Value.slice va vn vc).ownBlock = some k) ra rn rc nx l va vn vc lk cs wa wn wc wx lw SC) (hL : L ≤ u.heap.size) (hk : KS u u' sb (.slice va vn vc)) (hs : Blk u' sb (cs.set 4 (.slice na nn nc)) 66) (ho : OutK w.heap.size u' (.slice na nn nc) ln)
    (hat : (Value.slice na nn nc).ownBlock = (Value.slice va vn vc).ownBlock ∨ ∃ k, u.heap.size ≤ k ∧ (Value.slice na nn nc).ownBlock = some k) : SS w u' bk sb p5 T ra rn rc nx l na nn nc ln (cs.set 4 (.slice na nn nc)) := by
  have hkeys := h.rd hk
  obtain ⟨wm, g1, g2, e⟩ := hk.split h.seat.lt
  have h5 : Blk u' p5 [.slice ra rn rc, .int .u64 nx] 69 := by
    refine (h.r.on g1 (fun e => ?_)).on g2 (fun e => h.row.ne_blk h.r (by decide) _ e rfl)
    injection e with e
    have h1 := h.seat
    have h2 := h.r
    rw [← e] at h2
    have := (Blk.agree h1 h2).2
    cases this
  refine ⟨?_, ?_, hs, ?_, ho, h5, hkeys, ⟨h.new.1, h.new.2.1⟩, fun k hk' e => ?_⟩
  · refine (h.grown.andThen g1 (fun j hj => .inl (by injection hj with hj; have := h.new.1; omega))).andThen g2 (fun j hj => .inl ?_)
    exact (own_block h.row.2 hj).1
  · refine ((h.book.ks h.seat h.row hk).other (X' := fun k => (Value.slice na nn nc).ownBlock = some k) (fun b hb hx => ?_)).up (Nat.le_trans hL hk.size)
    rcases hat with h1 | ⟨k, h1, h2⟩
    · rw [← h1]; exact hx
    · rw [h2] at hx
      injection hx with hx
      omega
  · rw [List.getElem?_set_self (List.getElem?_eq_some_iff.1 h.c4).1]
  · rcases hat with h1 | ⟨q, h1, h2⟩
    · exact h.ra k hk' (h1.symm.trans e)
    · have := (h.keys.low hk').2.1
      rw [h2] at e
      injection e with e
      omega
theorem SS.js (h : SS w u bk sb p5 T ra rn rc nx l va vn vc lk cs) (g : u.grownBy u' none) (hs : Blk u' pS SC 72) (hw : Blk u' p8 [.slice ra rn rc, .int .u64 nx] 69) (hn : u.heap.size ≤ p8) : JS w u' bk sb p5 p8 pS T u.heap.size (fun k => (Value.slice va vn vc).ownBlock = some k) ra rn rc nx l va vn vc lk cs ra rn rc nx l SC :=
  ⟨gtrans h.grown g, h.book.grown g, h.seat.keep g, h.c4, h.row.keep g, h.r.keep g, h.keys.keep g, hs, hw, h.keys.keep g, ⟨h.new.1, h.new.2, Nat.le_trans h.grown.size hn, by have := h.r.lt; omega⟩, h.ra, h.ra⟩
/-- Another ring is wanted. -/
theorem SS.js2 (h : SS w u bk sb p5 T ra rn rc nx l va vn vc lk cs) (g : u.grownBy u' none) (hs : Blk u' pS SC 72) (hw : Blk u' p8 [.slice wa wn wc, .int .u64 wx] 69) (hn : u.heap.size ≤ p8) (hk : RK u.heap.size u' wa wn wc lw) : JS w u' bk sb p5 p8 pS T u.heap.size (fun k => (Value.slice va vn vc).ownBlock = some k) ra rn rc nx l va vn vc lk cs wa wn wc wx lw SC :=
  ⟨gtrans h.grown g, h.book.grown g, h.seat.keep g, h.c4, h.row.keep g, h.r.keep g, h.keys.keep g, hs, hw, by
    obtain ⟨N, lf, h1, h2, h3⟩ := hk
    exact ⟨N, lf, h1.below h.grown.size, h2, h3⟩, ⟨h.new.1, h.new.2, Nat.le_trans h.grown.size hn, by have := h.r.lt; omega⟩, h.ra, fun k e e2 => by
    have h1 := (hk.low e).1
    have h2 := (own_block h.row.2 e2).2.1
    omega⟩
/-- The book takes what was got; the twin's row is none of its own. -/
theorem JS.got {s0 : Nat} {ga : Option Addr} {gn gc gx : Nat} {lg : List Ky} {ta : Option Addr} {tn tc : Nat} (h : JS w u bk sb p5 p8 pS T s0 (fun k => (Value.slice va vn vc).ownBlock = some k) ra rn rc nx l va vn vc lk cs wa wn wc wx lw SC) (hs : s0 ≤ u.heap.size) (ho : OutK w.heap.size u (.slice ga gn gc) lg) (hl : lg.length ≤ 1000000) (hT : T ≤ 549755813888)
    (hg : ∀ k, (Value.slice ga gn gc).ownBlock = some k → s0 ≤ k ∧ (Value.slice ta tn tc).ownBlock ≠ some k ∧ (Value.slice wa wn wc).ownBlock ≠ some k) (ht : ∀ k, (Value.slice ta tn tc).ownBlock = some k → s0 ≤ k) (hv : ∀ k, (Value.slice va vn vc).ownBlock = some k → k < s0) (hr : ∀ k, (Value.slice ra rn rc).ownBlock = some k → k < s0) :
    Calls Try.prog 23 #[.pointer (some ⟨bk, 0, none⟩), .agg #[.slice ga gn gc, .int .u64 gx]] u fun e u' => e = .returned (.tuple #[]) ∧ JS w u' bk sb p5 p8 pS (T + 1) u.heap.size (fun k => (Value.slice va vn vc).ownBlock = some k ∨ (Value.slice ta tn tc).ownBlock = some k) ra rn rc nx l va vn vc lk cs wa wn wc wx lw SC ∧ KK u u' w.heap.size (.slice ga gn gc) := by
  have hb := h.book.other (X' := fun k => (Value.slice va vn vc).ownBlock = some k ∨ (Value.slice ta tn tc).ownBlock = some k) (fun b hb hx => by
    rcases hx with hx | hx
    · exact hx
    · have := ht b hx; omega)
  refine (hb.ringX (X' := fun k => (Value.slice va vn vc).ownBlock = some k ∨ (Value.slice ta tn tc).ownBlock = some k) ho hl hT (fun b hx => ⟨.inl (hg b hx).1, fun q => ?_⟩) (fun _ q => q)).mono ?_
  · rcases q with q | q
    · have := hv b q; have := (hg b hx).1; omega
    · exact (hg b hx).2.1 q
  · rintro e u' ⟨rfl, h1, h2⟩
    rw [Nat.max_eq_right hs] at h1
    exact ⟨rfl, h.kk h2 h1 ho (fun k hk => ⟨fun q => by have := hv k q; have := (hg k hk).1; omega, fun q => by have := hr k q; have := (hg k hk).1; omega, (hg k hk).2.2⟩), h2⟩
/-- The book takes the twin. -/
theorem JS.twin {s0 s1 : Nat} {ta : Option Addr} {tn tc gx : Nat} {lg : List Ky} (h : JS w u bk sb p5 p8 pS T s1 (fun k => (Value.slice va vn vc).ownBlock = some k ∨ (Value.slice ta tn tc).ownBlock = some k) ra rn rc nx l va vn vc lk cs wa wn wc wx lw SC) (hs : s1 ≤ u.heap.size) (ho : OutK w.heap.size u (.slice ta tn tc) lg) (hl : lg.length ≤ 1000000) (hT : T ≤ 549755813888)
    (ht : ∀ k, (Value.slice ta tn tc).ownBlock = some k → s0 ≤ k ∧ (Value.slice wa wn wc).ownBlock ≠ some k) (hv : ∀ k, (Value.slice va vn vc).ownBlock = some k → k < s0) (hr : ∀ k, (Value.slice ra rn rc).ownBlock = some k → k < s0) :
    Calls Try.prog 23 #[.pointer (some ⟨bk, 0, none⟩), .agg #[.slice ta tn tc, .int .u64 gx]] u fun e u' => e = .returned (.tuple #[]) ∧ JS w u' bk sb p5 p8 pS (T + 1) u.heap.size (fun k => (Value.slice va vn vc).ownBlock = some k) ra rn rc nx l va vn vc lk cs wa wn wc wx lw SC ∧ KK u u' w.heap.size (.slice ta tn tc) := by
  refine (h.book.ringX (X' := fun k => (Value.slice va vn vc).ownBlock = some k) ho hl hT (fun b hx => ⟨.inr (.inr hx), fun q => ?_⟩) (fun _ q => .inl q)).mono ?_
  · have := hv b q; have := (ht b hx).1; omega
  · rintro e u' ⟨rfl, h1, h2⟩
    rw [Nat.max_eq_right hs] at h1
    exact ⟨rfl, h.kk h2 h1 ho (fun k hk => ⟨fun q => by have := hv k q; have := (ht k hk).1; omega, fun q => by have := hr k q; have := (ht k hk).1; omega, (ht k hk).2⟩), h2⟩
def zbk : List Value := (List.range 75).map (bkF (.slice none 0 0) (.slice none 0 0) 0 0 0 0)
theorem built50 : Try.prog.built 50 [] = some zbk.toArray := by kernel_rfl
theorem built66 : Try.prog.built 66 [] = some (List.replicate 14 (Value.slice none 0 0)).toArray := by kernel_rfl
/-- A new book. -/
theorem BkS.new {w : World} {B bk L : Nat} {X : Nat → Prop} (h : Blk w bk zbk 50) (hB : B ≤ bk) : BkS w B bk 0 L X := by
  refine ⟨.slice none 0 0, .slice none 0 0, 0, 0, [], [], ⟨⟨zbk.toArray, h, by simp [zbk], fun i hi => by simp [zbk, hi]⟩, World.ownsRow_nil _ _ _ _, World.ownsRow_nil _ _ _ _, fun i g m hg => by simp at hg, fun m hm => by simp at hm, fun i g m _ h => by simp at h, fun i g b hg => by simp at hg⟩, by decide, by decide, by decide, hB, by have := h.lt; omega, fun j g hg => by simp at hg⟩
theorem rotR_41 (l : List Ky) (nx : Nat) (sec : List UInt8) (At : Int) : (rotR l nx sec At).1.length ≤ 41 := by
  unfold rotR
  split
  · rename_i h
    have hr : isRing l nx = true := by
      unfold rotE at h
      by_cases e : isRing l nx = true
      · exact e
      · rw [if_neg e] at h; omega
    have := goodL_pos (isRing_good hr).1
    show (rotL l nx sec At).length ≤ 41
    unfold rotL
    rw [len_snoc, List.length_set]
    omega
  · simp
theorem prn_41 (l : List Ky) (nx : Nat) (now : Int) : (prn l nx now).1.length ≤ 41 := by
  unfold prn
  split
  · rename_i h
    have := goodL_pos (isRing_good h).1
    have h2 := List.length_filter_le (fun k => !goesP now k) l
    show (l.filter _).length ≤ 41
    omega
  · simp
theorem disR_41 (l : List Ky) (nx kid : Nat) (sec : List UInt8) : (disR l nx kid sec).1.length ≤ 41 := by
  by_cases hr : isRing l nx = true
  · have := goodL_pos (isRing_good hr).1
    have h2 := disR_len l nx kid sec
    omega
  · have : disE l nx kid = 50 := by unfold disE; rw [if_neg hr]
    unfold disR
    rw [this, if_neg (by decide)]
    simp
end Go.Proofs.Ytmpcpakdocaieaa.Bk
