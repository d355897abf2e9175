/- RevokeExact's state: the list that there is, the book, the seat; and within a round. -/
import Derived.Test.YtlgjmhemgfjgnaaGreatYE
import Derived.Test.YtlgjmhemgfjgnaaGreatYF
namespace Go.Proofs.YtlgjmhemgfjgnaaGreat.Bk
open Go Go.RowKit
open Go.RowKit (wrap32 wrap64)

/-- Between rounds. -/
structure SR (w u : World) (bk sb T : Nat) (la : Option Addr) (ln lc : Nat) (l : List Ky) (va : Option Addr) (vn vc : Nat) (lk : List Ky) (cs : List Value) : Prop where
  grown : w.grownBy u none
  book : BkS u w.heap.size bk T u.heap.size (fun k => (Value.slice va vn vc).ownBlock = some k)
  seat : Blk u sb cs 66
  c6 : cs[6]? = some (.slice va vn vc)
  row : OutK w.heap.size u (.slice va vn vc) lk
  keys : RK w.heap.size u la ln lc l
  new : w.heap.size ≤ sb
  ra : ∀ k, (Value.slice la ln lc).ownBlock = some k → (Value.slice va vn vc).ownBlock ≠ some k
/-- Within a round. -/
structure QR (w u : World) (bk sb p7 T L : Nat) (X : Nat → Prop) (la : Option Addr) (ln lc : Nat) (l : List Ky) (va : Option Addr) (vn vc : Nat) (lk : List Ky) (cs OC : List Value) (wa : Option Addr) (wn wc : Nat) (lw : List Ky) : Prop where
  grown : w.grownBy u none
  book : BkS u w.heap.size bk T L X
  seat : Blk u sb cs 66
  c6 : cs[6]? = some (.slice va vn vc)
  row : OutK w.heap.size u (.slice va vn vc) lk
  keys : RK w.heap.size u la ln lc l
  s : Blk u p7 OC 71
  wk : RK w.heap.size u wa wn wc lw
  new : w.heap.size ≤ sb ∧ w.heap.size ≤ p7
  ra : ∀ k, (Value.slice la ln lc).ownBlock = some k → (Value.slice va vn vc).ownBlock ≠ some k
  wa : ∀ k, (Value.slice wa wn wc).ownBlock = some k → (Value.slice va vn vc).ownBlock ≠ some k
section
variable {w u u' : World} {bk sb p7 T L : Nat} {X : Nat → Prop} {la : Option Addr} {ln lc : Nat} {l : List Ky} {va : Option Addr} {vn vc : Nat} {lk : List Ky} {cs OC : List Value} {wa : Option Addr} {wn wc : Nat} {lw : List Ky}
theorem SR.keep (h : SR w u bk sb T la ln lc l va vn vc lk cs) (g : u.grownBy u' none) : SR w u' bk sb T la ln lc l va vn vc lk cs :=
  ⟨gtrans h.grown g, (h.book.grown g).up g.size, h.seat.keep g, h.c6, h.row.keep g, h.keys.keep g, h.new, h.ra⟩
theorem SR.list {na : Option Addr} {nn nc : Nat} {ln' : List Ky} (h : SR w u bk sb T la ln lc l va vn vc lk cs) (g : u.grownBy u' none) (hk : RK u.heap.size u' na nn nc ln') : SR w u' bk sb T na nn nc ln' va vn vc lk cs := by
  have h2 := h.keep g
  obtain ⟨N, lf, h1, h3, h4⟩ := hk
  refine ⟨h2.grown, h2.book, h2.seat, h2.c6, h2.row, ⟨N, lf, h1.below h.grown.size, h3, h4⟩, h2.new, fun k e e2 => ?_⟩
  have q1 := (RK.low (⟨N, lf, h1, h3, h4⟩ : RK u.heap.size u' na nn nc ln') e).1
  have q2 := (own_block h.row.2 e2).2.1
  omega
theorem SR.qr (h : SR w u bk sb T la ln lc l va vn vc lk cs) (g : u.grownBy u' none) (hs : Blk u' p7 OC 71) (hn : w.heap.size ≤ p7) (hk : RK u.heap.size u' wa wn wc lw) : QR w u' bk sb p7 T u.heap.size (fun k => (Value.slice va vn vc).ownBlock = some k) la ln lc l va vn vc lk cs OC wa wn wc lw := by
  refine ⟨gtrans h.grown g, h.book.grown g, h.seat.keep g, h.c6, h.row.keep g, h.keys.keep g, hs, ?_, ⟨h.new, hn⟩, h.ra, fun k e e2 => ?_⟩
  · obtain ⟨N, lf, h1, h2, h3⟩ := hk
    exact ⟨N, lf, h1.below h.grown.size, h2, h3⟩
  · have h1 := (hk.low e).1
    have h2 := (own_block h.row.2 e2).2.1
    omega
theorem QR.keep (h : QR w u bk sb p7 T L X la ln lc l va vn vc lk cs OC wa wn wc lw) (g : u.grownBy u' none) : QR w u' bk sb p7 T L X la ln lc l va vn vc lk cs OC wa wn wc lw :=
  ⟨gtrans h.grown g, h.book.grown g, h.seat.keep g, h.c6, h.row.keep g, h.keys.keep g, h.s.keep g, h.wk.keep g, h.new, h.ra, h.wa⟩
theorem ne_types {u : World} {b b' t t' : Nat} {c c' : List Value} (h : Blk u b c t) (h' : Blk u b' c' t') (ht : t ≠ t') : b ≠ b' := fun e => by
  subst e
  exact ht (Blk.agree h h').2
theorem QR.over {b : Nat} {cb : List Value} (h : QR w u bk sb p7 T L X la ln lc l va vn vc lk cs OC wa wn wc lw) (hb : Blk u b cb 85) (g : u.grownBy u' (some b)) (hB : w.heap.size ≤ b) (hL : L ≤ b ∨ X b) (h1 : (Value.slice va vn vc).ownBlock ≠ some b) (h2 : (Value.slice la ln lc).ownBlock ≠ some b) (h3 : (Value.slice wa wn wc).ownBlock ≠ some b) :
    QR w u' bk sb p7 T L X la ln lc l va vn vc lk cs OC wa wn wc lw := by
  have e1 : sb ≠ b := ne_types h.seat hb (by decide)
  have e2 : p7 ≠ b := ne_types h.s hb (by decide)
  refine ⟨h.grown.andThen g (fun j hj => .inl (by injection hj with hj; omega)), h.book.one hb (by decide) (fun _ => hL) g, h.seat.on g (fun e => e1 (by injection e with e; exact e.symm)), h.c6, h.row.on g (fun k hk e => ?_), h.keys.on g (fun k hk e => ?_), h.s.on g (fun e => e2 (by injection e with e; exact e.symm)), h.wk.on g (fun k hk e => ?_), h.new, h.ra, h.wa⟩
  · exact h1 (e.trans hk.symm)
  · exact h2 (e.trans hk.symm)
  · exact h3 (e.trans hk.symm)
theorem QR.kk {o : Value} {T' L' : Nat} {X' : Nat → Prop} (h : QR w u bk sb p7 T L X la ln lc l va vn vc lk cs OC wa wn wc lw) (hk : KK u u' w.heap.size o) (hb : BkS u' w.heap.size bk T' L' X') {D : Nat} {lo : List Ky} (ho : OutK D u o lo) (h1 : ∀ k, o.ownBlock = some k → (Value.slice va vn vc).ownBlock ≠ some k ∧ (Value.slice la ln lc).ownBlock ≠ some k ∧ (Value.slice wa wn wc).ownBlock ≠ some k) : QR w u' bk sb p7 T' L' X' la ln lc l va vn vc lk cs OC wa wn wc lw := by
  have ne : ∀ {q t : Nat} {c : List Value}, Blk u q c t → t ≠ 85 → o.ownBlock ≠ some q := fun hq ht e => ho.ne_blk hq ht _ e rfl
  exact ⟨gof ((gbelow h.grown).trans hk.1) none, hb, Blk.kk h.seat hk (by decide) (ne h.seat (by decide)), h.c6, OutK.kk h.row hk (fun k e e2 => (h1 k e2).1 e), h.keys.kk hk (fun k e e2 => (h1 k e2).2.1 e), Blk.kk h.s hk (by decide) (ne h.s (by decide)), h.wk.kk hk (fun k e e2 => (h1 k e2).2.2 e), h.new, h.ra, h.wa⟩
theorem rk_ks {B : Nat} {a : Option Addr} {n c : Nat} {m : List Ky} (h : RK B u a n c m) (hs : Blk u sb cs 66) (hne : ∀ k, (Value.slice a n c).ownBlock = some k → (Value.slice va vn vc).ownBlock ≠ some k) (hk : KS u u' sb (.slice va vn vc)) : RK B u' a n c m := by
  obtain ⟨wm, g1, g2, e⟩ := hk.split hs.lt
  refine (h.on g1 (fun k hk e => ?_)).on g2 (fun k hk e => hne k e hk)
  injection hk with hk
  subst hk
  obtain ⟨_, _, c, hc⟩ := h.low e
  have h9 := hs
  unfold Blk at h9
  rw [hc] at h9
  injection h9 with h9
  injection h9 with _ h9
  cases h9
theorem QR.done {na : Option Addr} {nn nc : Nat} {lnn : List Ky} (h : QR w u bk sb p7 T L (fun k => (Value.slice va vn vc).ownBlock = some k) la ln lc l va vn vc lk cs OC wa wn wc lw) (hL : L ≤ u.heap.size) (hk : KS u u' sb (.slice va vn vc)) (hs : Blk u' sb (cs.set 6 (.slice na nn nc)) 66) (ho : OutK w.heap.size u' (.slice na nn nc) lnn)
    (hat : (Value.slice na nn nc).ownBlock = (Value.slice va vn vc).ownBlock ∨ ∃ k, u.heap.size ≤ k ∧ (Value.slice na nn nc).ownBlock = some k) : SR w u' bk sb T wa wn wc lw na nn nc lnn (cs.set 6 (.slice na nn nc)) ∧ Blk u' p7 OC 71 := by
  have hkeys := rk_ks h.wk h.seat h.wa hk
  obtain ⟨wm, g1, g2, e⟩ := hk.split h.seat.lt
  have h5 : Blk u' p7 OC 71 := (h.s.on g1 (fun e => ne_types h.seat h.s (by decide) (by injection e))).on g2 (fun e => h.row.ne_blk h.s (by decide) _ e rfl)
  refine ⟨⟨?_, ?_, hs, ?_, ho, hkeys, h.new.1, fun k hk' e => ?_⟩, h5⟩
  · refine (h.grown.andThen g1 (fun j hj => .inl (by injection hj with hj; have := h.new.1; omega))).andThen g2 (fun j hj => .inl ?_)
    exact (own_block h.row.2 hj).1
  · refine ((h.book.ks h.seat h.row hk).other (X' := fun k => (Value.slice na nn nc).ownBlock = some k) (fun b hb hx => ?_)).up (Nat.le_trans hL hk.size)
    rcases hat with h1 | ⟨k, h1, h2⟩
    · rw [← h1]; exact hx
    · rw [h2] at hx
      injection hx with hx
      omega
  · rw [List.getElem?_set_self (List.getElem?_eq_some_iff.1 h.c6).1]
  · rcases hat with h1 | ⟨q, h1, h2⟩
    · exact h.wa k hk' (h1.symm.trans e)
    · have := (h.wk.low hk').2.1
      rw [h2] at e
      injection e with e
      omega
end
end Go.Proofs.YtlgjmhemgfjgnaaGreat.Bk
