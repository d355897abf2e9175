/- WalApart: a torn write of the first log; Open. -/
import Derived.Test.YtpbiofnncdneoaaDoorWm
namespace Go.Proofs.YtpbiofnncdneoaaDoor
open Go Go.RowKit Go.MapKept Go.MuLone
open Go.RowKit (wrap32 wrap64)

variable {w u u' : World} {b l1 l2 : Nat} {x y : Value} {p q r s : List (List UInt8)} {t : List UInt8} {A : Ab} {P : Nat → Prop} {U : Nat}
/-- Behind a write of the disk that leaves the second log's file as it was. -/
theorem AW.to {A' : Ab} {P' Q : Nat → Prop} {V : Nat} {p' : List (List UInt8)} {t' : List UInt8} (h : AW w u b l2 x y p t q r s A P U) (hd : Sd w u' b A' P') (hf : DF u u' Q) (hq : ∀ k, Q k → P k ∨ (∃ s z o, Lg u k b s z o ∧ k ≠ l2 ∧ w.heap.size ≤ k)) (hp : ∀ k, P' k → P k ∨ u.heap.size ≤ k) (hl : Lgd A' ⟨#[97]⟩ ⟨#[97]⟩ ⟨#[98]⟩ 4194304 V p' t') (ho : A'.old ⟨#[98]⟩ = A.old ⟨#[98]⟩) : AW w u' b l2 x y p' t' q r s A' P' V := by
  have hge : ∀ k, Q k → w.heap.size ≤ k := fun k hk => (hq k hk).elim (h.sd.ge k) (fun ⟨_, _, _, _, _, g⟩ => g)
  have hnew : ∀ (z : Value) (ls : List (List UInt8)), OutW w.heap.size u z ls → (∀ k, z.ownBlock = some k → ¬ P k) → ∀ k, z.ownBlock = some k → ¬ P' k := fun z ls ho hz k hk hq => (hp k hq).elim (hz k hk) (fun g => by have := ho.lt k hk; omega)
  have hdis : ∀ (z : Value) (ls : List (List UInt8)), OutW w.heap.size u z ls → (∀ k, z.ownBlock = some k → ¬ P k) → ∀ k, z.ownBlock = some k → ¬ Q k := fun z ls ho hz k hk hk2 => (hq k hk2).elim (hz k hk) (fun ⟨s', z', o', g, _⟩ => ho.ne_lg g hk)
  exact ⟨hd, hl, h.lb.other hl.live ho, h.g2.df hf (fun hk => (hq l2 hk).elim h.g2.ap (fun ⟨_, _, _, _, g, _⟩ => g rfl)) hp, h.ox.beside hf (hdis x _ h.ox h.px) hge, h.oy.beside hf (hdis y _ h.oy h.py) hge, hnew x _ h.ox h.px, hnew y _ h.oy h.py, h.ne⟩
theorem as_arm (h : AS w u b l1 l2 x y p q r s A P U) (k : Int) : Calls Tryd.prog 13 #[.pointer (some ⟨b, 0, none⟩), .int .i64 1, .int .i64 k] u fun e u' => e = .returned (.tuple #[]) ∧ AW w u' b l2 x y p [] q r s (A.arm 1 k) P U ∧ LgP w u' l1 b ⟨#[97]⟩ (flen p) false P :=
  (sd_arm h.aw.sd 1 k (by omega)).mono fun _ _ ⟨q1, q2, q3⟩ => ⟨q1, h.aw.to q2 q3 (fun _ hk => .inl hk) (fun _ hk => .inl hk) (h.aw.la.arm 1 k) rfl, h.g1.same q3⟩
theorem aw_torn (h : AW w u b l2 x y p [] q r s A P U) (hg : LgP w u l1 b ⟨#[97]⟩ (flen p) false P) (hn : l1 ≠ l2) (h0 : A.off = false) (h1 : A.ar = 1) (hT : Tab w) (hw : A.wr ≤ 1000000) (hU : U ≤ 600000) (hp : p.length ≤ 1000) (F : Nat → Prop) (v : Value) (l : List UInt8) (hr : Rd u F v l) (hl : l.length = 4) (hk : A.kp < 17) :
    Calls Tryd.prog 15 #[.pointer (some ⟨l1, 0, none⟩), v] u fun e u' => ∃ t A' P', e = .returned (.int .i64 94) ∧ AW w u' b l2 x y p t q r s A' P' (U + 17) ∧ A'.ar = 0 ∧ A'.wr ≤ A.wr + 1 := by
  obtain ⟨q1, q2, q3, q4, q5, q6, q7⟩ := h.la.torn (l := l) h0 h1 (by omega) (by omega) (by omega)
  have hf := flen_used h.la (by omega)
  have c := sd_app h.sd hg hT (by omega) (by omega) F v l hr (by omega)
  rw [q1] at c
  obtain ⟨t, ht⟩ := q7 (by omega)
  rw [hl] at ht
  exact c.mono fun e u' ⟨P', c1, c2, c3, c4, c5⟩ => ⟨t, _, P', c1, h.to c2 c4 (fun k hk => hk.elim .inl (fun e => .inr ⟨_, _, _, e ▸ hg.lg, e ▸ hn, e ▸ hg.ge⟩)) c5 ht (q5 _ (fun e => ne_ab e.symm)), q3, by rw [q4]; omega⟩
theorem aw_on (h : AW w u b l2 x y p t q r s A P U) : Calls Tryd.prog 17 #[.pointer (some ⟨b, 0, none⟩)] u fun e u' => e = .returned (.tuple #[]) ∧ AW w u' b l2 x y p t q r s A.on P U :=
  (sd_on h.sd).mono fun _ _ ⟨q1, q2, q3⟩ => ⟨q1, h.to q2 q3 (fun _ hk => .inl hk) (fun _ hk => .inl hk) h.la.on rfl⟩
theorem lg_apart {k : Nat} {z z' : Nat} {o o' : Bool} (h : Lg u l1 b ⟨#[97]⟩ z o) (h' : Lg u k b ⟨#[98]⟩ z' o') : l1 ≠ k := fun e => by
  subst e
  have := (Blk.agree h h').1
  unfold lgc at this
  injection this with _ this
  injection this with this _
  injection this with this
  exact ne_ab this
/-- Open of the first log. -/
theorem aw_open (h : AW w u b l2 x y p t q r s A P U) (h0 : A.off = false) (h1 : A.ar = 0) (hT : Tab w) (hw : A.wr ≤ 1000000) :
    Calls Tryd.prog 11 #[.pointer (some ⟨b, 0, none⟩), .string ⟨#[97]⟩] u fun e u' => ∃ l1 va vg vc A' P', e = .returned (.tuple #[.pointer (some ⟨l1, 0, none⟩), .slice va p.length vc, .int .i64 0]) ∧ RowS u' (fun _ => True) va vg 0 p ∧ AS w u' b l1 l2 x y p q r s A' P' U ∧ A'.wr ≤ A.wr + 1 :=
  (lgd_open h.sd hT h.la h0 (by rw [h1]; decide) (by decide) (by omega)).mono fun e u' ⟨lb, v, P', A', q1, q2, q3, q4, q5, q6, q7, q8, q9, q10, q11⟩ => by
    obtain ⟨va, vg, vc, hv, hr⟩ := q2.row
    have ha := h.to q3 q5 (fun _ hk => .inl hk) q6 q7 (q11 _ (fun e => ne_ab e.symm))
    exact ⟨lb, va, vg, vc, A', P', by rw [q1, hv], hr.mono (fun _ _ => trivial), ⟨ha, q8, q9 h1, q4, lg_apart q4.lg ha.g2.lg⟩, q10⟩
/-- .. and of either, where nothing is torn. -/
theorem as_open (h : AS w u b l1 l2 x y p q r s A P U) (hT : Tab w) : Calls Tryd.prog 11 #[.pointer (some ⟨b, 0, none⟩), .string ⟨#[97]⟩] u fun e u' => ∃ lb va vg vc, e = .returned (.tuple #[.pointer (some ⟨lb, 0, none⟩), .slice va p.length vc, .int .i64 0]) ∧ RowS u' (fun _ => True) va vg 0 p ∧ u.grownBy u' none :=
  (sd_whole h.aw.sd hT (by decide) (h.aw.la.fil h.off)).mono fun e u' ⟨lb, v, q1, q2, q3, q4, q5⟩ => by
    obtain ⟨va, vg, vc, hv, hr⟩ := q2.row
    exact ⟨lb, va, vg, vc, by rw [q1, hv], hr.mono (fun _ _ => trivial), q5⟩
theorem as_openB (h : AS w u b l1 l2 x y p q r s A P U) (hT : Tab w) : Calls Tryd.prog 11 #[.pointer (some ⟨b, 0, none⟩), .string ⟨#[98]⟩] u fun e u' => ∃ lb va vg vc, e = .returned (.tuple #[.pointer (some ⟨lb, 0, none⟩), .slice va q.length vc, .int .i64 0]) ∧ RowS u' (fun _ => True) va vg 0 q ∧ u.grownBy u' none :=
  (sd_whole h.aw.sd hT (by decide) (h.aw.lb.fil h.off)).mono fun e u' ⟨lb, v, q1, q2, q3, q4, q5⟩ => by
    obtain ⟨va, vg, vc, hv, hr⟩ := q2.row
    exact ⟨lb, va, vg, vc, by rw [q1, hv], hr.mono (fun _ _ => trivial), q5⟩
/-- rows of a row and of one that was told. -/
theorem as_rows {v : Value} {ls : List (List UInt8)} (ho : OutW w.heap.size u v ls) (hl : ls.length ≤ 1000000) {va : Option Addr} {vg vc : Nat} (h : RowS u (fun _ => True) va vg 0 ls) : Calls Tryd.prog 18 #[.slice va ls.length vc, v] u fun e u' => e = .returned (.bool true) ∧ u.grownBy u' none := by
  obtain ⟨a, g, c, e, h2⟩ := ho.row
  subst e
  exact rows_same u _ _ va a vg 0 vc g 0 c ls h h2 hl
theorem as_size {v : Value} {ls : List (List UInt8)} (ho : OutW w.heap.size u v ls) (hl : ls.length ≤ 1000000) (hf : flen ls ≤ 1099511627776) : Calls Tryd.prog 20 #[v] u fun e u' => e = .returned (.int .i64 (flen ls : Nat)) ∧ u' = u := by
  obtain ⟨a, g, c, e, h2⟩ := ho.row
  subst e
  exact rsize_any u _ a g 0 c ls h2 hl hf
end Go.Proofs.YtpbiofnncdneoaaDoor
