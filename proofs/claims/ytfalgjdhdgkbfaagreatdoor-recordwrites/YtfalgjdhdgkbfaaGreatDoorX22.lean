/- All of it stays where what is none of its own turns. -/
import Derived.Test.YtfalgjdhdgkbfaaGreatDoorX21
import Derived.Test.YtfalgjdhdgkbfaaGreatDoorX12
import Derived.Test.YtfalgjdhdgkbfaaGreatDoorX18
import Derived.Test.YtfalgjdhdgkbfaaGreatDoorX13
namespace Go.Proofs.YtfalgjdhdgkbfaaGreatDoor.Bq
open Go Go.RowKit Go.Proofs.YtfalgjdhdgkbfaaGreatDoor.Bk
open Go.RowKit (wrap32 wrap64)

variable {w u u' : World} {B B' : Nat → Prop} {e : TypeId} {v : Value} {n : Nat} {xs : List Value}
/-- What the footprint holds is as it was. -/
structure Oth (B B' : Nat → Prop) (u u' : World) : Prop where
  size : u.heap.size ≤ u'.heap.size
  block : ∀ k, k < u.heap.size → B k → u'.heap[k]? = u.heap[k]?
  sub : ∀ k, k < u.heap.size → B k → B' k
  new : NewB B' u'
theorem OwnR.oth (h : OwnR u B e v n xs) (k : Oth B B' u u') : OwnR u' B' e v n xs := by
  refine ⟨h.1, ?_⟩
  rcases h.2 with h5 | ⟨g, cap, cur, hv, hg, hh, r⟩
  · exact Or.inl h5
  · have hl := (Array.getElem?_eq_some_iff.1 hh).1
    exact Or.inr ⟨g, cap, cur, hv, k.sub g hl hg, by rw [k.block g hl hg]; exact hh, r⟩
theorem rowIs_oth {b t m : Nat} {f : Nat → Value} (h : u.rowIs b t m f) (hb : B b) (k : Oth B B' u u') : u'.rowIs b t m f := by
  obtain ⟨c, h1, h2⟩ := h
  exact ⟨c, by rw [k.block b (Array.getElem?_eq_some_iff.1 h1).1 hb]; exact h1, h2⟩
theorem held_oth {g : Value} {m : Nat} (h : Held u g m) (hb : ∀ b, g.ownBlock = some b → B b) (k : Oth B B' u u') : Held u' g m :=
  held_keeps h (fun b q cs hcs => ⟨cs, by rw [k.block b (Array.getElem?_eq_some_iff.1 hcs).1 (hb b q)]; exact hcs, fun _ _ => rfl⟩)
theorem Rd5.oth {x : Value} {l : List UInt8} (h : Rd5 u x l) (hb : ∀ b, x.ownBlock = some b → B b) (k : Oth B B' u u') : Rd5 u' x l := by
  obtain ⟨a, c, rfl, hh, hlow⟩ := h
  refine ⟨a, c, rfl, fun hl => ?_, fun b q => Nat.lt_of_lt_of_le (hlow b q) k.size⟩
  obtain ⟨b, cs, fr, rfl, h1, h2⟩ := hh hl
  exact ⟨b, cs, fr, rfl, by rw [k.block b (Array.getElem?_eq_some_iff.1 h1).1 (hb b rfl)]; exact h1, h2⟩
theorem ST.oth {bk lt T : Nat} {ps : List Item} {n : Nat} (h : ST u B bk lt T ps n) (k : Oth B B' u u') : ST u' B' bk lt T ps n := by
  obtain ⟨A, D, v0, v1, U, gs, ms, vg, vw, xs, h⟩ := h
  have hb := h.sl.book
  refine ⟨A, D, v0, v1, U, gs, ms, vg, vw, xs, ⟨⟨⟨rowIs_oth hb.cells h.sl.hB.1 k, hb.row0.oth k, hb.row1.oth k, fun i g m hg hm => held_oth (hb.held i g m hg hm) (fun b q => (hb.lowb i g b hg q).2) k, hb.mle, fun i g m h1 h2 hg hm => ?_, fun i g b hg q => ⟨Nat.lt_of_lt_of_le (hb.low i g b hg q) k.size, k.sub b (hb.low i g b hg q) (hb.lowb i g b hg q).2⟩⟩, h.sl.ale, h.sl.use, h.sl.u0, h.sl.u1, rowIs_oth h.sl.cells h.sl.hB.2.1 k, h.sl.row0.oth k, h.sl.ap, fun p hp => ⟨(h.sl.own p hp).1.oth k, (h.sl.own p hp).2⟩, h.sl.alone, h.sl.apart, ⟨k.sub bk hb.cells.lt h.sl.hB.1, k.sub lt h.sl.cells.lt h.sl.hB.2.1, k.new⟩⟩, h.row1.oth k, h.apg, h.apw, fun i x p hx hp => (h.want i x p hx hp).oth (fun b q => (h.wlowb x (List.mem_of_getElem? hx) b q).2) k, h.wap, fun x hx b q => ⟨Nat.lt_of_lt_of_le (h.wlow x hx b q) k.size, k.sub b (h.wlow x hx b q) (h.wlowb x hx b q).2⟩, h.nle⟩⟩
  obtain ⟨⟨nn, hnn, ho⟩, h4⟩ := hb.fresh i g m h1 h2 hg hm
  exact ⟨⟨nn, hnn, ho.oth k⟩, h4⟩
theorem ST.new {bk lt : Nat} (h1 : Bkc w bk (.slice none 0 0) (.slice none 0 0) 0 0 0 0) (h2 : w.rowIs lt 62 2 (ltF (.slice none 0 0) (.slice none 0 0))) (hB : B bk) (hL : B lt) (hw : NewB B w) : ST w B bk lt 0 [] 0 :=
  ⟨0, 0, .slice none 0 0, .slice none 0 0, 0, [], [], .slice none 0 0, .slice none 0 0, [], ⟨⟨⟨h1, OwnR.nil _ _ _, OwnR.nil _ _ _, fun i g m hg => by simp at hg, fun m hm => by simp at hm, fun i g m _ h => by simp at h, fun i g b hg => by simp at hg⟩, Nat.le_refl _, by decide, by decide, by decide, h2, OwnR.nil _ _ _, Or.inl rfl, fun p hp => by simp at hp, List.Pairwise.nil, fun j g hg => by simp at hg, ⟨hB, hL, hw⟩⟩, OwnR.nil _ _ _, Or.inl rfl, Or.inl rfl, fun i x p hx => by simp at hx, fun x hx => by simp at hx, fun x hx => by simp at hx, Nat.le_refl _⟩⟩
theorem ST.look {bk lt T : Nat} {ps : List Item} {n : Nat} (h : ST w B bk lt T ps n) : Calls Tryz.prog 9 #[.pointer (some ⟨bk, 0, none⟩)] w fun e w' => e = .returned (.bool true) ∧ Bel B w w' := by
  obtain ⟨A, D, v0, v1, U, gs, ms, vg, vw, xs, h⟩ := h
  refine (look_any w B bk A v0 v1 T D U gs ms h.sl.book h.sl.ale h.sl.use h.sl.u1 h.sl.hB.1 h.sl.hB.2.2).mono ?_
  rintro e w' ⟨rfl, _, _, _, _, _, _, _, _, _, hb, _⟩
  exact ⟨rfl, hb⟩
end Go.Proofs.YtfalgjdhdgkbfaaGreatDoor.Bq

namespace Go.Proofs.YtfalgjdhdgkbfaaGreatDoor
open Go Go.RowKit
open Go.RowKit (wrap32 wrap64)

variable {w u u' u2 : World} {col col' col2 : Nat → Nat} {S S' : Nat → Prop}
/-- The blocks of one colour. -/
def Co (w u : World) (col : Nat → Nat) (i k : Nat) : Prop := col k = i ∧ w.heap.size ≤ k ∧ k < u.heap.size
def dye (u : World) (col : Nat → Nat) (i k : Nat) : Nat := if k < u.heap.size then col k else i
def up {α : Type} (f : Nat → α) (k : Nat) (x : α) (j : Nat) : α := if j = k then x else f j
theorem up_at {α : Type} {f : Nat → α} {k : Nat} {x : α} : up f k x k = x := if_pos rfl
theorem up_ne {α : Type} {f : Nat → α} {k j : Nat} {x : α} (h : j ≠ k) : up f k x j = f j := if_neg h
theorem dye_old {i k : Nat} (h : k < u.heap.size) : dye u col i k = col k := if_pos h
theorem dye_new {i k : Nat} (h : u.heap.size ≤ k) : dye u col i k = i := if_neg (by omega)
/-- What is done writes blocks of the colours S alone. -/
structure Stp (w : World) (S : Nat → Prop) (u : World) (col : Nat → Nat) (u' : World) (col' : Nat → Nat) : Prop where
  same : ∀ x, x < u.heap.size → col' x = col x
  os : u'.os = u.os
  tape : u'.tape = u.tape
  output : u'.output = u.output
  size : u.heap.size ≤ u'.heap.size
  block : ∀ x, x < u.heap.size → (x < w.heap.size ∨ ¬ S (col x)) → u'.heap[x]? = u.heap[x]?
theorem Stp.refl (w : World) (S : Nat → Prop) (u : World) (col : Nat → Nat) : Stp w S u col u col := ⟨fun _ _ => rfl, rfl, rfl, rfl, Nat.le_refl _, fun _ _ _ => rfl⟩
theorem Stp.trans (h : Stp w S u col u' col') (k : Stp w S u' col' u2 col2) : Stp w S u col u2 col2 :=
  ⟨fun x hx => (k.same x (Nat.lt_of_lt_of_le hx h.size)).trans (h.same x hx), k.os.trans h.os, k.tape.trans h.tape, k.output.trans h.output, Nat.le_trans h.size k.size, fun x hx hs => (k.block x (Nat.lt_of_lt_of_le hx h.size) (by rw [h.same x hx]; exact hs)).trans (h.block x hx hs)⟩
theorem Stp.mono (h : Stp w S u col u' col') (hs : ∀ i, S i → S' i) : Stp w S' u col u' col' := ⟨h.same, h.os, h.tape, h.output, h.size, fun x hx q => h.block x hx (q.imp id (fun n e => n (hs _ e)))⟩
theorem Stp.new (hg : u.grownBy u' none) (i : Nat) : Stp w S u col u' (dye u col i) := ⟨fun x hx => dye_old hx, hg.os, hg.tape, hg.output, hg.size, fun x hx _ => hg.block x hx (by simp)⟩
theorem Stp.one {b j : Nat} (hg : u.grownBy u' (some b)) (hb : Co w u col j b) (i : Nat) (hS : S j) : Stp w S u col u' (dye u col i) :=
  ⟨fun x hx => dye_old hx, hg.os, hg.tape, hg.output, hg.size, fun x hx q => hg.block x hx (fun e => by
    injection e with e
    rw [e] at q
    rcases q with q | q
    · have := hb.2.1; omega
    · exact q (by rw [hb.1]; exact hS))⟩
theorem Stp.opt {r : Option Nat} {j : Nat} (hg : u.grownBy u' r) (hb : ∀ b, r = some b → Co w u col j b) (i : Nat) (hS : S j) : Stp w S u col u' (dye u col i) := by
  cases r with
  | none => exact Stp.new hg i
  | some b => exact Stp.one hg (hb b rfl) i hS
theorem Stp.grown (h : Stp w S u col u' col') (hg : w.grownBy u none) : w.grownBy u' none := ⟨h.os.trans hg.os, h.tape.trans hg.tape, h.output.trans hg.output, Nat.le_trans hg.size h.size, fun k hk _ => (h.block k (Nat.lt_of_lt_of_le hk hg.size) (.inl hk)).trans (hg.block k hk (by simp))⟩
theorem Co.stp {i k : Nat} (h : Co w u col i k) (s : Stp w S u col u' col') : Co w u' col' i k := ⟨(s.same k h.2.2).trans h.1, h.2.1, Nat.lt_of_lt_of_le h.2.2 s.size⟩
theorem Co.at {i k : Nat} (h : Co w u col i k) (s : Stp w S u col u' col') (hi : ¬ S i) : u'.heap[k]? = u.heap[k]? := s.block k h.2.2 (.inr (by rw [h.1]; exact hi))
/-- A block in its colour. -/
structure Pl (w u : World) (col : Nat → Nat) (i b : Nat) (cs : List Value) (t : TypeId) : Prop where
  blk : u.heap[b]? = some (.cells cs.toArray t (0, 0))
  co : Co w u col i b
theorem Pl.stp {i b t : Nat} {cs : List Value} (h : Pl w u col i b cs t) (s : Stp w S u col u' col') (hi : ¬ S i) : Pl w u' col' i b cs t := ⟨(h.co.at s hi).trans h.blk, h.co.stp s⟩
theorem Pl.cell {i b t : Nat} {cs : List Value} (h : Pl w u col i b cs t) (j : Nat) : u.cell? ⟨b, j, none⟩ = cs[j]? := by
  simp [World.cell?, h.blk]
theorem chain_stp {i : Nat} (s : Stp w S u col u' col') (hi : ¬ S i) : ∀ {ps : List (List UInt8)} {p : Option Addr}, Chain u (Co w u col i) p ps → Chain u' (Co w u' col' i) p ps
  | [], _, h => h
  | _ :: _, _, ⟨g, v, q, e, hl, hF, hh, hx, hd, hc⟩ => ⟨g, v, q, e, Nat.lt_of_lt_of_le hl s.size, hF.stp s, (hF.at s hi).trans hh, by
      obtain ⟨a, b, off, c, q1, q2, q3, q4, q5⟩ := hx
      refine ⟨a, b, off, c, q1, q2, q3, fun q => ⟨(q4 q).1, Nat.lt_of_lt_of_le (q4 q).2.1 s.size, (q4 q).2.2.stp s⟩, fun j hj => ?_⟩
      have hb := (q4 (by omega)).2.2.at s hi
      have := q5 j hj
      simp only [World.cell?] at this ⊢
      rw [hb]
      exact this, hd, chain_stp s hi hc⟩
theorem rowIs_at {b t n : Nat} {f : Nat → Value} (h : u.rowIs b t n f) (hb : u'.heap[b]? = u.heap[b]?) : u'.rowIs b t n f := by
  obtain ⟨c, h1, h2⟩ := h
  exact ⟨c, hb.trans h1, h2⟩
/-- The writers: two of the program in one block, two of the reference in another. -/
structure WW (w u : World) (col : Nat → Nat) (pb vb : Nat) (Lp : Nat → List UInt8) (Ep : Nat → Nat) (Lv : Nat → List UInt8) (Ev : Nat → Nat) : Prop where
  p : ∃ f, ∀ k, k < 2 → Wr u pb 27 6 (3 * k) f (Co w u col 1) (Lp k) (Ep k)
  v : ∃ f, ∀ k, k < 2 → Wv u vb 31 4 (2 * k) f (Co w u col (2 + k)) (Lv k) (Ev k)
  pc : Co w u col 5 pb
  vc : Co w u col 6 vb
  gr : w.grownBy u none
variable {pb vb : Nat} {Lp Lv L : Nat → List UInt8} {Ep Ev E : Nat → Nat}
theorem wr_stp {b t n o : Nat} {f : Nat → Value} {i : Nat} {l : List UInt8} {bad : Nat} (h : Wr u b t n o f (Co w u col i) l bad) (s : Stp w S u col u' col') (hi : ¬ S i) (hb : u'.heap[b]? = u.heap[b]?) : Wr u' b t n o f (Co w u' col' i) l bad := by
  have hlt := h.1.lt
  obtain ⟨h1, h2, h3, p, ps, e1, e2, e3, hc, hl⟩ := h
  exact ⟨rowIs_at h1 hb, h2, fun q => h3 ⟨(s.same b hlt).symm.trans q.1, q.2.1, hlt⟩, p, ps, e1, e2, e3, chain_stp s hi hc, hl⟩
theorem out_at {B : Nat} {v : Value} {l : List UInt8} (h : Out B u v l) (hb : ∀ g, v.ownBlock = some g → u'.heap[g]? = u.heap[g]?) : Out B u' v l := by
  refine ⟨h.1, ?_⟩
  rcases h.2 with h2 | ⟨g, cap, cur, q1, q2, q3, q4⟩
  · exact .inl h2
  · exact .inr ⟨g, cap, cur, q1, q2, by rw [hb g (by rw [q1]; rfl)]; exact q3, q4⟩
theorem wv_stp {b t n o : Nat} {f : Nat → Value} {i : Nat} {l : List UInt8} {bad : Nat} (h : Wv u b t n o f (Co w u col i) l bad) (s : Stp w S u col u' col') (hi : ¬ S i) (hb : u'.heap[b]? = u.heap[b]?) : Wv u' b t n o f (Co w u' col' i) l bad := by
  have hlt := h.1.lt
  obtain ⟨h1, h2, h3, e1, hO, hF⟩ := h
  exact ⟨rowIs_at h1 hb, h2, fun q => h3 ⟨(s.same b hlt).symm.trans q.1, q.2.1, hlt⟩, e1, out_at hO (fun g q => (hF g q).at s hi), fun g q => (hF g q).stp s⟩
theorem WW.stp (h : WW w u col pb vb Lp Ep Lv Ev) (s : Stp w S u col u' col') (hS : ∀ i, S i → i = 0 ∨ i = 4 ∨ 6 < i) : WW w u' col' pb vb Lp Ep Lv Ev := by
  have hn : ∀ i, ¬ (i = 0 ∨ i = 4 ∨ 6 < i) → ¬ S i := fun i q e => q (hS i e)
  obtain ⟨f, hp⟩ := h.p
  obtain ⟨g, hv⟩ := h.v
  exact ⟨⟨f, fun k hk => wr_stp (hp k hk) s (hn 1 (by omega)) (h.pc.at s (hn 5 (by omega)))⟩, ⟨g, fun k hk => wv_stp (hv k hk) s (hn (2 + k) (by omega)) (h.vc.at s (hn 6 (by omega)))⟩, h.pc.stp s, h.vc.stp s, s.grown h.gr⟩
theorem co_ne {i j k : Nat} (h : Co w u col i k) (hij : i ≠ j) : ¬ Co w u col j k := fun q => hij (h.1.symm.trans q.1)
/-- A call of one of the program's writers. -/
theorem WW.pcall (h : WW w u col pb vb Lp Ep Lv Ev) {k fid l1 : Nat} {args : Array Value} {l' : List UInt8} (hk : k < 2)
    (hcall : ∀ f F, Wr u pb 27 6 (3 * k) f F (Lp k) (Ep k) → (∀ g, u.heap.size ≤ g → F g) → ¬ F vb → Calls Tryz.prog fid args u fun e u' => e = .returned (.tuple #[]) ∧ (∃ f', Wr u' pb 27 6 (3 * k) f' F l' l1 ∧ Els (3 * k) f f') ∧ u.grownBy u' (some pb)) :
    Calls Tryz.prog fid args u fun e u' => e = .returned (.tuple #[]) ∧ WW w u' (dye u col 1) pb vb (up Lp k l') (up Ep k l1) Lv Ev ∧ Stp w (fun i => i = 5) u col u' (dye u col 1) := by
  obtain ⟨f, hp⟩ := h.p
  obtain ⟨g, hv⟩ := h.v
  have hpl := h.pc.2.2
  have hnF : ∀ x, x < u.heap.size → ¬ Co w u col 1 x → ¬ (Co w u col 1 x ∨ u.heap.size ≤ x) := fun x hx q e => e.elim q (fun r => by omega)
  have hW := (hp k hk).mono (G := fun x => Co w u col 1 x ∨ u.heap.size ≤ x) (fun x _ q => .inl q) (hnF pb hpl (co_ne h.pc (by decide)))
  refine (hcall f _ hW (fun g q => .inr q) (hnF vb h.vc.2.2 (co_ne h.vc (by decide)))).mono fun e u' ⟨q1, ⟨f', q2, q3⟩, q4⟩ => ?_
  have s : Stp w (fun i => i = 5) u col u' (dye u col 1) := Stp.one q4 h.pc 1 rfl
  have hc5 : Co w u' (dye u col 1) 5 pb := h.pc.stp s
  have hn1 : ¬ Co w u' (dye u col 1) 1 pb := co_ne hc5 (by decide)
  refine ⟨q1, ⟨⟨f', fun j hj => ?_⟩, ⟨g, fun j hj => wv_stp (hv j hj) s (by omega) (h.vc.at s (by decide))⟩, hc5, h.vc.stp s, s.grown h.gr⟩, s⟩
  by_cases e : j = k
  · subst e
    rw [up_at, up_at]
    refine q2.mono (fun x hx q => ?_) hn1
    rcases q with q | q
    · exact q.stp s
    · exact ⟨dye_new q, Nat.le_trans h.gr.size q, hx⟩
  · rw [up_ne e, up_ne e]
    obtain ⟨h1, h2, h3, p, ps, e1, e2, e3, hc, hl⟩ := hp j hj
    have hx : ∀ i, i < 3 → f' (3 * j + i) = f (3 * j + i) := fun i hi => q3 _ (by omega)
    exact ⟨q2.1, h2, hn1, p, ps, by rw [show 3 * j = 3 * j + 0 by rfl, hx 0 (by decide)]; exact e1, by rw [hx 1 (by decide)]; exact e2, by rw [hx 2 (by decide)]; exact e3, chain_stp s (by decide) hc, hl⟩
/-- A call of one of the reference's. -/
theorem WW.vcall (h : WW w u col pb vb Lp Ep Lv Ev) {k fid l1 : Nat} {args : Array Value} {l' : List UInt8} (hk : k < 2)
    (hcall : ∀ f F, Wv u vb 31 4 (2 * k) f F (Lv k) (Ev k) → (∀ g, u.heap.size ≤ g → F g) → (∀ x, x < u.heap.size → F x → Co w u col (2 + k) x) → Calls Tryz.prog fid args u fun e u' => e = .returned (.tuple #[]) ∧ (∃ f', Wv u' vb 31 4 (2 * k) f' F l' l1 ∧ Els2 (2 * k) f f') ∧ KF u u' vb F) :
    Calls Tryz.prog fid args u fun e u' => e = .returned (.tuple #[]) ∧ WW w u' (dye u col (2 + k)) pb vb Lp Ep (up Lv k l') (up Ev k l1) ∧ Stp w (fun i => i = 6 ∨ i = 2 + k) u col u' (dye u col (2 + k)) := by
  obtain ⟨f, hp⟩ := h.p
  obtain ⟨g, hv⟩ := h.v
  have hnF : ∀ x, x < u.heap.size → ¬ Co w u col (2 + k) x → ¬ (Co w u col (2 + k) x ∨ u.heap.size ≤ x) := fun x hx q e => e.elim q (fun r => by omega)
  have hW := (hv k hk).mono (G := fun x => Co w u col (2 + k) x ∨ u.heap.size ≤ x) (fun x _ q => .inl q) (hnF vb h.vc.2.2 (co_ne h.vc (by omega)))
  refine (hcall g _ hW (fun g q => .inr q) (fun x hx q => q.elim id (fun r => by omega))).mono fun e u' ⟨q1, ⟨f', q2, q3⟩, q4⟩ => ?_
  have s : Stp w (fun i => i = 6 ∨ i = 2 + k) u col u' (dye u col (2 + k)) := ⟨fun x hx => dye_old hx, q4.os, q4.tape, q4.output, q4.size, fun x hx q => by
    refine q4.block x hx (fun e => ?_) (fun e => ?_)
    · rw [e] at q
      rcases q with q | q
      · have := h.vc.2.1; omega
      · exact q (.inl h.vc.1)
    · rcases e with e | e
      · rcases q with q | q
        · have := e.2.1; omega
        · exact q (.inr e.1)
      · omega⟩
  have hc6 : Co w u' (dye u col (2 + k)) 6 vb := h.vc.stp s
  refine ⟨q1, ⟨⟨f, fun j hj => wr_stp (hp j hj) s (by omega) (h.pc.at s (by omega))⟩, ⟨f', fun j hj => ?_⟩, h.pc.stp s, hc6, s.grown h.gr⟩, s⟩
  by_cases e : j = k
  · subst e
    rw [up_at, up_at]
    refine q2.mono (fun x hx q => ?_) (co_ne hc6 (by omega))
    rcases q with q | q
    · exact q.stp s
    · exact ⟨dye_new q, Nat.le_trans h.gr.size q, hx⟩
  · rw [up_ne e, up_ne e]
    obtain ⟨h1, h2, h3, e1, hO, hF⟩ := hv j hj
    have hx : ∀ i, i < 2 → f' (2 * j + i) = g (2 * j + i) := fun i hi => q3 _ (by omega)
    have e0 : f' (2 * j) = g (2 * j) := hx 0 (by decide)
    exact ⟨q2.1, h2, co_ne hc6 (by omega), by rw [hx 1 (by decide)]; exact e1, by rw [e0]; exact out_at hO (fun x q => (hF x q).at s (by omega)), fun x q => by rw [e0] at q; exact (hF x q).stp s⟩
/-- The book's footprint. -/
def Bt (w u : World) (col : Nat → Nat) (k : Nat) : Prop := Co w u col 4 k ∨ u.heap.size ≤ k
variable {bk lt T n : Nat} {ps : List Bk.Item}
theorem st_stp (h : Bq.ST u (Bt w u col) bk lt T ps n) (s : Stp w S u col u' col') (hS : ¬ S 4) : Bq.ST u' (Bt w u' col') bk lt T ps n :=
  h.oth ⟨s.size, fun k hk q => q.elim (fun c => c.at s hS) (fun r => by omega), fun k hk q => q.elim (fun c => .inl (c.stp s)) (fun r => by omega), fun b hb => .inr hb⟩
/-- Behind one of the book's own calls. -/
theorem st_own (hg : w.grownBy u none) (h : Bq.ST u' (Bt w u col) bk lt T ps n) (hb : Bq.Bel (Bt w u col) u u') : Bq.ST u' (Bt w u' (dye u col 4)) bk lt T ps n ∧ Stp w (fun i => i = 4) u col u' (dye u col 4) := by
  have s : Stp w (fun i => i = 4) u col u' (dye u col 4) := ⟨fun x hx => dye_old hx, hb.os, hb.tape, hb.output, hb.size, fun x hx q => hb.block x hx (fun e => by
    rcases e with e | e
    · rcases q with q | q
      · have := e.2.1; omega
      · exact q e.1
    · omega)⟩
  refine ⟨h.oth ⟨Nat.le_refl _, fun _ _ _ => rfl, fun k hk q => ?_, fun b hb => .inr hb⟩, s⟩
  rcases q with q | q
  · exact .inl (q.stp s)
  · exact .inl ⟨dye_new q, Nat.le_trans hg.size q, hk⟩
end Go.Proofs.YtfalgjdhdgkbfaaGreatDoor

namespace Go.Proofs.YtfalgjdhdgkbfaaGreatDoor
open Go Go.RowKit
open Go.RowKit (wrap32 wrap64)

variable {w u u' u0 : World} {col col' col0 : Nat → Nat} {S : Nat → Prop} {pb vb : Nat} {Lp Lv : Nat → List UInt8} {Ep Ev E : Nat → Nat}
/-- In the midst of a field. -/
def LZ (w : World) (S : Nat → Prop) (u0 : World) (col0 : Nat → Nat) (pb vb ob : Nat) (oc : List Value) (Lp : Nat → List UInt8) (Ep : Nat → Nat) (Lv : Nat → List UInt8) (Ev : Nat → Nat) (u : World) : Prop := ∃ col, WW w u col pb vb Lp Ep Lv Ev ∧ Pl w u col 7 ob oc 67 ∧ Stp w S u0 col0 u col
theorem LZ.cell {ob : Nat} {oc : List Value} (h : LZ w S u0 col0 pb vb ob oc Lp Ep Lv Ev u) (i : Nat) : u.cell? ⟨ob, i, none⟩ = oc[i]? := by
  obtain ⟨col, h1, h2, h3⟩ := h
  exact h2.cell i
theorem LZ.blk {ob : Nat} {oc : List Value} (h : LZ w S u0 col0 pb vb ob oc Lp Ep Lv Ev u) : Blk u ob oc 67 := by
  obtain ⟨col, h1, h2, h3⟩ := h
  exact h2.blk
theorem LZ.gr {ob : Nat} {oc : List Value} (h : LZ w S u0 col0 pb vb ob oc Lp Ep Lv Ev u) : w.grownBy u none := by
  obtain ⟨col, h1, h2, h3⟩ := h
  exact h1.gr
theorem lz_box {ob : Nat} {oc : List Value} (h : WW w u col pb vb Lp Ep Lv Ev) (hob : u.heap.size = ob) (hg : u.grownBy u' none) (hb : Blk u' ob oc 67) : LZ w S u col pb vb ob oc Lp Ep Lv Ev u' :=
  ⟨dye u col 7, h.stp (Stp.new (S := fun _ => False) hg 7) (fun _ q => q.elim), ⟨hb, dye_new (by omega), by have := h.gr.size; omega, hb.lt⟩, Stp.new hg 7⟩
theorem lz_p {k fid l1 ob : Nat} {oc : List Value} {args : Array Value} {l' : List UInt8} (hS : S 5) (hk : k < 2) (h : LZ w S u0 col0 pb vb ob oc Lp Ep Lv Ev u)
    (hcall : ∀ f F, Wr u pb 27 6 (3 * k) f F (Lp k) (Ep k) → (∀ g, u.heap.size ≤ g → F g) → ¬ F vb → Calls Tryz.prog fid args u fun e u' => e = .returned (.tuple #[]) ∧ (∃ f', Wr u' pb 27 6 (3 * k) f' F l' l1 ∧ Els (3 * k) f f') ∧ u.grownBy u' (some pb)) :
    Calls Tryz.prog fid args u fun e u' => e = .returned (.tuple #[]) ∧ LZ w S u0 col0 pb vb ob oc (up Lp k l') (up Ep k l1) Lv Ev u' := by
  obtain ⟨col, h1, h2, h3⟩ := h
  exact (h1.pcall hk hcall).mono fun e u' ⟨q1, q2, q3⟩ => ⟨q1, _, q2, h2.stp q3 (by decide), h3.trans (q3.mono (fun i e => by rw [e]; exact hS))⟩
theorem lz_v {k fid l1 ob : Nat} {oc : List Value} {args : Array Value} {l' : List UInt8} (hS : S 6 ∧ S 2 ∧ S 3) (hk : k < 2) (h : LZ w S u0 col0 pb vb ob oc Lp Ep Lv Ev u)
    (hcall : ∀ f F, Wv u vb 31 4 (2 * k) f F (Lv k) (Ev k) → (∀ g, u.heap.size ≤ g → F g) → (∀ x, x < u.heap.size → F x → w.heap.size ≤ x) → Calls Tryz.prog fid args u fun e u' => e = .returned (.tuple #[]) ∧ (∃ f', Wv u' vb 31 4 (2 * k) f' F l' l1 ∧ Els2 (2 * k) f f') ∧ KF u u' vb F) :
    Calls Tryz.prog fid args u fun e u' => e = .returned (.tuple #[]) ∧ LZ w S u0 col0 pb vb ob oc Lp Ep (up Lv k l') (up Ev k l1) u' := by
  obtain ⟨col, h1, h2, h3⟩ := h
  refine (h1.vcall hk (fun f F q1 q2 q3 => hcall f F q1 q2 (fun x hx e => (q3 x hx e).2.1))).mono fun e u' ⟨q1, q2, q3⟩ => ⟨q1, _, q2, h2.stp q3 (by omega), h3.trans (q3.mono (fun i e => ?_))⟩
  rcases e with e | e
  · rw [e]; exact hS.1
  · rcases (show i = 2 ∨ i = 3 by omega) with e | e
    · rw [e]; exact hS.2.1
    · rw [e]; exact hS.2.2
set_option maxRecDepth 100000 in
set_option maxHeartbeats 4000000 in
theorem lay_num {on wd iv : Int} {nn : Nat} {fl : Bool} {ba : Option Addr} {bn bc k : Nat} {d : List UInt8} (h : WW w u col pb vb Lp Ep Lv Ev) {lp' lv' : List UInt8} {e1 : Nat} (HP : Hid (∀ (ob : Nat) (u9 : World), LZ w S u col pb vb ob ([Value.int .i64 1, .int .i64 on, .int .u64 (nn : Nat), .int .i64 wd, .int .i64 iv, .bool fl, .slice ba bn bc] ++ Lib.byteCells d) Lp Ep Lv Ev u9 → Calls Tryz.prog 26 #[.pointer (some ⟨pb, 3 * k, none⟩), .int .u64 (nn : Nat), .int .i64 wd] u9 fun e u' => e = .returned (.tuple #[]) ∧ LZ w S u col pb vb ob ([Value.int .i64 1, .int .i64 on, .int .u64 (nn : Nat), .int .i64 wd, .int .i64 iv, .bool fl, .slice ba bn bc] ++ Lib.byteCells d) (up Lp k lp') (up Ep k e1) Lv Ev u'))
    (HR : Hid (∀ (ob : Nat) (u9 : World), LZ w S u col pb vb ob ([Value.int .i64 1, .int .i64 on, .int .u64 (nn : Nat), .int .i64 wd, .int .i64 iv, .bool fl, .slice ba bn bc] ++ Lib.byteCells d) (up Lp k lp') (up Ep k e1) Lv Ev u9 → Calls Tryz.prog 27 #[.pointer (some ⟨vb, 2 * k, none⟩), .int .u64 (nn : Nat), .int .i64 wd] u9 fun e u' => e = .returned (.tuple #[]) ∧ LZ w S u col pb vb ob ([Value.int .i64 1, .int .i64 on, .int .u64 (nn : Nat), .int .i64 wd, .int .i64 iv, .bool fl, .slice ba bn bc] ++ Lib.byteCells d) (up Lp k lp') (up Ep k e1) (up Lv k lv') (up Ev k e1) u')) :
    Calls Tryz.prog 6 #[.pointer (some ⟨pb, 3 * k, none⟩), .pointer (some ⟨vb, 2 * k, none⟩), .agg ([Value.int .i64 1, .int .i64 on, .int .u64 (nn : Nat), .int .i64 wd, .int .i64 iv, .bool fl, .slice ba bn bc] ++ Lib.byteCells d).toArray] u fun e u' => e = .returned (.bool true) ∧ ∃ ob, LZ w S u col pb vb ob ([Value.int .i64 1, .int .i64 on, .int .u64 (nn : Nat), .int .i64 wd, .int .i64 iv, .bool fl, .slice ba bn bc] ++ Lib.byteCells d) (up Lp k lp') (up Ep k e1) (up Lv k lv') (up Ev k e1) u' := by
  have HW := hid h
  clear h
  go_enter Tryz.func6, Tryz.ntmps6
  go_upto_region 1 with ((with_reducible refine wpList_box_row (by with_unfolding_all rfl) 67 _ (by with_unfolding_all rfl) ([Value.int .i64 1, .int .i64 on, .int .u64 (nn : Nat), .int .i64 wd, .int .i64 iv, .bool fl, .slice ba bn bc] ++ Lib.byteCells d) (by with_unfolding_all rfl) ?_); intro w1 B1 s1 g1; have HB1 := hid B1; have HG1 := hid g1; clear B1 s1 g1)
  obtain ⟨ob, hob⟩ : ∃ x, u.heap.size = x := ⟨_, rfl⟩
  rw [hob] at HB1 ⊢
  have HM : Hid (LZ w S u col pb vb ob ([Value.int .i64 1, .int .i64 on, .int .u64 (nn : Nat), .int .i64 wd, .int .i64 iv, .bool fl, .slice ba bn bc] ++ Lib.byteCells d) Lp Ep Lv Ev w1) := hid (lz_box HW.out hob HG1.out HB1.out)
  clear hob HW HB1 HG1
  have c0 : w1.cell? ⟨ob, 0, none⟩ = some (.int .i64 1) := HM.out.cell 0
  have c2 : w1.cell? ⟨ob, 2, none⟩ = some (.int .u64 (nn : Nat)) := HM.out.cell 2
  have c3 : w1.cell? ⟨ob, 3, none⟩ = some (.int .i64 wd) := HM.out.cell 3
  go_wp2_with (first
    | (go_at_call 26; (with_reducible refine (HP.out _ _ HM.out).mono ?_); rintro e v1 ⟨rfl, hm⟩; replace HM := hid hm; clear hm c0 c2 c3; have c2 : v1.cell? ⟨ob, 2, none⟩ = some (.int .u64 (nn : Nat)) := HM.out.cell 2; have c3 : v1.cell? ⟨ob, 3, none⟩ = some (.int .i64 wd) := HM.out.cell 3)
    | (go_at_call 27; (with_reducible refine (HR.out _ _ HM.out).mono ?_); rintro e v2 ⟨rfl, hm⟩; replace HM := hid hm; clear hm c2 c3))
  go_ret
  exact ⟨rfl, _, HM.out⟩
set_option maxRecDepth 100000 in
set_option maxHeartbeats 4000000 in
theorem lay_int {on wd iv : Int} {nn : Nat} {fl : Bool} {ba : Option Addr} {bn bc k : Nat} {d : List UInt8} (h : WW w u col pb vb Lp Ep Lv Ev) {lp' lv' : List UInt8} {e1 : Nat} (HP : Hid (∀ (ob : Nat) (u9 : World), LZ w S u col pb vb ob ([Value.int .i64 2, .int .i64 on, .int .u64 (nn : Nat), .int .i64 wd, .int .i64 iv, .bool fl, .slice ba bn bc] ++ Lib.byteCells d) Lp Ep Lv Ev u9 → Calls Tryz.prog 28 #[.pointer (some ⟨pb, 3 * k, none⟩), .int .i64 iv] u9 fun e u' => e = .returned (.tuple #[]) ∧ LZ w S u col pb vb ob ([Value.int .i64 2, .int .i64 on, .int .u64 (nn : Nat), .int .i64 wd, .int .i64 iv, .bool fl, .slice ba bn bc] ++ Lib.byteCells d) (up Lp k lp') (up Ep k e1) Lv Ev u'))
    (HR : Hid (∀ (ob : Nat) (u9 : World), LZ w S u col pb vb ob ([Value.int .i64 2, .int .i64 on, .int .u64 (nn : Nat), .int .i64 wd, .int .i64 iv, .bool fl, .slice ba bn bc] ++ Lib.byteCells d) (up Lp k lp') (up Ep k e1) Lv Ev u9 → Calls Tryz.prog 29 #[.pointer (some ⟨vb, 2 * k, none⟩), .int .i64 iv] u9 fun e u' => e = .returned (.tuple #[]) ∧ LZ w S u col pb vb ob ([Value.int .i64 2, .int .i64 on, .int .u64 (nn : Nat), .int .i64 wd, .int .i64 iv, .bool fl, .slice ba bn bc] ++ Lib.byteCells d) (up Lp k lp') (up Ep k e1) (up Lv k lv') (up Ev k e1) u')) :
    Calls Tryz.prog 6 #[.pointer (some ⟨pb, 3 * k, none⟩), .pointer (some ⟨vb, 2 * k, none⟩), .agg ([Value.int .i64 2, .int .i64 on, .int .u64 (nn : Nat), .int .i64 wd, .int .i64 iv, .bool fl, .slice ba bn bc] ++ Lib.byteCells d).toArray] u fun e u' => e = .returned (.bool true) ∧ ∃ ob, LZ w S u col pb vb ob ([Value.int .i64 2, .int .i64 on, .int .u64 (nn : Nat), .int .i64 wd, .int .i64 iv, .bool fl, .slice ba bn bc] ++ Lib.byteCells d) (up Lp k lp') (up Ep k e1) (up Lv k lv') (up Ev k e1) u' := by
  have HW := hid h
  clear h
  go_enter Tryz.func6, Tryz.ntmps6
  go_upto_region 1 with ((with_reducible refine wpList_box_row (by with_unfolding_all rfl) 67 _ (by with_unfolding_all rfl) ([Value.int .i64 2, .int .i64 on, .int .u64 (nn : Nat), .int .i64 wd, .int .i64 iv, .bool fl, .slice ba bn bc] ++ Lib.byteCells d) (by with_unfolding_all rfl) ?_); intro w1 B1 s1 g1; have HB1 := hid B1; have HG1 := hid g1; clear B1 s1 g1)
  obtain ⟨ob, hob⟩ : ∃ x, u.heap.size = x := ⟨_, rfl⟩
  rw [hob] at HB1 ⊢
  have HM : Hid (LZ w S u col pb vb ob ([Value.int .i64 2, .int .i64 on, .int .u64 (nn : Nat), .int .i64 wd, .int .i64 iv, .bool fl, .slice ba bn bc] ++ Lib.byteCells d) Lp Ep Lv Ev w1) := hid (lz_box HW.out hob HG1.out HB1.out)
  clear hob HW HB1 HG1
  have c0 : w1.cell? ⟨ob, 0, none⟩ = some (.int .i64 2) := HM.out.cell 0
  have c4 : w1.cell? ⟨ob, 4, none⟩ = some (.int .i64 iv) := HM.out.cell 4
  go_wp2_with (first
    | (go_at_call 28; (with_reducible refine (HP.out _ _ HM.out).mono ?_); rintro e v1 ⟨rfl, hm⟩; replace HM := hid hm; clear hm c0 c4; have c4 : v1.cell? ⟨ob, 4, none⟩ = some (.int .i64 iv) := HM.out.cell 4)
    | (go_at_call 29; (with_reducible refine (HR.out _ _ HM.out).mono ?_); rintro e v2 ⟨rfl, hm⟩; replace HM := hid hm; clear hm c4))
  go_ret
  exact ⟨rfl, _, HM.out⟩
set_option maxRecDepth 100000 in
set_option maxHeartbeats 4000000 in
theorem lay_flag {on wd iv : Int} {nn : Nat} {fl : Bool} {ba : Option Addr} {bn bc k : Nat} {d : List UInt8} (h : WW w u col pb vb Lp Ep Lv Ev) {lp' lv' : List UInt8} {e1 : Nat} (HP : Hid (∀ (ob : Nat) (u9 : World), LZ w S u col pb vb ob ([Value.int .i64 3, .int .i64 on, .int .u64 (nn : Nat), .int .i64 wd, .int .i64 iv, .bool fl, .slice ba bn bc] ++ Lib.byteCells d) Lp Ep Lv Ev u9 → Calls Tryz.prog 30 #[.pointer (some ⟨pb, 3 * k, none⟩), .bool fl] u9 fun e u' => e = .returned (.tuple #[]) ∧ LZ w S u col pb vb ob ([Value.int .i64 3, .int .i64 on, .int .u64 (nn : Nat), .int .i64 wd, .int .i64 iv, .bool fl, .slice ba bn bc] ++ Lib.byteCells d) (up Lp k lp') (up Ep k e1) Lv Ev u'))
    (HR : Hid (∀ (ob : Nat) (u9 : World), LZ w S u col pb vb ob ([Value.int .i64 3, .int .i64 on, .int .u64 (nn : Nat), .int .i64 wd, .int .i64 iv, .bool fl, .slice ba bn bc] ++ Lib.byteCells d) (up Lp k lp') (up Ep k e1) Lv Ev u9 → Calls Tryz.prog 31 #[.pointer (some ⟨vb, 2 * k, none⟩), .bool fl] u9 fun e u' => e = .returned (.tuple #[]) ∧ LZ w S u col pb vb ob ([Value.int .i64 3, .int .i64 on, .int .u64 (nn : Nat), .int .i64 wd, .int .i64 iv, .bool fl, .slice ba bn bc] ++ Lib.byteCells d) (up Lp k lp') (up Ep k e1) (up Lv k lv') (up Ev k e1) u')) :
    Calls Tryz.prog 6 #[.pointer (some ⟨pb, 3 * k, none⟩), .pointer (some ⟨vb, 2 * k, none⟩), .agg ([Value.int .i64 3, .int .i64 on, .int .u64 (nn : Nat), .int .i64 wd, .int .i64 iv, .bool fl, .slice ba bn bc] ++ Lib.byteCells d).toArray] u fun e u' => e = .returned (.bool true) ∧ ∃ ob, LZ w S u col pb vb ob ([Value.int .i64 3, .int .i64 on, .int .u64 (nn : Nat), .int .i64 wd, .int .i64 iv, .bool fl, .slice ba bn bc] ++ Lib.byteCells d) (up Lp k lp') (up Ep k e1) (up Lv k lv') (up Ev k e1) u' := by
  have HW := hid h
  clear h
  go_enter Tryz.func6, Tryz.ntmps6
  go_upto_region 1 with ((with_reducible refine wpList_box_row (by with_unfolding_all rfl) 67 _ (by with_unfolding_all rfl) ([Value.int .i64 3, .int .i64 on, .int .u64 (nn : Nat), .int .i64 wd, .int .i64 iv, .bool fl, .slice ba bn bc] ++ Lib.byteCells d) (by with_unfolding_all rfl) ?_); intro w1 B1 s1 g1; have HB1 := hid B1; have HG1 := hid g1; clear B1 s1 g1)
  obtain ⟨ob, hob⟩ : ∃ x, u.heap.size = x := ⟨_, rfl⟩
  rw [hob] at HB1 ⊢
  have HM : Hid (LZ w S u col pb vb ob ([Value.int .i64 3, .int .i64 on, .int .u64 (nn : Nat), .int .i64 wd, .int .i64 iv, .bool fl, .slice ba bn bc] ++ Lib.byteCells d) Lp Ep Lv Ev w1) := hid (lz_box HW.out hob HG1.out HB1.out)
  clear hob HW HB1 HG1
  have c0 : w1.cell? ⟨ob, 0, none⟩ = some (.int .i64 3) := HM.out.cell 0
  have c5 : w1.cell? ⟨ob, 5, none⟩ = some (.bool fl) := HM.out.cell 5
  go_wp2_with (first
    | (go_at_call 30; (with_reducible refine (HP.out _ _ HM.out).mono ?_); rintro e v1 ⟨rfl, hm⟩; replace HM := hid hm; clear hm c0 c5; have c5 : v1.cell? ⟨ob, 5, none⟩ = some (.bool fl) := HM.out.cell 5)
    | (go_at_call 31; (with_reducible refine (HR.out _ _ HM.out).mono ?_); rintro e v2 ⟨rfl, hm⟩; replace HM := hid hm; clear hm c5))
  go_ret
  exact ⟨rfl, _, HM.out⟩
set_option maxRecDepth 100000 in
set_option maxHeartbeats 4000000 in
theorem lay_text {s : ByteArray} {on wd iv : Int} {nn : Nat} {fl : Bool} {ba : Option Addr} {bn bc k : Nat} {d : List UInt8} (h : WW w u col pb vb Lp Ep Lv Ev) {lp' lv' : List UInt8} {e1 : Nat} (HP : Hid (∀ (ob : Nat) (u9 : World), LZ w S u col pb vb ob ([Value.int .i64 5, .int .i64 on, .int .u64 (nn : Nat), .int .i64 wd, .int .i64 iv, .bool fl, .slice ba bn bc] ++ Lib.byteCells d) Lp Ep Lv Ev u9 → Calls Tryz.prog 34 #[.pointer (some ⟨pb, 3 * k, none⟩), .string s] u9 fun e u' => e = .returned (.tuple #[]) ∧ LZ w S u col pb vb ob ([Value.int .i64 5, .int .i64 on, .int .u64 (nn : Nat), .int .i64 wd, .int .i64 iv, .bool fl, .slice ba bn bc] ++ Lib.byteCells d) (up Lp k lp') (up Ep k e1) Lv Ev u'))
    (HR : Hid (∀ (ob : Nat) (u9 : World), LZ w S u col pb vb ob ([Value.int .i64 5, .int .i64 on, .int .u64 (nn : Nat), .int .i64 wd, .int .i64 iv, .bool fl, .slice ba bn bc] ++ Lib.byteCells d) (up Lp k lp') (up Ep k e1) Lv Ev u9 → Calls Tryz.prog 35 #[.pointer (some ⟨vb, 2 * k, none⟩), .string s] u9 fun e u' => e = .returned (.tuple #[]) ∧ LZ w S u col pb vb ob ([Value.int .i64 5, .int .i64 on, .int .u64 (nn : Nat), .int .i64 wd, .int .i64 iv, .bool fl, .slice ba bn bc] ++ Lib.byteCells d) (up Lp k lp') (up Ep k e1) (up Lv k lv') (up Ev k e1) u'))
    (HC : Hid (∀ u9, w.grownBy u9 none → (convert 28 9 (.slice ba bn bc)).run Tryz.prog u9 = .ok (.string s) u9)) :
    Calls Tryz.prog 6 #[.pointer (some ⟨pb, 3 * k, none⟩), .pointer (some ⟨vb, 2 * k, none⟩), .agg ([Value.int .i64 5, .int .i64 on, .int .u64 (nn : Nat), .int .i64 wd, .int .i64 iv, .bool fl, .slice ba bn bc] ++ Lib.byteCells d).toArray] u fun e u' => e = .returned (.bool true) ∧ ∃ ob, LZ w S u col pb vb ob ([Value.int .i64 5, .int .i64 on, .int .u64 (nn : Nat), .int .i64 wd, .int .i64 iv, .bool fl, .slice ba bn bc] ++ Lib.byteCells d) (up Lp k lp') (up Ep k e1) (up Lv k lv') (up Ev k e1) u' := by
  have HW := hid h
  clear h
  go_enter Tryz.func6, Tryz.ntmps6
  go_upto_region 1 with ((with_reducible refine wpList_box_row (by with_unfolding_all rfl) 67 _ (by with_unfolding_all rfl) ([Value.int .i64 5, .int .i64 on, .int .u64 (nn : Nat), .int .i64 wd, .int .i64 iv, .bool fl, .slice ba bn bc] ++ Lib.byteCells d) (by with_unfolding_all rfl) ?_); intro w1 B1 s1 g1; have HB1 := hid B1; have HG1 := hid g1; clear B1 s1 g1)
  obtain ⟨ob, hob⟩ : ∃ x, u.heap.size = x := ⟨_, rfl⟩
  rw [hob] at HB1 ⊢
  have HM : Hid (LZ w S u col pb vb ob ([Value.int .i64 5, .int .i64 on, .int .u64 (nn : Nat), .int .i64 wd, .int .i64 iv, .bool fl, .slice ba bn bc] ++ Lib.byteCells d) Lp Ep Lv Ev w1) := hid (lz_box HW.out hob HG1.out HB1.out)
  clear hob HW HB1 HG1
  have c0 : w1.cell? ⟨ob, 0, none⟩ = some (.int .i64 5) := HM.out.cell 0
  have c6 : w1.cell? ⟨ob, 6, none⟩ = some (.slice ba bn bc) := HM.out.cell 6
  have k1 := HC.out _ HM.out.gr
  go_wp2_with (first
    | (go_at_call 34; (with_reducible refine (HP.out _ _ HM.out).mono ?_); rintro e v1 ⟨rfl, hm⟩; replace HM := hid hm; clear hm c0 c6; have c6 : v1.cell? ⟨ob, 6, none⟩ = some (.slice ba bn bc) := HM.out.cell 6; clear k1; have k1 := HC.out _ HM.out.gr)
    | (go_at_call 35; (with_reducible refine (HR.out _ _ HM.out).mono ?_); rintro e v2 ⟨rfl, hm⟩; replace HM := hid hm; clear hm c6))
  go_ret
  exact ⟨rfl, _, HM.out⟩
set_option maxRecDepth 100000 in
set_option maxHeartbeats 4000000 in
theorem lay_else {on wd iv dv : Int} {nn : Nat} {fl : Bool} {ba : Option Addr} {bn bc k : Nat} {d : List UInt8} (h : WW w u col pb vb Lp Ep Lv Ev) (hne : ¬ dv = 1 ∧ ¬ dv = 2 ∧ ¬ dv = 3 ∧ ¬ dv = 4 ∧ ¬ dv = 5 ∧ ¬ dv = 6) :
    Calls Tryz.prog 6 #[.pointer (some ⟨pb, 3 * k, none⟩), .pointer (some ⟨vb, 2 * k, none⟩), .agg ([Value.int .i64 dv, .int .i64 on, .int .u64 (nn : Nat), .int .i64 wd, .int .i64 iv, .bool fl, .slice ba bn bc] ++ Lib.byteCells d).toArray] u fun e u' => e = .returned (.bool true) ∧ ∃ ob, LZ w S u col pb vb ob ([Value.int .i64 dv, .int .i64 on, .int .u64 (nn : Nat), .int .i64 wd, .int .i64 iv, .bool fl, .slice ba bn bc] ++ Lib.byteCells d) Lp Ep Lv Ev u' := by
  have HW := hid h
  clear h
  go_enter Tryz.func6, Tryz.ntmps6
  go_upto_region 1 with ((with_reducible refine wpList_box_row (by with_unfolding_all rfl) 67 _ (by with_unfolding_all rfl) ([Value.int .i64 dv, .int .i64 on, .int .u64 (nn : Nat), .int .i64 wd, .int .i64 iv, .bool fl, .slice ba bn bc] ++ Lib.byteCells d) (by with_unfolding_all rfl) ?_); intro w1 B1 s1 g1; have HB1 := hid B1; have HG1 := hid g1; clear B1 s1 g1)
  obtain ⟨ob, hob⟩ : ∃ x, u.heap.size = x := ⟨_, rfl⟩
  rw [hob] at HB1 ⊢
  have HM : Hid (LZ w S u col pb vb ob ([Value.int .i64 dv, .int .i64 on, .int .u64 (nn : Nat), .int .i64 wd, .int .i64 iv, .bool fl, .slice ba bn bc] ++ Lib.byteCells d) Lp Ep Lv Ev w1) := hid (lz_box HW.out hob HG1.out HB1.out)
  clear hob HW HB1 HG1
  have c0 : w1.cell? ⟨ob, 0, none⟩ = some (.int .i64 dv) := HM.out.cell 0
  obtain ⟨n1, n2, n3, n4, n5, n6⟩ := hne
  go_wp2_with fail
  go_ret
  exact ⟨rfl, _, HM.out⟩
set_option maxRecDepth 100000 in
set_option maxHeartbeats 4000000 in
theorem lay_id {on wd iv : Int} {nn : Nat} {fl : Bool} {ba : Option Addr} {bn bc k : Nat} {d : List UInt8} (h : WW w u col pb vb Lp Ep Lv Ev) {lp' lv' : List UInt8} {e1 : Nat} (HP : Hid (∀ (ob : Nat) (u9 : World), LZ w S u col pb vb ob ([Value.int .i64 6, .int .i64 on, .int .u64 (nn : Nat), .int .i64 wd, .int .i64 iv, .bool fl, .slice ba bn bc] ++ Lib.byteCells d) Lp Ep Lv Ev u9 → Calls Tryz.prog 36 #[.pointer (some ⟨pb, 3 * k, none⟩), .agg (Lib.byteCells d).toArray] u9 fun e u' => e = .returned (.tuple #[]) ∧ LZ w S u col pb vb ob ([Value.int .i64 6, .int .i64 on, .int .u64 (nn : Nat), .int .i64 wd, .int .i64 iv, .bool fl, .slice ba bn bc] ++ Lib.byteCells d) (up Lp k lp') (up Ep k e1) Lv Ev u'))
    (HR : Hid (∀ (ob : Nat) (u9 : World), LZ w S u col pb vb ob ([Value.int .i64 6, .int .i64 on, .int .u64 (nn : Nat), .int .i64 wd, .int .i64 iv, .bool fl, .slice ba bn bc] ++ Lib.byteCells d) (up Lp k lp') (up Ep k e1) Lv Ev u9 → Calls Tryz.prog 37 #[.pointer (some ⟨vb, 2 * k, none⟩), .agg (Lib.byteCells d).toArray] u9 fun e u' => e = .returned (.tuple #[]) ∧ LZ w S u col pb vb ob ([Value.int .i64 6, .int .i64 on, .int .u64 (nn : Nat), .int .i64 wd, .int .i64 iv, .bool fl, .slice ba bn bc] ++ Lib.byteCells d) (up Lp k lp') (up Ep k e1) (up Lv k lv') (up Ev k e1) u'))
    (HD : Hid ((Tryz.prog.info? 65).map (·.size) = some (Lib.byteCells d).length)) :
    Calls Tryz.prog 6 #[.pointer (some ⟨pb, 3 * k, none⟩), .pointer (some ⟨vb, 2 * k, none⟩), .agg ([Value.int .i64 6, .int .i64 on, .int .u64 (nn : Nat), .int .i64 wd, .int .i64 iv, .bool fl, .slice ba bn bc] ++ Lib.byteCells d).toArray] u fun e u' => e = .returned (.bool true) ∧ ∃ ob, LZ w S u col pb vb ob ([Value.int .i64 6, .int .i64 on, .int .u64 (nn : Nat), .int .i64 wd, .int .i64 iv, .bool fl, .slice ba bn bc] ++ Lib.byteCells d) (up Lp k lp') (up Ep k e1) (up Lv k lv') (up Ev k e1) u' := by
  have HW := hid h
  clear h
  go_enter Tryz.func6, Tryz.ntmps6
  go_upto_region 1 with ((with_reducible refine wpList_box_row (by with_unfolding_all rfl) 67 _ (by with_unfolding_all rfl) ([Value.int .i64 6, .int .i64 on, .int .u64 (nn : Nat), .int .i64 wd, .int .i64 iv, .bool fl, .slice ba bn bc] ++ Lib.byteCells d) (by with_unfolding_all rfl) ?_); intro w1 B1 s1 g1; have HB1 := hid B1; have HG1 := hid g1; clear B1 s1 g1)
  obtain ⟨ob, hob⟩ : ∃ x, u.heap.size = x := ⟨_, rfl⟩
  rw [hob] at HB1 ⊢
  have HM : Hid (LZ w S u col pb vb ob ([Value.int .i64 6, .int .i64 on, .int .u64 (nn : Nat), .int .i64 wd, .int .i64 iv, .bool fl, .slice ba bn bc] ++ Lib.byteCells d) Lp Ep Lv Ev w1) := hid (lz_box HW.out hob HG1.out HB1.out)
  clear hob HW HB1 HG1
  have c0 : w1.cell? ⟨ob, 0, none⟩ = some (.int .i64 6) := HM.out.cell 0
  go_wp2_with (first
    | (go_at_call 36; (with_reducible refine (HP.out _ _ HM.out).mono ?_); rintro e v1 ⟨rfl, hm⟩; replace HM := hid hm; clear hm c0)
    | (go_at_call 37; (with_reducible refine (HR.out _ _ HM.out).mono ?_); rintro e v2 ⟨rfl, hm⟩; replace HM := hid hm; clear hm)
    | (with_reducible refine wpList_load_part (by with_unfolding_all rfl) 65 _ (by with_unfolding_all rfl) ob 7 (Lib.byteCells d) _ (by with_unfolding_all rfl) (HM.out.blk.range [Value.int .i64 6, .int .i64 on, .int .u64 (nn : Nat), .int .i64 wd, .int .i64 iv, .bool fl, .slice ba bn bc] (Lib.byteCells d) [] 7 (by simp) rfl) Tryz.underlying65 (by with_unfolding_all rfl) HD.out ?_))
  go_ret
  exact ⟨rfl, _, HM.out⟩
end Go.Proofs.YtfalgjdhdgkbfaaGreatDoor
