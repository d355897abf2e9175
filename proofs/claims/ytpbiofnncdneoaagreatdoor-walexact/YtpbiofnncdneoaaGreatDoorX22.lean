/- All of it stays where what is none of its own turns. -/
import Derived.Test.YtpbiofnncdneoaaGreatDoorX21
import Derived.Laws.Tables
import Derived.Test.YtpbiofnncdneoaaGreatDoorX16
import Derived.Test.YtpbiofnncdneoaaGreatDoorX08
import Derived.Deep.RegionHeld3
import Derived.Lib.SmallJoins
import Derived.OwnWalk
import Derived.Deep.Cut
import Derived.Laws.OwnMore
namespace Go.Proofs.YtpbiofnncdneoaaGreatDoor.Bq
open Go Go.RowKit Go.Proofs.YtpbiofnncdneoaaGreatDoor.Bk
open Go.RowKit (wrap32 wrap64)

variable {w u u' : World} {B B' : Nat → Prop} {e : TypeId} {v : Value} {n : Nat} {xs : List Value}
/-- What the footprint holds is as it was. -/
structure Oth (B B' : Nat → Prop) (u u' : World) : Prop where
 size : u.heap.size ≤ u'.heap.size
 block : ∀ k, k < u.heap.size → B k → u'.heap[k]? = u.heap[k]?
 sub : ∀ k, k < u.heap.size → B k → B' k
 new : NewB B' u'
theorem OwnR.oth (h : OwnR u B e v n xs) (k : Oth B B' u u') : OwnR u' B' e v n xs := by
 refine ⟨h.1, ?_⟩
 rcases h.2 with h5 | ⟨g, cap, cur, hv, hg, hh, r⟩
 ·exact Or.inl h5
 ·have hl := (Array.getElem?_eq_some_iff.1 hh).1
  exact Or.inr ⟨g, cap, cur, hv, k.sub g hl hg, by rw [k.block g hl hg]; exact hh, r⟩
theorem rowIs_oth {b t m : Nat} {f : Nat → Value} (h : u.rowIs b t m f) (hb : B b) (k : Oth B B' u u') : u'.rowIs b t m f := by
 obtain ⟨c, h1, h2⟩ := h
 exact ⟨c, by rw [k.block b (Array.getElem?_eq_some_iff.1 h1).1 hb]; exact h1, h2⟩
theorem held_oth {g : Value} {m : Nat} (h : Bk.Held u g m) (hb : ∀ b, g.ownBlock = some b → B b) (k : Oth B B' u u') : Bk.Held u' g m :=
 held_keeps h (fun b q cs hcs => ⟨cs, by rw [k.block b (Array.getElem?_eq_some_iff.1 hcs).1 (hb b q)]; exact hcs, fun _ _ => rfl⟩)
theorem Rd5.oth {x : Value} {l : List UInt8} (h : Rd5 u x l) (hb : ∀ b, x.ownBlock = some b → B b) (k : Oth B B' u u') : Rd5 u' x l := by
 obtain ⟨a, c, rfl, hh, hlow⟩ := h
 refine ⟨a, c, rfl, fun hl => ?_, fun b q => Nat.lt_of_lt_of_le (hlow b q) k.size⟩
 obtain ⟨b, cs, fr, rfl, h1, h2⟩ := hh hl
 exact ⟨b, cs, fr, rfl, by rw [k.block b (Array.getElem?_eq_some_iff.1 h1).1 (hb b rfl)]; exact h1, h2⟩
theorem ST.oth {bk lt T : Nat} {ps : List Item} {n : Nat} (h : ST u B bk lt T ps n) (k : Oth B B' u u') : ST u' B' bk lt T ps n := by
 obtain ⟨A, D, v0, v1, U, gs, ms, vg, vw, xs, h⟩ := h
 have hb := h.sl.book
 refine ⟨A, D, v0, v1, U, gs, ms, vg, vw, xs, ⟨⟨⟨rowIs_oth hb.cells h.sl.hB.1 k, hb.row0.oth k, hb.row1.oth k, fun i g m hg hm => held_oth (hb.held i g m hg hm) (fun b q => (hb.lowb i g b hg q).2) k, hb.mle, fun i g m h1 h2 hg hm => ?_, fun i g b hg q => ⟨Nat.lt_of_lt_of_le (hb.low i g b hg q) k.size, k.sub b (hb.low i g b hg q) (hb.lowb i g b hg q).2⟩⟩, h.sl.ale, h.sl.use, h.sl.u0, h.sl.u1, rowIs_oth h.sl.cells h.sl.hB.2.1 k, h.sl.row0.oth k, h.sl.ap, fun p hp => ⟨(h.sl.own p hp).1.oth k, (h.sl.own p hp).2⟩, h.sl.alone, h.sl.apart, ⟨k.sub bk hb.cells.lt h.sl.hB.1, k.sub lt h.sl.cells.lt h.sl.hB.2.1, k.new⟩⟩, h.row1.oth k, h.apg, h.apw, fun i x p hx hp => (h.want i x p hx hp).oth (fun b q => (h.wlowb x (List.mem_of_getElem? hx) b q).2) k, h.wap, fun x hx b q => ⟨Nat.lt_of_lt_of_le (h.wlow x hx b q) k.size, k.sub b (h.wlow x hx b q) (h.wlowb x hx b q).2⟩, h.nle⟩⟩
 obtain ⟨⟨nn, hnn, ho⟩, h4⟩ := hb.fresh i g m h1 h2 hg hm
 exact ⟨⟨nn, hnn, ho.oth k⟩, h4⟩
theorem ST.new {bk lt : Nat} (h1 : Bkc w bk (.slice none 0 0) (.slice none 0 0) 0 0 0 0) (h2 : w.rowIs lt 66 2 (ltF (.slice none 0 0) (.slice none 0 0))) (hB : B bk) (hL : B lt) (hw : NewB B w) : ST w B bk lt 0 [] 0 :=
 ⟨0, 0, .slice none 0 0, .slice none 0 0, 0, [], [], .slice none 0 0, .slice none 0 0, [], ⟨⟨⟨h1, OwnR.nil _ _ _, OwnR.nil _ _ _, fun i g m hg => by simp at hg, fun m hm => by simp at hm, fun i g m _ h => by simp at h, fun i g b hg => by simp at hg⟩, Nat.le_refl _, by decide, by decide, by decide, h2, OwnR.nil _ _ _, Or.inl rfl, fun p hp => by simp at hp, List.Pairwise.nil, fun j g hg => by simp at hg, ⟨hB, hL, hw⟩⟩, OwnR.nil _ _ _, Or.inl rfl, Or.inl rfl, fun i x p hx => by simp at hx, fun x hx => by simp at hx, fun x hx => by simp at hx, Nat.le_refl _⟩⟩
theorem ST.look {bk lt T : Nat} {ps : List Item} {n : Nat} (h : ST w B bk lt T ps n) : Calls Tryz.prog 13 #[.pointer (some ⟨bk, 0, none⟩)] w fun e w' => e = .returned (.bool true) ∧ Bel B w w' := by
 obtain ⟨A, D, v0, v1, U, gs, ms, vg, vw, xs, h⟩ := h
 refine (look_any w B bk A v0 v1 T D U gs ms h.sl.book h.sl.ale h.sl.use h.sl.u1 h.sl.hB.1 h.sl.hB.2.2).mono ?_
 rintro e w' ⟨rfl, _, _, _, _, _, _, _, _, _, hb, _⟩
 exact ⟨rfl, hb⟩
end Go.Proofs.YtpbiofnncdneoaaGreatDoor.Bq

namespace Go.Proofs.YtpbiofnncdneoaaGreatDoor.Bk
open Go Go.RowKit

def zeroB : Array Value := ((List.range 75).map (bkF (.slice none 0 0) (.slice none 0 0) 0 0 0 0)).toArray
def zeroL : Array Value := #[.slice none 0 0, .slice none 0 0]

theorem built63 : Tryz.prog.built 63 [] = some zeroB := by kernel_rfl
theorem built66 : Tryz.prog.built 66 [] = some zeroL := by kernel_rfl

theorem wp_build63 {o : Oper} {a : Act} {w : World} {K : Act → World → Prop} {Q : Exit → Act → World → Prop} (ho : o.op = .build 63 #[]) (h : K (a.put o.dst (.agg zeroB)) w) : o.wp Tryz.prog a w K Q := by
 have e0 : ((#[] : Array (Nat × Operand)).map fun (i, x) => (i, a.eval x)).toList = [] := by simp
 have e : Tryz.prog.built 63 ((#[] : Array (Nat × Operand)).map fun (i, x) => (i, a.eval x)).toList = some zeroB := by rw [e0]; exact built63
 refine wp_build 63 #[] ho (by rw [e]; rfl) ?_
 rw [e]
 exact h

theorem wp_build66 {o : Oper} {a : Act} {w : World} {K : Act → World → Prop} {Q : Exit → Act → World → Prop} (ho : o.op = .build 66 #[]) (h : K (a.put o.dst (.agg zeroL)) w) : o.wp Tryz.prog a w K Q := by
 have e0 : ((#[] : Array (Nat × Operand)).map fun (i, x) => (i, a.eval x)).toList = [] := by simp
 have e : Tryz.prog.built 66 ((#[] : Array (Nat × Operand)).map fun (i, x) => (i, a.eval x)).toList = some zeroL := by rw [e0]; exact built66
 refine wp_build 66 #[] ho (by rw [e]; rfl) ?_
 rw [e]
 exact h

theorem zeroB_row (w : World) : Bkc (w.alloc (.cells zeroB 63)) w.heap.size (.slice none 0 0) (.slice none 0 0) 0 0 0 0 :=
 ⟨zeroB, heap_alloc_new w _, by simp [zeroB], fun i hi => by simp [zeroB, hi]⟩

theorem zeroL_row (w : World) : (w.alloc (.cells zeroL 66)).rowIs w.heap.size 66 2 (Bq.ltF (.slice none 0 0) (.slice none 0 0)) :=
 ⟨zeroL, heap_alloc_new w _, rfl, fun i hi => by
  rcases (show i = 0 ∨ i = 1 by omega) with rfl | rfl <;> simp [zeroL, Bq.ltF]⟩

end Go.Proofs.YtpbiofnncdneoaaGreatDoor.Bk

namespace Go.Proofs.YtpbiofnncdneoaaGreatDoor
open Go Go.RowKit
open Go.RowKit (wrap32 wrap64)

variable {w u u' u2 : World} {col col' col2 : Nat → Nat} {S S' : Nat → Prop}
def up {α : Type} (f : Nat → α) (k : Nat) (x : α) (j : Nat) : α := if j = k then x else f j
theorem up_at {α : Type} {f : Nat → α} {k : Nat} {x : α} : up f k x k = x := if_pos rfl
theorem up_ne {α : Type} {f : Nat → α} {k j : Nat} {x : α} (h : j ≠ k) : up f k x j = f j := if_neg h
theorem dye_old {i k : Nat} (h : k < u.heap.size) : dye u col i k = col k := if_pos h
theorem dye_new {i k : Nat} (h : u.heap.size ≤ k) : dye u col i k = i := if_neg (by omega)
/-- What is done writes blocks of the colours S alone. -/
structure Stp (w : World) (S : Nat → Prop) (u : World) (col : Nat → Nat) (u' : World) (col' : Nat → Nat) : Prop where
 same : ∀ x, x < u.heap.size → col' x = col x
 os : u'.os = u.os
 tape : u'.tape = u.tape
 output : u'.output = u.output
 size : u.heap.size ≤ u'.heap.size
 block : ∀ x, x < u.heap.size → (x < w.heap.size ∨ ¬ S (col x)) → u'.heap[x]? = u.heap[x]?
theorem Stp.refl (w : World) (S : Nat → Prop) (u : World) (col : Nat → Nat) : Stp w S u col u col := ⟨fun _ _ => rfl, rfl, rfl, rfl, Nat.le_refl _, fun _ _ _ => rfl⟩
theorem Stp.trans (h : Stp w S u col u' col') (k : Stp w S u' col' u2 col2) : Stp w S u col u2 col2 :=
 ⟨fun x hx => (k.same x (Nat.lt_of_lt_of_le hx h.size)).trans (h.same x hx), k.os.trans h.os, k.tape.trans h.tape, k.output.trans h.output, Nat.le_trans h.size k.size, fun x hx hs => (k.block x (Nat.lt_of_lt_of_le hx h.size) (by rw [h.same x hx]; exact hs)).trans (h.block x hx hs)⟩
theorem Stp.mono (h : Stp w S u col u' col') (hs : ∀ i, S i → S' i) : Stp w S' u col u' col' := ⟨h.same, h.os, h.tape, h.output, h.size, fun x hx q => h.block x hx (q.imp id (fun n e => n (hs _ e)))⟩
theorem Stp.new (hg : u.grownBy u' none) (i : Nat) : Stp w S u col u' (dye u col i) := ⟨fun x hx => dye_old hx, hg.os, hg.tape, hg.output, hg.size, fun x hx _ => hg.block x hx (by simp)⟩
theorem Stp.one {b j : Nat} (hg : u.grownBy u' (some b)) (hb : Co w u col j b) (i : Nat) (hS : S j) : Stp w S u col u' (dye u col i) :=
 ⟨fun x hx => dye_old hx, hg.os, hg.tape, hg.output, hg.size, fun x hx q => hg.block x hx (fun e => by
  injection e with e
  rw [e] at q
  rcases q with q | q
  ·have := hb.2.1; omega
  ·exact q (by rw [hb.1]; exact hS))⟩
theorem Stp.opt {r : Option Nat} {j : Nat} (hg : u.grownBy u' r) (hb : ∀ b, r = some b → Co w u col j b) (i : Nat) (hS : S j) : Stp w S u col u' (dye u col i) := by
 cases r with
 | none => exact Stp.new hg i
 | some b => exact Stp.one hg (hb b rfl) i hS
theorem Stp.grown (h : Stp w S u col u' col') (hg : w.grownBy u none) : w.grownBy u' none := ⟨h.os.trans hg.os, h.tape.trans hg.tape, h.output.trans hg.output, Nat.le_trans hg.size h.size, fun k hk _ => (h.block k (Nat.lt_of_lt_of_le hk hg.size) (.inl hk)).trans (hg.block k hk (by simp))⟩
theorem Co.stp {i k : Nat} (h : Co w u col i k) (s : Stp w S u col u' col') : Co w u' col' i k := ⟨(s.same k h.2.2).trans h.1, h.2.1, Nat.lt_of_lt_of_le h.2.2 s.size⟩
theorem Co.at {i k : Nat} (h : Co w u col i k) (s : Stp w S u col u' col') (hi : ¬ S i) : u'.heap[k]? = u.heap[k]? := s.block k h.2.2 (.inr (by rw [h.1]; exact hi))
/-- A block in its colour. -/
structure Pl (w u : World) (col : Nat → Nat) (i b : Nat) (cs : List Value) (t : TypeId) : Prop where
 blk : u.heap[b]? = some (.cells cs.toArray t (0, 0))
 co : Co w u col i b
theorem Pl.stp {i b t : Nat} {cs : List Value} (h : Pl w u col i b cs t) (s : Stp w S u col u' col') (hi : ¬ S i) : Pl w u' col' i b cs t := ⟨(h.co.at s hi).trans h.blk, h.co.stp s⟩
theorem Pl.cell {i b t : Nat} {cs : List Value} (h : Pl w u col i b cs t) (j : Nat) : u.cell? ⟨b, j, none⟩ = cs[j]? := by
 simp [World.cell?, h.blk]
theorem rowIs_at {b t n : Nat} {f : Nat → Value} (h : u.rowIs b t n f) (hb : u'.heap[b]? = u.heap[b]?) : u'.rowIs b t n f := by
 obtain ⟨c, h1, h2⟩ := h
 exact ⟨c, hb.trans h1, h2⟩
/-- The book's footprint. -/
def Bt (w u : World) (col : Nat → Nat) (k : Nat) : Prop := Co w u col 4 k ∨ u.heap.size ≤ k
variable {bk lt T n : Nat} {ps : List Bq.Item}
theorem st_stp (h : Bq.ST u (Bt w u col) bk lt T ps n) (s : Stp w S u col u' col') (hS : ¬ S 4) : Bq.ST u' (Bt w u' col') bk lt T ps n :=
 h.oth ⟨s.size, fun k hk q => q.elim (fun c => c.at s hS) (fun r => by omega), fun k hk q => q.elim (fun c => .inl (c.stp s)) (fun r => by omega), fun b hb => .inr hb⟩
/-- Behind one of the book's own calls. -/
theorem st_own (hg : w.grownBy u none) (h : Bq.ST u' (Bt w u col) bk lt T ps n) (hb : Bq.Bel (Bt w u col) u u') : Bq.ST u' (Bt w u' (dye u col 4)) bk lt T ps n ∧ Stp w (fun i => i = 4) u col u' (dye u col 4) := by
 have s : Stp w (fun i => i = 4) u col u' (dye u col 4) := ⟨fun x hx => dye_old hx, hb.os, hb.tape, hb.output, hb.size, fun x hx q => hb.block x hx (fun e => by
  rcases e with e | e
  ·rcases q with q | q
   ·have := e.2.1; omega
   ·exact q e.1
  ·omega)⟩
 refine ⟨h.oth ⟨Nat.le_refl _, fun _ _ _ => rfl, fun k hk q => ?_, fun b hb => .inr hb⟩, s⟩
 rcases q with q | q
 ·exact .inl (q.stp s)
 ·exact .inl ⟨dye_new q, Nat.le_trans hg.size q, hk⟩
end Go.Proofs.YtpbiofnncdneoaaGreatDoor

namespace Go.Proofs.YtpbiofnncdneoaaGreatDoor
open Go Go.RowKit
open Go.RowKit (wrap32 wrap64)

/-- One bit of the sum. -/
def bst (s : Nat) : Nat := s / 2 ^^^ (if s % 2 = 1 then 3988292384 else 0)
def bsts : Nat → Nat → Nat
 | 0, x => x
 | k + 1, x => bst (bsts k x)
theorem bst_lt (s : Nat) (h : s < 2 ^ 32) : bst s < 2 ^ 32 := by
 unfold bst
 refine Nat.xor_lt_two_pow (by omega) ?_
 split <;> decide
theorem bsts_lt : ∀ (k s : Nat), s < 2 ^ 32 → bsts k s < 2 ^ 32
 | 0, _, h => h
 | k + 1, s, h => bst_lt _ (bsts_lt k s h)
theorem xor_div2 (a b : Nat) : (a ^^^ b) / 2 = a / 2 ^^^ b / 2 := by
 have := Nat.shiftRight_xor_distrib (a := a) (b := b) (i := 1)
 simpa [Nat.shiftRight_eq_div_pow] using this
theorem xor_mod2 (a b : Nat) : (a ^^^ b) % 2 = a % 2 ^^^ b % 2 := Nat.xor_mod_two_pow (n := 1)
theorem bst_xor (a b : Nat) : bst (a ^^^ b) = bst a ^^^ bst b := by
 unfold bst
 rw [xor_div2, xor_mod2]
 rcases Nat.mod_two_eq_zero_or_one a with ha | ha <;> rcases Nat.mod_two_eq_zero_or_one b with hb | hb <;> rw [ha, hb]
 ·simp
 ·simp; ac_rfl
 ·simp; ac_rfl
 ·show a / 2 ^^^ b / 2 ^^^ 0 = a / 2 ^^^ 3988292384 ^^^ (b / 2 ^^^ 3988292384)
  rw [show a / 2 ^^^ 3988292384 ^^^ (b / 2 ^^^ 3988292384) = a / 2 ^^^ b / 2 ^^^ (3988292384 ^^^ 3988292384) by ac_rfl, Nat.xor_self]
theorem bst_up (m : Nat) : bst (m * 2) = m := by
 unfold bst
 rw [Nat.mul_mod_left, if_neg (by decide), Nat.mul_div_cancel _ (by decide)]
 simp
theorem bst4 (s : Nat) : bst (bst (bst (bst s))) = nib s := by
 have hs : (s / 16 * 16) ^^^ (s % 16) = s := by
  have h1 : ((s / 16 * 16) ^^^ (s % 16)) / 16 = s / 16 := by
   rw [xor_div16, Nat.mul_div_cancel _ (by decide), Nat.div_eq_of_lt (Nat.mod_lt _ (by decide))]
   simp
  have h2 : ((s / 16 * 16) ^^^ (s % 16)) % 16 = s % 16 := by
   rw [xor_mod16, Nat.mul_mod_left, Nat.mod_mod]
   simp
  omega
 have hlow : ∀ r : Fin 16, bst (bst (bst (bst r.val))) = tb r.val := by decide
 have hup : bst (bst (bst (bst (s / 16 * 16)))) = s / 16 := by
  rw [show s / 16 * 16 = s / 16 * 2 * 2 * 2 * 2 by omega, bst_up, bst_up, bst_up, bst_up]
 have e := hlow ⟨s % 16, Nat.mod_lt _ (by decide)⟩
 calc bst (bst (bst (bst s))) = bst (bst (bst (bst ((s / 16 * 16) ^^^ (s % 16))))) := by rw [hs]
  _ = bst (bst (bst (bst (s / 16 * 16)))) ^^^ bst (bst (bst (bst (s % 16)))) := by rw [bst_xor, bst_xor, bst_xor, bst_xor]
  _ = nib s := by rw [hup, e]; rfl
theorem bsts8 (s : Nat) : bsts 8 s = nib (nib s) := by
 show bst (bst (bst (bst (bst (bst (bst (bst s))))))) = _
 rw [bst4, bst4]
set_option maxRecDepth 100000 in
set_option maxHeartbeats 800000 in
theorem sumR_any (l : List UInt8) (F : Nat → Prop) (v : Value) (w : World) (hl : l.length ≤ 140737488355328) (hr : Rd w F v l) :
  Calls Tryz.prog 163 #[v] w fun e w' => e = .returned (.int .u32 (sumL l)) ∧ w' = w := by
 obtain ⟨a, b, off, c, rfl, hc, hn, ha, hcell⟩ := hr
 have HC := hid hcell
 have HA := hid ha
 clear hcell ha hn hc
 have HS : Hid (sumL l = 4294967295 ^^^ crcL 4294967295 (l.take l.length)) := by rw [List.take_length]; exact sumL_xor l
 generalize sumL l = R at HS
 obtain ⟨n, HN⟩ : ∃ n, Hid (l.length = n) := ⟨_, hid rfl⟩
 rw [HN.out] at hl HS ⊢
 go_enter Tryz.func163, Tryz.ntmps163
 go_wp2
 go_loop [3, 4] (fun sv iv => ∃ k : Nat, k ≤ n ∧ iv = .int .i64 k ∧ sv = .int .u32 (crcL 4294967295 (l.take k))) (fun _ iv => n - (intOf iv).toNat)
 case atStart => exact ⟨0, Nat.zero_le _, rfl, rfl⟩
 case round =>
  obtain ⟨k, hk, rfl, rfl⟩ := hrel
  have hs := crcL_lt (l.take k) 4294967295 (by decide)
  obtain ⟨S, HSS⟩ : ∃ S, Hid (crcL 4294967295 (l.take k) = S) := ⟨_, hid rfl⟩
  rw [HSS.out] at hs ⊢
  by_cases hlt : k < n
  ·have hlt' : (k : Int) < (n : Int) := by omega
   have hil : k < l.length := by rw [HN.out]; exact hlt
   obtain ⟨rfl, hb, _⟩ := HA.out (by omega)
   have hck := HC.out k hil
   obtain ⟨x, HX⟩ : ∃ x, Hid (l[k] = x) := ⟨_, hid rfl⟩
   rw [HX.out] at hck
   have hxb := u8_bd x
   have hX : S ^^^ x.toNat < 2 ^ 32 := Nat.xor_lt_two_pow hs (u8_lt32 x)
   have e1 := u32_xor_nat S x.toNat hs (u8_lt32 x)
   obtain ⟨X, HXX⟩ : ∃ X, Hid (S ^^^ x.toNat = X) := ⟨_, hid rfl⟩
   rw [HXX.out] at hX e1
   have HB := hid (show crcL 4294967295 (l.take (k + 1)) = bsts 8 X by
    rw [take_snocL l k hil, crcL_snoc, HSS.out, HX.out, crcB, HXX.out, bsts8])
   have HXl := hid hX
   clear HX hil hX hs
   go_wp2
   go_loop [3, 5, 6] (fun sv jv _ => ∃ j : Nat, j ≤ 8 ∧ jv = .int .i64 j ∧ sv = .int .u32 (bsts j X)) (fun _ jv _ => 8 - (intOf jv).toNat)
   case atStart => exact ⟨0, by omega, rfl, rfl⟩
   case round =>
    obtain ⟨j, hj, rfl, rfl⟩ := hrel
    have hYl := bsts_lt j X HXl.out
    have HYs : Hid (bsts (j + 1) X = bst (bsts j X)) := hid rfl
    obtain ⟨Y, HY⟩ : ∃ Y, Hid (bsts j X = Y) := ⟨_, hid rfl⟩
    rw [HY.out] at hYl HYs ⊢
    by_cases hjl : j < 8
    ·have hjl' : (j : Int) < 8 := by omega
     have e2 := u32_xor_nat (Y / 2) 3988292384 (by omega) (by decide)
     rw [show ((Y / 2 : Nat) : Int) = (Y : Int) / 2 by omega] at e2
     rcases Nat.mod_two_eq_zero_or_one Y with hm | hm
     ·have hm' : (Y : Int) % 2 = 0 := by omega
      have HZ : Hid (bst Y = Y / 2) := hid (by unfold bst; rw [hm, if_neg (by decide)]; simp)
      clear hm
      go_wp2
      go_round
      case rel => exact ⟨j + 1, by omega, by go_num, by rw [HYs.out, HZ.out]; go_num⟩
      case measure => simp [intOf]; omega
     ·have hm' : (Y : Int) % 2 = 1 := by omega
      have HZ : Hid (bst Y = Y / 2 ^^^ 3988292384) := hid (by unfold bst; rw [hm, if_pos rfl])
      clear hm
      obtain ⟨Z, HZZ⟩ : ∃ Z, Hid (Y / 2 ^^^ 3988292384 = Z) := ⟨_, hid rfl⟩
      rw [HZZ.out] at e2 HZ
      have e9 : bits .xor .u32 ((Y : Int) / 2) 3988292384 = (Z : Int) := e2
      clear e2
      go_wp2
      go_round
      case rel => exact ⟨j + 1, by omega, by go_num, by rw [HYs.out, HZ.out]⟩
      case measure => simp [intOf]; omega
    ·obtain rfl : j = 8 := by omega
     have hjl' : ¬ (8 : Int) < 8 := by omega
     go_wp2
     go_round
     case rel => exact ⟨k + 1, by omega, by go_num, by rw [HB.out, HY.out]⟩
     case measure => simp [intOf]; omega
  ·have hlt' : ¬ (k : Int) < (n : Int) := by omega
   obtain rfl : k = n := by omega
   have e1 := u32_xor_nat S 4294967295 hs (by decide)
   have HR : Hid (R = S ^^^ 4294967295) := hid (by rw [HS.out, ← HSS.out]; exact Nat.xor_comm _ _)
   obtain ⟨Z, HZZ⟩ : ∃ Z, Hid (S ^^^ 4294967295 = Z) := ⟨_, hid rfl⟩
   rw [HZZ.out] at e1 HR
   have e9 : bits .xor .u32 (S : Int) 4294967295 = (Z : Int) := e1
   clear e1
   go_wp2
   go_ret
   exact ⟨by rw [HR.out]; rfl, rfl⟩
end Go.Proofs.YtpbiofnncdneoaaGreatDoor

namespace Go.Proofs.YtpbiofnncdneoaaGreatDoor
open Go Go.RowKit
open Go.RowKit (wrap32 wrap64)

theorem Out.form {B : Nat} {w : World} {v : Value} {l : List UInt8} (h : Out B w v l) (h0 : 0 < l.length) : ∃ g c, v = .slice (some ⟨g, 0, none⟩) l.length c ∧ l.length ≤ c ∧ B ≤ g ∧ g < w.heap.size ∧ ∀ i (hi : i < l.length), w.cell? ⟨g, i, none⟩ = some (.int .u8 l[i].toNat) := by
 have hcs := fun (g : Nat) (hg : v.ownBlock = some g) => h.cells (g := g) hg
 have hlt := fun (g : Nat) (hg : v.ownBlock = some g) => (h.lt g hg).2
 rcases h.2 with ⟨rfl, h1⟩ | ⟨g, cap, cur, rfl, hb, hg, hle, hm, hs, ht⟩
 ·omega
 ·refine ⟨g, cap, rfl, hle, hb, hlt g rfl, fun i hi => ?_⟩
  have := hcs g rfl i (.int .u8 l[i].toNat) (by simp [Lib.byteCells, List.getElem?_eq_getElem hi])
  rw [Addr.add_lit, Nat.zero_add] at this
  exact this
theorem Rd.pre {w : World} {F : Nat → Prop} {q : Addr} {n c : Nat} {l : List UInt8} (h : Rd w F (.slice (some q) n c) l) (k : Nat) (hk : k ≤ l.length) : Rd w F (.slice (some q) k k) (l.take k) := by
 obtain ⟨a, b, off, c', e, hc, hn, ha, hcell⟩ := h
 injection e with e1 e2 e3
 have hl : (l.take k).length = k := by rw [List.length_take]; omega
 refine ⟨some q, b, off, k, by rw [hl], by rw [hl]; exact Nat.le_refl _, (fun h => by cases h), fun h0 => ?_, fun i hi => ?_⟩
 ·obtain ⟨h1, h2⟩ := ha (by omega)
  exact ⟨by rw [e1]; exact h1, h2⟩
 ·have := hcell i (by omega)
  rw [this]
  simp
theorem Out.free {B : Nat} {w : World} {g n c : Nat} {l : List UInt8} (h : Out B w (.slice (some ⟨g, 0, none⟩) n c) l) (i : Nat) : w.frozen? ⟨g, i, none⟩ = false := by
 rcases h.2 with ⟨e, _⟩ | ⟨g', cap, cur, e, hb, hg, _⟩
 ·cases e
 ·injection e with e1 e2 e3
  injection e1 with e1
  injection e1 with e1 _ _
  subst e1
  simp [World.frozen?, hg]
/-- make: a row of zeros of the call's own. -/
theorem makeO (w : World) (n : Nat) (hn : n ≤ 140737488355328) : ∃ w', (Instr.makeSlice 74 (.int .i64 (n : Int)) (.int .i64 (n : Int))).run Tryz.prog w = .ok (.slice (some ⟨w.heap.size, 0, none⟩) n n) w' ∧ Out w.heap.size w' (.slice (some ⟨w.heap.size, 0, none⟩) n n) (List.replicate n 0) ∧ w.grownBy w' none := by
 obtain ⟨inf, hi, hz0, hz1, hz2⟩ := info_parts Tryz.info5
 obtain ⟨w', h1, h2, h3⟩ := run_make_full (P := Tryz.prog) w w.heap.size 74 5 inf (.int .u8 0) 1 Tryz.underlying74 hi hz0 hz1 .i64 .i64 n (by rw [hz2]; omega) (by unfold maxLen; omega) (Nat.le_refl _)
 refine ⟨w', h1, ?_, h3⟩
 unfold Out
 rw [List.length_replicate]
 have e : (madeCells (Value.int .u8 0).cells (n * 1)).toList = Lib.byteCells (List.replicate n 0) := by
  have hc : (Value.int .u8 0).cells = #[Value.int .u8 0] := rfl
  rw [hc, Nat.mul_one]
  unfold madeCells Lib.byteCells
  apply List.ext_getElem?
  intro i
  by_cases hi : i < n
  ·simp [hi, Nat.mod_one]
  ·simp [hi]
 rw [e] at h2
 exact h2
theorem layL_get (n k i : Nat) (h : i < k) : (layL n k)[i]? = some (UInt8.ofNat (n / 2 ^ (8 * (k - 1 - i)))) := by
 unfold layL layP
 rw [List.getElem?_map, List.getElem?_range h]
 rfl
theorem pow256 (j : Nat) : 256 ^ j = 2 ^ (8 * j) := by rw [Nat.pow_mul]
theorem row_step (n k j : Nat) (h : j < k) : (List.replicate (j + 1) (0 : UInt8) ++ (layL n k).drop (j + 1)).set j (UInt8.ofNat (n / 256 ^ (k - (j + 1)))) = List.replicate j 0 ++ (layL n k).drop j := by
 have hl : j < (layL n k).length := by rw [layL_length]; exact h
 have hg : (layL n k)[j] = UInt8.ofNat (n / 256 ^ (k - (j + 1))) := by
  have := layL_get n k j h
  rw [List.getElem?_eq_getElem hl] at this
  injection this with this
  rw [this, pow256, show k - 1 - j = k - (j + 1) by omega]
 rw [List.drop_eq_getElem_cons hl, hg, List.replicate_succ', List.append_assoc, List.set_append_right _ _ (by simp), List.length_replicate, Nat.sub_self]
 rfl
set_option maxRecDepth 100000 in
set_option maxHeartbeats 800000 in
theorem numbR_any (w : World) (n k : Nat) (hn : n < 18446744073709551616) (hk : k ≤ 8) :
  Calls Tryz.prog 162 #[.int .u64 n, .int .i64 k] w fun e w' => ∃ v, e = .returned (.tuple #[v, .bool (decide (n < 256 ^ k))]) ∧ Out w.heap.size w' v (layL n k) ∧ w.grownBy w' none := by
 obtain ⟨w1, hmk, hO1, hg1⟩ := makeO w k (by omega)
 have HO1 : Hid (Out w.heap.size w1 (.slice (some ⟨w.heap.size, 0, none⟩) k k) (List.replicate k 0 ++ (layL n k).drop k)) := hid (by rw [List.drop_of_length_le (by rw [layL_length]; exact Nat.le_refl _), List.append_nil]; exact hO1)
 have HG1 := hid hg1
 have HNn := hid hn
 obtain ⟨RB, HRB⟩ : ∃ x, Hid (decide (n < 256 ^ k) = x) := ⟨_, hid rfl⟩
 rw [HRB.out]
 clear hO1 hg1 hn
 obtain ⟨g, hgg⟩ : ∃ x, w.heap.size = x := ⟨_, rfl⟩
 rw [hgg] at hmk
 have HGg := hid hgg
 clear hgg
 rw [HGg.out] at HO1
 go_enter Tryz.func162, Tryz.ntmps162
 go_wp2
 clear hmk
 go_loopw [0, 7] (fun nv iv wr => ∃ (j m : Nat), nv = .int .u64 m ∧ iv = .int .i64 ((j : Int) - 1) ∧ j ≤ k ∧ m < 18446744073709551616 ∧ Hid (m = n / 256 ^ (k - j)) ∧ Hid (Out g wr (.slice (some ⟨g, 0, none⟩) k k) (List.replicate j 0 ++ (layL n k).drop j)) ∧ Hid (w.grownBy wr none)) (fun _ iv _ => (intOf iv + 1).toNat)
 case atStart => exact ⟨k, n, rfl, rfl, Nat.le_refl _, HNn.out, hid (by rw [Nat.sub_self, Nat.pow_zero, Nat.div_one]), HO1, HG1⟩
 case round =>
  clear HO1 HG1
  obtain ⟨j, m, rfl, rfl, hj, hm, HM, HO, HG⟩ := hrel
  cases j with
  | zero =>
   have h0 : ¬ (0 : Int) ≤ ((0 : Nat) : Int) - 1 := by omega
   have HRe : Hid (RB = decide (m = 0)) := hid (by
    rw [← HRB.out, HM.out, Nat.sub_zero, Bool.eq_iff_iff, decide_eq_true_eq, decide_eq_true_eq]
    constructor
    ·intro h; exact Nat.div_eq_of_lt h
    ·intro h
     have := Nat.lt_mul_div_succ n (show 0 < 256 ^ k from Nat.pow_pos (by decide))
     rw [h] at this
     omega)
   by_cases hm0 : m = 0
   ·subst hm0
    obtain rfl : RB = true := by rw [HRe.out]; rfl
    go_wp2
    go_ret2
    exact ⟨_, rfl, by rw [HGg.out]; exact HO.out, HG.out⟩
   ·obtain rfl : RB = false := by rw [HRe.out, decide_eq_false hm0]
    have hm1 : ¬ (m : Int) = 0 := by omega
    have hm2 : ((m : Int) == 0) = false := beq_eq_false_iff_ne.2 hm1
    clear hm0
    go_wp2
    go_ret2
    exact ⟨_, rfl, by rw [HGg.out]; exact HO.out, HG.out⟩
  | succ j =>
   have h0 : (((j + 1 : Nat) : Int) - 1) = (j : Int) := by omega
   rw [h0]
   clear h0
   have hj' : (j : Int) < (k : Int) := by omega
   have hz := HO.out.free j
   obtain ⟨g', c', e', -, -, -, hcl⟩ := HO.out.form (by rw [List.length_append, List.length_replicate]; omega)
   have hlt : j < (List.replicate (j + 1) (0 : UInt8) ++ (layL n k).drop (j + 1)).length := by rw [List.length_append, List.length_replicate]; omega
   have hc0 := hcl j hlt
   injection e' with e1 e2 e3
   clear e2 e3
   injection e1 with e1
   injection e1 with e1
   rw [← e1] at hc0
   obtain ⟨y0, hy0⟩ : ∃ y : Value, wr.cell? ⟨g, j, none⟩ = some y := ⟨_, hc0⟩
   clear hcl e1 hc0 hlt
   have hcv : IntKind.u8.wrap ((m : Int) % 256) = ((UInt8.ofNat m).toNat : Int) := by
    rw [IntKind.wrap_u8, UInt8.toNat_ofNat']
    omega
   have hcv2 : ((m : Int) % 256) = ((UInt8.ofNat m).toNat : Int) := by
    rw [UInt8.toNat_ofNat']
    omega
   have HSt := hid (row_step n k j (by omega))
   rw [← HM.out] at HSt
   obtain ⟨x, hx⟩ : ∃ x, UInt8.ofNat m = x := ⟨_, rfl⟩
   rw [hx] at hcv hcv2 HSt
   obtain ⟨xi, hxi⟩ : ∃ z : Int, (x.toNat : Int) = z := ⟨_, rfl⟩
   have hxb := u8_bd x
   rw [hxi] at hcv2 hxb
   have hcv3 : IntKind.u8.wrap xi = xi := by rw [IntKind.wrap_u8]; omega
   have HXI := hid hxi
   clear hx hcv hxi
   have hwm : IntKind.u64.wrap ((m : Int) / 256) = (m : Int) / 256 := by rw [IntKind.wrap_u64]; omega
   have hj8 : j ≤ 8 := by omega
   have Hm := hid hm
   clear hm
   go_upto_region 6 with fail
   obtain ⟨w5, hw5⟩ : ∃ y, wr.setCell ⟨g, j, none⟩ (.int .u8 xi) = y := ⟨_, rfl⟩
   rw [hw5]
   rw [← HXI.out] at hw5
   have HO5 : Hid (Out g w5 (.slice (some ⟨g, 0, none⟩) k k) (List.replicate j 0 ++ (layL n k).drop j)) := hid (by rw [← hw5, ← HSt.out]; exact HO.out.set j x)
   have HG5 : Hid (w.grownBy w5 none) := hid (by rw [← hw5]; exact HG.out.andThen (gset _ _ _) (fun i hi => .inl (by injection hi with hi; have := HGg.out; have hi' : g = i := hi; omega)))
   clear hw5 hy0 hz
   go_wp2_with fail
   go_roundw
   case rel => exact ⟨j, m / 256, by go_num, by go_num, by omega, by have := Hm.out; omega, hid (by rw [HM.out, Nat.div_div_eq_div_mul, show k - j = k - (j + 1) + 1 by omega, Nat.pow_succ]), HO5, HG5⟩
   case measure => simp [intOf]
set_option maxRecDepth 100000 in
set_option maxHeartbeats 800000 in
theorem ofR_any (l : List UInt8) (F : Nat → Prop) (v : Value) (w : World) (hl : l.length ≤ 8) (hr : Rd w F v l) :
  Calls Tryz.prog 161 #[v] w fun e w' => e = .returned (.int .u64 (numL l)) ∧ w' = w := by
 obtain ⟨a, b, off, c, rfl, hc, hn, ha, hcell⟩ := hr
 have HC := hid hcell
 have HA := hid ha
 clear hcell ha hn hc
 have HS : Hid (numL l = numL (l.take l.length)) := by rw [List.take_length]; exact rfl
 generalize numL l = R at HS
 obtain ⟨n, HN⟩ : ∃ n, Hid (l.length = n) := ⟨_, hid rfl⟩
 rw [HN.out] at hl HS ⊢
 go_enter Tryz.func161, Tryz.ntmps161
 go_wp2
 go_loop [3, 4] (fun sv iv => ∃ k : Nat, k ≤ n ∧ iv = .int .i64 k ∧ sv = .int .u64 (numL (l.take k))) (fun _ iv => n - (intOf iv).toNat)
 case atStart => exact ⟨0, Nat.zero_le _, rfl, rfl⟩
 case round =>
  obtain ⟨k, hk, rfl, rfl⟩ := hrel
  by_cases hlt : k < n
  ·have hlt' : (k : Int) < (n : Int) := by omega
   have hil : k < l.length := by rw [HN.out]; exact hlt
   have hs : numL (l.take k) < 256 ^ k := numL_lt k _ (by rw [List.length_take]; omega)
   have hs7 : (256 : Nat) ^ k ≤ 256 ^ 7 := Nat.pow_le_pow_right (by decide) (by omega)
   obtain ⟨rfl, hb, _⟩ := HA.out (by omega)
   have hck := HC.out k hil
   have HB := hid (show numL (l.take (k + 1)) = numL (l.take k) * 256 + (l[k]).toNat by rw [take_snocL l k hil, numL_snoc])
   obtain ⟨x, HX⟩ : ∃ x, Hid (l[k] = x) := ⟨_, hid rfl⟩
   rw [HX.out] at hck HB
   obtain ⟨S, HSS⟩ : ∃ S, Hid (numL (l.take k) = S) := ⟨_, hid rfl⟩
   rw [HSS.out] at hs HB ⊢
   have hS7 : S < 72057594037927936 := by omega
   have hxb := u8_bd x
   obtain ⟨X, hX⟩ : ∃ z : Int, (x.toNat : Int) = z := ⟨_, rfl⟩
   obtain ⟨SS, hSS⟩ : ∃ z : Int, (S : Int) = z := ⟨_, rfl⟩
   have w1 : IntKind.u64.wrap (256 * SS) = 256 * SS := by rw [IntKind.wrap_u64]; omega
   have w2 : IntKind.u64.wrap (256 * SS + X) = 256 * SS + X := by rw [IntKind.wrap_u64]; omega
   have w3 : IntKind.u64.wrap X = X := by rw [IntKind.wrap_u64]; omega
   have HXi := hid hX
   have HSi := hid hSS
   rw [hX] at hck hxb
   rw [hSS]
   clear HX hil hs hs7 hS7 hX hSS HSS
   go_wp2
   go_round
   case rel => exact ⟨k + 1, by omega, by go_num, by rw [HB.out]; show Value.int .u64 (256 * SS + X) = _; rw [← HXi.out, ← HSi.out]; congr 1; omega⟩
   case measure => simp [intOf]; omega
  ·have hlt' : ¬ (k : Int) < (n : Int) := by omega
   obtain rfl : k = n := by omega
   obtain ⟨S, HSS⟩ : ∃ S, Hid (numL (l.take k) = S) := ⟨_, hid rfl⟩
   rw [HSS.out] at HS ⊢
   go_wp2
   go_ret
   exact ⟨by rw [HS.out]; rfl, rfl⟩
set_option maxRecDepth 100000 in
set_option maxHeartbeats 800000 in
theorem ssumR_any (l : List UInt8) (F : Nat → Prop) (v : Value) (w : World) (hl : l.length ≤ 140737488355328) (hr : Rd w F v l) :
  Calls Tryz.prog 119 #[v] w fun e w' => ∃ v', e = .returned v' ∧ Out w.heap.size w' v' (layL (sumL l) 4) ∧ w.grownBy w' none := by
 have HS := hid (sumR_any l F v w hl hr)
 have hlt := sumL_lt l
 have HNu0 := numbR_any w (sumL l) 4 (by omega) (by decide)
 rw [show (((4 : Nat) : Int)) = 4 from rfl] at HNu0
 have HNu := hid HNu0; clear HNu0
 obtain ⟨S, HSS⟩ : ∃ S, Hid (sumL l = S) := ⟨_, hid rfl⟩
 rw [HSS.out] at HS HNu hlt ⊢
 obtain ⟨a, b, off, c, rfl, -⟩ := hr
 have w1 : IntKind.u64.wrap (S : Int) = (S : Int) := by rw [IntKind.wrap_u64]; omega
 clear hlt
 go_enter Tryz.func119, Tryz.ntmps119
 go_wp2_with (first
  | (go_at_call 163; (with_reducible refine HS.out.mono ?_); rintro e w' ⟨rfl, hw⟩; have hw' := hw.symm; clear hw; subst hw')
  | (go_at_call 162; (with_reducible refine HNu.out.mono ?_); rintro e w2 ⟨v2, rfl, hO2, hg2⟩; have HO2 := hid hO2; have HG2 := hid hg2; clear hO2 hg2))
 go_ret
 exact ⟨_, rfl, HO2.out, HG2.out⟩
end Go.Proofs.YtpbiofnncdneoaaGreatDoor

namespace Go.Proofs.YtpbiofnncdneoaaGreatDoor
open Go Go.RowKit
open Go.RowKit (wrap32 wrap64)

set_option maxRecDepth 100000 in
set_option maxHeartbeats 800000 in
theorem eqR_any (w : World) (va vb : Value) (F G : Nat → Prop) (x y : List UInt8) (hx : Rd w F va x) (hy : Rd w G vb y) (hxl : x.length ≤ 140737488355328) :
  Calls Tryz.prog 121 #[va, vb] w fun e w' => e = .returned (.bool (decide (x = y))) ∧ ∃ k, w' = w.drewN k := by
 obtain ⟨a, b0, off, c, rfl, _, _, ha, hca⟩ := hx
 obtain ⟨a', b0', off', c', rfl, _, _, ha', hcb⟩ := hy
 by_cases hl : x.length = y.length
 ·have HL := hid hl
  have HA := hid ha
  have HA' := hid ha'
  have HCA := hid hca
  have HCB := hid hcb
  obtain ⟨n, HN⟩ : ∃ n, Hid (x.length = n) := ⟨_, hid rfl⟩
  obtain ⟨D, HD⟩ : ∃ D, Hid (decide (x = y) = D) := ⟨_, hid rfl⟩
  rw [HD.out, ← hl, HN.out]
  rw [HN.out] at hxl
  clear hl ha ha' hca hcb
  go_enter Tryz.func121, Tryz.ntmps121
  go_wp2_with fail
  go_loopw [5] (fun iv wr => ∃ i : Nat, iv = .int .i64 i ∧ i ≤ n ∧ Hid (x.take i = y.take i) ∧ ∃ k, Hid (wr = w.drewN k)) (fun iv _ => n - (intOf iv).toNat)
  case atStart => exact ⟨0, rfl, Nat.zero_le _, hid rfl, 0, hid rfl⟩
  case round =>
   obtain ⟨i, rfl, hi, HT, d, HDr⟩ := hrel
   by_cases hlt : i < n
   ·have hix : i < x.length := by rw [HN.out]; exact hlt
    have hiy : i < y.length := by rw [← HL.out]; exact hix
    obtain ⟨rfl, r1, _⟩ := HA.out (by omega)
    obtain ⟨rfl, r2, _⟩ := HA'.out (by omega)
    obtain ⟨xi, HXI⟩ : ∃ z, Hid (x[i] = z) := ⟨_, hid rfl⟩
    obtain ⟨yi, HYI⟩ : ∃ z, Hid (y[i] = z) := ⟨_, hid rfl⟩
    have q1 : wr.cell? ⟨b0, off + i, none⟩ = some (.int .u8 xi.toNat) := by rw [HDr.out, ← HXI.out]; exact HCA.out i hix
    have q2 : wr.cell? ⟨b0', off' + i, none⟩ = some (.int .u8 yi.toNat) := by rw [HDr.out, ← HYI.out]; exact HCB.out i hiy
    have s1 : b0 < wr.heap.size := by rw [HDr.out]; exact r1
    have s2 : b0' < wr.heap.size := by rw [HDr.out]; exact r2
    have hlt' : (i : Int) < (n : Int) := by omega
    clear r1 r2
    by_cases he : xi = yi
    ·have HTN : Hid (x.take (i + 1) = y.take (i + 1)) := hid (take_step HL.out hix HT.out (by rw [HXI.out, HYI.out]; exact he))
     subst he
     obtain ⟨z, HZ⟩ : ∃ z : Int, Hid ((xi.toNat : Int) = z) := ⟨_, hid rfl⟩
     rw [HZ.out] at q1 q2
     clear HXI HYI hix hiy
     go_wp2_with fail
     go_quiet (fail)
     rename_i nq
     go_wp2_with fail
     go_roundw
     case rel => exact ⟨i + 1, by go_num, by omega, HTN, d + nq, hid (by rw [HDr.out, World.drewN_drewN])⟩
     case measure => simp [intOf]; omega
    ·have hne := u8_neq he
     have HDf : Hid (D = false) := hid (by rw [← HD.out]; exact decide_eq_false (fun e => he (by rw [← HXI.out, ← HYI.out]; simp only [e])))
     obtain ⟨z, HZ⟩ : ∃ z : Int, Hid ((xi.toNat : Int) = z) := ⟨_, hid rfl⟩
     obtain ⟨z', HZ'⟩ : ∃ z : Int, Hid ((yi.toNat : Int) = z) := ⟨_, hid rfl⟩
     rw [HZ.out] at q1 hne
     rw [HZ'.out] at q2 hne
     clear HXI HYI he hix hiy
     go_wp2_with fail
     go_quiet (fail)
     rename_i nq
     go_wp2_with fail
     go_ret
     exact ⟨by rw [HDf.out]; rfl, d + nq, by rw [HDr.out, World.drewN_drewN]⟩
   ·have he : i = n := by omega
    subst he
    have HDt : Hid (D = true) := hid (by
     rw [← HD.out]
     refine decide_eq_true ?_
     have := HT.out
     rw [List.take_of_length_le (by rw [HN.out]; exact Nat.le_refl _), List.take_of_length_le (by rw [← HL.out, HN.out]; exact Nat.le_refl _)] at this
     exact this)
    go_wp2_with fail
    go_ret
    exact ⟨by rw [HDt.out]; rfl, d, HDr.out⟩
 ·have hb : ¬ (x.length : Int) = (y.length : Int) := by omega
  have HDf : Hid (decide (x = y) = false) := hid (decide_eq_false (fun e => hl (by rw [e])))
  rw [HDf.out]
  obtain ⟨n, HN⟩ : ∃ n, Hid (x.length = n) := ⟨_, hid rfl⟩
  obtain ⟨m, HM⟩ : ∃ n, Hid (y.length = n) := ⟨_, hid rfl⟩
  rw [HN.out, HM.out] at hb ⊢
  clear hl ha ha' hca hcb
  go_enter Tryz.func121, Tryz.ntmps121
  go_wp2_with fail
  go_ret
  exact ⟨rfl, 0, rfl⟩


theorem Out.lit1 (w : World) (B : Nat) (c : UInt8) (hB : B ≤ w.heap.size) : Out B (w.alloc (.cells #[.int .u8 c.toNat] 5)) (.slice (some ⟨w.heap.size, 0, none⟩) 1 1) [c] :=
 ⟨rfl, .inr ⟨w.heap.size, 1, #[.int .u8 c.toNat], rfl, hB, heap_new w _ _, Nat.le_refl _, by decide, rfl, rfl⟩⟩

set_option maxRecDepth 100000 in
set_option maxHeartbeats 2000000 in
theorem headR_any (w : World) (n : Nat) (hn : n ≤ 16777216) :
  Calls Tryz.prog 118 #[.int .i64 n] w fun e w' => ∃ v', e = .returned v' ∧ Out w.heap.size w' v' (head5 n ++ layL (sumL (head5 n)) 4) ∧ w.grownBy w' none := by
 have HNu0 := numbR_any w n 4 (by omega) (by decide)
 rw [show (((4 : Nat) : Int)) = 4 from rfl] at HNu0
 have HNu := hid HNu0; clear HNu0
 have HL5 : Hid (([201] ++ layL n 4 : List UInt8).length = 5) := hid (by rw [List.length_append, layL_length]; rfl)
 have w1 : IntKind.u64.wrap (n : Int) = (n : Int) := by rw [IntKind.wrap_u64]; omega
 have HH5 : Hid ([201] ++ layL n 4 = head5 n) := hid rfl
 obtain ⟨NI, HNI⟩ : ∃ z : Int, Hid ((n : Int) = z) := ⟨_, hid rfl⟩
 obtain ⟨L4, HL4⟩ : ∃ z, Hid (layL n 4 = z) := ⟨_, hid rfl⟩
 have HK4 : Hid (L4.length = 4) := hid (by rw [← HL4.out]; exact layL_length n 4)
 rw [HL4.out, HNI.out] at HNu
 rw [HL4.out] at HL5 HH5
 rw [HNI.out] at w1 ⊢
 rw [← HH5.out]
 clear hn
 go_enter Tryz.func118, Tryz.ntmps118
 go_wp2_with (first
  | (go_at_call 162; (with_reducible refine HNu.out.mono ?_); rintro e w2 ⟨v2, rfl, hO2, hg2⟩; have HO2 := hid hO2; have HB2 := hid (gbelow hg2); have hz2 := hg2.size; clear hO2 hg2)
  | (at_builtin; refine wpList_append_rd rfl _ _ rfl w.heap.size _ [201] L4 (Out.lit1 w2 w.heap.size 201 hz2) (HO2.out.keep (galloc w2 _ none)).rd (by rw [HK4.out]; decide) (by simp; omega) ?_; intro v3 w3 hO3 hg3 _; have HO3 := hid hO3; have HB3 := hid ((HB2.out.trans ((Below.refl _ _).alloc hz2 _)).trans (rbelow_grown hg3 (by simp; omega) (fun j hj => (Out.lit1 w2 w.heap.size 201 hz2).block j hj))); have hz3 := HB3.out.size; clear hO3 hg3)
  | (go_at_call 119; refine (ssumR_any ([201] ++ L4) _ _ _ (by rw [HL5.out]; decide) HO3.out.rd).mono ?_; rintro e w4 ⟨v4, rfl, hO4, hg4⟩; have HO4 := hid (hO4.below hz3); have HO3' := hid (HO3.out.keep hg4); have HB4 := hid (HB3.out.trans (rbelow_grown hg4 hz3 (fun j hj => by cases hj))); have hz4 := HB4.out.size; clear hO4 hg4)
  | (at_builtin; refine wpList_append_rd rfl _ _ rfl w.heap.size _ ([201] ++ L4) _ HO3'.out HO4.out.rd (by rw [HL5.out, layL_length]; decide) hz4 ?_; intro v5 w5 hO5 hg5 _; have HO5 := hid hO5; have HB5 := hid (HB4.out.trans (rbelow_grown hg5 hz4 (fun j hj => HO3'.out.block j hj))); clear hO5 hg5))
 go_ret
 exact ⟨_, rfl, HO5.out, gof HB5.out none⟩

set_option maxRecDepth 100000 in
set_option maxHeartbeats 2000000 in
theorem frameR_ok (l : List UInt8) (F : Nat → Prop) (v : Value) (w : World) (hl : l.length ≤ 16777216) (hr : Rd w F v l) :
  Calls Tryz.prog 58 #[v] w fun e w' => ∃ v', e = .returned (.tuple #[v', .int .i64 0]) ∧ Out w.heap.size w' v' (frameL l) ∧ w.grownBy w' none := by
 have HR : Hid (∀ u : World, Below w.heap.size w u → Rd u F v l) := fun u hu => hr.keep (gof hu none)
 have HHd := hid (headR_any w l.length hl)
 have hd : decide ((16777216 : Int) < (l.length : Int)) = false := decide_eq_false (by omega)
 obtain ⟨H9, HH9⟩ : ∃ z, Hid (head5 l.length ++ layL (sumL (head5 l.length)) 4 = z) := ⟨_, hid rfl⟩
 have HFL : Hid (frameL l = H9 ++ l ++ layL (sumL l) 4) := hid (by rw [← HH9.out]; rfl)
 have HK9 : Hid (H9.length = 9) := hid (by rw [← HH9.out]; simp [head5, layL_length])
 have HLl := hid hl
 rw [HH9.out] at HHd
 obtain ⟨a, b, off, c, rfl, -⟩ := hr
 clear hl
 go_enter Tryz.func58, Tryz.ntmps58
 go_wp2_with (first
  | (go_at_call 118; (with_reducible refine HHd.out.mono ?_); rintro e w2 ⟨v2, rfl, hO2, hg2⟩; have HO2 := hid hO2; have HB2 := hid (gbelow hg2); have hz2 := hg2.size; clear hO2 hg2)
  | (at_builtin; refine wpList_append_rd rfl _ _ rfl w.heap.size F H9 l HO2.out (HR.out _ HB2.out) (by have := HK9.out; have := HLl.out; omega) hz2 ?_; intro v3 w3 hO3 hg3 _; have HO3 := hid hO3; have HB3 := hid (HB2.out.trans (rbelow_grown hg3 hz2 (fun j hj => HO2.out.block j hj))); have hz3 := HB3.out.size; clear hO3 hg3)
  | (go_at_call 119; refine (ssumR_any l F _ _ (by have := HLl.out; omega) (HR.out _ HB3.out)).mono ?_; rintro e w4 ⟨v4, rfl, hO4, hg4⟩; have HO4 := hid (hO4.below hz3); have HO3' := hid (HO3.out.keep hg4); have HB4 := hid (HB3.out.trans (rbelow_grown hg4 hz3 (fun j hj => by cases hj))); have hz4 := HB4.out.size; clear hO4 hg4)
  | (at_builtin; refine wpList_append_rd rfl _ _ rfl w.heap.size _ (H9 ++ l) _ HO3'.out HO4.out.rd (by rw [List.length_append, layL_length]; have := HK9.out; have := HLl.out; omega) hz4 ?_; intro v5 w5 hO5 hg5 _; have HO5 := hid hO5; have HB5 := hid (HB4.out.trans (rbelow_grown hg5 hz4 (fun j hj => HO3'.out.block j hj))); clear hO5 hg5))
 go_ret2
 exact ⟨_, rfl, by rw [HFL.out]; exact HO5.out, gof HB5.out none⟩

end Go.Proofs.YtpbiofnncdneoaaGreatDoor
