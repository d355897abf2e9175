/- The steps' calls over the stage. -/
import Derived.Test.YtpbiofnncdneoaaGreatDoorWsH
namespace Go.Proofs.YtpbiofnncdneoaaGreatDoor
open Go Go.RowKit Go.MapKept Go.MuLone
open Go.RowKit (wrap32 wrap64)

variable {w u u' : World} {col : Nat → Nat} {A A' D : Ab} {b lb b0 b1 sb bk lt T n k z : Nat} {off : Bool} {s : ByteArray} {x y : Nat → Option Nat} {zs : Nat → Nat} {os : Nat → Bool} {ps : List Bq.Item}
/-- The program's disk is written. -/
theorem Ws.pd (h : Ws w u col b0 b1 sb x y A D zs os bk lt T ps n) {P' : Nat → Prop} (hd : Sd w u' b0 A' P') (hp : ∀ k, P' k → Co w u col 1 k ∨ u.heap.size ≤ k) (hf : DF u u' (Co w u col 1)) : Ws w u' (dye u col 1) b0 b1 sb x y A' D zs os bk lt T ps n :=
 have s : Stp w (fun j => j = 1) u col u' (dye u col 1) := Stp.paint hf (fun x hx => dye_old hx)
 ⟨sd_paint hd (dye_of hp), h.r.stp s (by decide), h.g.stp s (by decide), fun j hj => (h.l j hj).stp s (by omega) (by omega), st_stp h.b s (by decide)⟩
/-- The reference's disk is written. -/
theorem Ws.rd (h : Ws w u col b0 b1 sb x y A D zs os bk lt T ps n) {P' : Nat → Prop} (hd : Sr w u' b1 A' P') (hp : ∀ k, P' k → Co w u col 2 k ∨ u.heap.size ≤ k) (hf : DF u u' (Co w u col 2)) : Ws w u' (dye u col 2) b0 b1 sb x y A A' zs os bk lt T ps n :=
 have s : Stp w (fun j => j = 2) u col u' (dye u col 2) := Stp.paint hf (fun x hx => dye_old hx)
 ⟨h.d.stp s (by decide), sr_paint hd (dye_of hp), h.g.stp s (by decide), fun j hj => (h.l j hj).stp s (by omega) (by omega), st_stp h.b s (by decide)⟩
theorem Wx.arm (h : Wx w b0 b1 sb x y A D zs os bk lt T ps u) (m k : Int) (hm : m ≤ 9223372036854775807) : Calls Tryz.prog 17 #[.pointer (some ⟨b0, 0, none⟩), .int .i64 m, .int .i64 k] u fun e u' => e = .returned (.tuple #[]) ∧ Wx w b0 b1 sb x y (A.arm m k) D zs os bk lt T ps u' := by
 obtain ⟨col, h⟩ := h
 exact (sd_arm h.d m k hm).mono fun e u' ⟨q1, q2, q3⟩ => ⟨q1, _, h.pd q2 (fun _ q => .inl q) q3⟩
theorem Wx.on (h : Wx w b0 b1 sb x y A D zs os bk lt T ps u) : Calls Tryz.prog 18 #[.pointer (some ⟨b0, 0, none⟩)] u fun e u' => e = .returned (.tuple #[]) ∧ Wx w b0 b1 sb x y A.on D zs os bk lt T ps u' := by
 obtain ⟨col, h⟩ := h
 exact (sd_on h.d).mono fun e u' ⟨q1, q2, q3⟩ => ⟨q1, _, h.pd q2 (fun _ q => .inl q) q3⟩
theorem newP_or {P : Nat → Prop} : ∀ k, newP P u u' k → P k ∨ u.heap.size ≤ k := fun _ h => h.imp id (fun q => q.1)
theorem Wx.rarm (h : Wx w b0 b1 sb x y A D zs os bk lt T ps u) (m k : Int) (hm : m ≤ 9223372036854775807) : Calls Tryz.prog 28 #[.pointer (some ⟨b1, 0, none⟩), .int .i64 m, .int .i64 k] u fun e u' => e = .returned (.tuple #[]) ∧ Wx w b0 b1 sb x y A (D.arm m k) zs os bk lt T ps u' := by
 obtain ⟨col, h⟩ := h
 exact (sr_arm h.r m k hm).mono fun e u' ⟨q1, q2, q3⟩ => ⟨q1, _, h.rd q2 newP_or q3⟩
theorem Wx.ron (h : Wx w b0 b1 sb x y A D zs os bk lt T ps u) : Calls Tryz.prog 29 #[.pointer (some ⟨b1, 0, none⟩)] u fun e u' => e = .returned (.tuple #[]) ∧ Wx w b0 b1 sb x y A D.on zs os bk lt T ps u' := by
 obtain ⟨col, h⟩ := h
 exact (sr_on h.r).mono fun e u' ⟨q1, q2, q3⟩ => ⟨q1, _, h.rd q2 newP_or q3⟩
end Go.Proofs.YtpbiofnncdneoaaGreatDoor

namespace Go.Proofs.YtpbiofnncdneoaaGreatDoor
open Go Go.RowKit Go.MapKept Go.MuLone
open Go.RowKit (wrap32 wrap64)

variable {w u u' : World} {col : Nat → Nat} {A A' D : Ab} {b lb b0 b1 sb bk lt T n k z : Nat} {off : Bool} {s : ByteArray} {x y : Nat → Option Nat} {zs : Nat → Nat} {os : Nat → Bool} {ps : List Bq.Item} {v : Value} {l : List UInt8}
theorem within_any (x : Int) (n : Nat) (h0 : 0 < n) (hn : n ≤ 1152921504606846976) (w : World) : Calls Tryz.prog 4 #[.int .i64 x, .int .i64 n] w fun e w' => (∃ r : Nat, r < n ∧ e = .returned (.int .i64 r)) ∧ w' = w := by
 have h1 := Int.tmod_lt_of_pos x (show (0 : Int) < (n : Int) by omega)
 have h2 := Int.lt_tmod_of_pos x (show (0 : Int) < (n : Int) by omega)
 have h3 : ¬ (n : Int) = 0 := by omega
 go_enter Tryz.func4, Tryz.ntmps4
 go_wp2
 ·go_ret
  exact ⟨⟨(x.tmod n + n).toNat, by omega, by rw [show ((x.tmod n + n).toNat : Int) = x.tmod n + n by omega]; rfl⟩, rfl⟩
 ·go_ret
  exact ⟨⟨(x.tmod n).toNat, by omega, by rw [show ((x.tmod n).toNat : Int) = x.tmod n by omega]; rfl⟩, rfl⟩
/-- A beginning of a row. -/
theorem Out.front {B : Nat} {w : World} {a : Option Addr} {n c m : Nat} {l : List UInt8} (h : Out B w (.slice a n c) l) (hm : m ≤ n) : Out B w (.slice a m c) (l.take m) := by
 have hn : n = l.length := by obtain ⟨a', c', e⟩ := h.len; injection e with _ e _
 rcases h.2 with ⟨e, h0⟩ | ⟨g, cap, cur, e, hb, hg, hle, hma, hs, ht⟩
 ·injection e with e1 e2 e3
  subst e1; subst e3
  have hm0 : m = 0 := by omega
  subst hm0
  exact ⟨by simp [Lib.byteCells], .inl ⟨rfl, by simp⟩⟩
 ·injection e with e1 e2 e3
  subst e1; subst e3
  have hl : (l.take m).length = m := by rw [List.length_take]; omega
  refine ⟨by simp [Lib.byteCells], .inr ⟨g, c, cur, by rw [hl], hb, hg, by rw [hl]; omega, hma, hs, ?_⟩⟩
  have h5 := congrArg (List.take (m * 1)) ht
  rw [List.take_take] at h5
  rw [show min (m * 1) (l.length * 1) = m * 1 by omega] at h5
  rw [hl, h5]
  simp [Lib.byteCells, List.map_take]
/-- The stage beside bytes in colour 0. -/
def Wy (w : World) (b0 b1 sb : Nat) (x y : Nat → Option Nat) (A D : Ab) (zs : Nat → Nat) (os : Nat → Bool) (bk lt T : Nat) (ps : List Bq.Item) (v : Value) (l : List UInt8) (u : World) : Prop := ∃ col, Ws w u col b0 b1 sb x y A D zs os bk lt T ps ps.length ∧ Rd u (fun k => col k = 0) v l
theorem Wy.of (h : Wx w b0 b1 sb x y A D zs os bk lt T ps u) (hg : u.grownBy u' none) (ho : Out u.heap.size u' v l) : Wy w b0 b1 sb x y A D zs os bk lt T ps v l u' := by
 obtain ⟨col, h⟩ := h
 exact ⟨_, h.keep hg, ho.rd.wide (fun k hk => dye_new hk)⟩
theorem Wy.wx (h : Wy w b0 b1 sb x y A D zs os bk lt T ps v l u) : Wx w b0 b1 sb x y A D zs os bk lt T ps u := by
 obtain ⟨col, h, _⟩ := h
 exact ⟨col, h⟩
theorem Wy.keep (h : Wy w b0 b1 sb x y A D zs os bk lt T ps v l u) (hg : u.grownBy u' none) : Wy w b0 b1 sb x y A D zs os bk lt T ps v l u' := by
 obtain ⟨col, h, hr⟩ := h
 refine ⟨_, h.keep hg, (hr.keep hg).wide (fun k e => ?_)⟩
 unfold dye
 split
 ·exact e
 ·rfl
theorem Wy.cell (h : Wy w b0 b1 sb x y A D zs os bk lt T ps v l u) (i : Nat) : u.cell? ⟨sb, i, none⟩ = (sgc b0 b1 x y bk lt)[i]? := h.wx.cell i
theorem rd_dye {i : Nat} (hr : Rd u (fun k => col k = 0) v l) (hf : DF u u' (Co w u col i)) (hi : i ≠ 0) : Rd u' (fun k => dye u col i k = 0) v l :=
 ((hr.mono (G := fun k => k < u.heap.size ∧ col k = 0) (fun _ hk e => ⟨hk, e⟩)).df hf (fun _ e c => hi (c.1.symm.trans e.2))).wide (fun k e => by rw [dye_old e.1]; exact e.2)
theorem newP_lt {i : Nat} (hf : DF u u' (Co w u col i)) : ∀ k, newP (Co w u col i) u u' k → k < u'.heap.size := fun k hk => by
 rcases hk with q | q
 ·have := q.2.2; have := hf.size; omega
 ·exact q.2
theorem Wy.rem (h : Wy w b0 b1 sb x y A D zs os bk lt T ps v l u) (k : Nat) (hw : A.wr ≤ 4611686018427387904) : Calls Tryz.prog 60 #[.pointer (some ⟨b0, 0, none⟩), .string (nm k)] u fun e u' => e = .returned (.int .i64 (A.remE (nm k))) ∧ Wy w b0 b1 sb x y (A.rem (nm k)) D zs os bk lt T ps v l u' := by
 obtain ⟨col, h, hr⟩ := h
 exact (remove_p h.d.dk (nm k) hw).mono fun e u' ⟨q1, q2, q3⟩ => ⟨q1, _, h.pd (h.d.step q2 (newP_lt q3) newP_or q3 h.d.ge) newP_or q3, rd_dye hr q3 (by decide)⟩
theorem Wy.rrem (h : Wy w b0 b1 sb x y A' A.sr zs os bk lt T ps v l u) (hn : NdC A.C) (k : Nat) (hw : A.wr ≤ 4611686018427387904) : Calls Tryz.prog 61 #[.pointer (some ⟨b1, 0, none⟩), .string (nm k)] u fun e u' => e = .returned (.int .i64 (A.remE (nm k))) ∧ Wy w b0 b1 sb x y A' (A.rem (nm k)).sr zs os bk lt T ps v l u' := by
 obtain ⟨col, h, hr⟩ := h
 have hz := nm_size k
 obtain ⟨e1, e2⟩ := sr_remE hn (nm k)
 rw [← e1, ← e2]
 exact (sr_rem h.r (nm k) (by omega) hw).mono fun e u' ⟨q1, q2, q3⟩ => ⟨q1, _, h.rd q2 newP_or q3, rd_dye hr q3 (by decide)⟩
theorem Wy.app {a : Option Addr} {n c : Nat} (h : Wy w b0 b1 sb x y A D zs os bk lt T ps (.slice a n c) l u) (k : Nat) (hw : A.wr ≤ 4611686018427387904) : Calls Tryz.prog 51 #[.pointer (some ⟨b0, 0, none⟩), .string (nm k), .slice a n c] u fun e u' => e = .returned (.int .i64 (A.appE (nm k) l)) ∧ Wy w b0 b1 sb x y (A.app (nm k) l) D zs os bk lt T ps (.slice a n c) l u' := by
 obtain ⟨col, h, hr⟩ := h
 exact (append_p h.d.dk (nm k) _ a n c l hr (fun _ e q => by have := q.1; omega) hw).mono fun e u' ⟨q1, q2, q3⟩ => ⟨q1, _, h.pd (h.d.step q2 (newP_lt q3) newP_or q3 h.d.ge) newP_or q3, rd_dye hr q3 (by decide)⟩
theorem Wy.rapp {a : Option Addr} {n c : Nat} (h : Wy w b0 b1 sb x y A' A.sr zs os bk lt T ps (.slice a n c) l u) (hn : NdC A.C) (k : Nat) (hw : A.wr ≤ 4611686018427387904) (hl : l.length ≤ 140737488355328) : Calls Tryz.prog 59 #[.pointer (some ⟨b1, 0, none⟩), .string (nm k), .slice a n c] u fun e u' => e = .returned (.int .i64 (A.appE (nm k) l)) ∧ Wy w b0 b1 sb x y A' (A.app (nm k) l).sr zs os bk lt T ps (.slice a n c) l u' := by
 obtain ⟨col, h, hr⟩ := h
 have hz := nm_size k
 obtain ⟨e1, e2⟩ := sr_appE hn (nm k) l
 rw [← e1, ← e2]
 exact (sr_app h.r (nm k) _ a n c l hr (fun _ e q => by have := q.1; omega) hl (by omega) hw).mono fun e u' ⟨q1, q2, q3⟩ => ⟨q1, _, h.rd q2 newP_or q3, rd_dye hr q3 (by decide)⟩
theorem Wx.rread (h : Wx w b0 b1 sb x y A' A.sr zs os bk lt T ps u) (hn : NdC A.C) (k : Nat) : Calls Tryz.prog 54 #[.pointer (some ⟨b1, 0, none⟩), .string (nm k)] u fun e u' => ∃ a c, e = .returned (.tuple #[.slice a (A.fndB (nm k)).length c, .int .i64 (A.fndE (nm k))]) ∧ Out u.heap.size u' (.slice a (A.fndB (nm k)).length c) (A.fndB (nm k)) ∧ u.grownBy u' none := by
 obtain ⟨col, h⟩ := h
 have hz := nm_size k
 obtain ⟨e1, e2, _⟩ := used_sr hn (nm k)
 rw [← e1, ← e2]
 exact sr_read h.r (nm k) (by omega)
theorem rem_room (A : Ab) (s : ByteArray) : (A.rem s).room = A.room ∧ (A.rem s).wr ≤ A.wr + 1 := by
 unfold Ab.rem
 split
 ·exact ⟨rfl, Int.le_refl _⟩
 ·exact ⟨rfl, by omega⟩
theorem app_room (A : Ab) (s : ByteArray) (l : List UInt8) : (A.app s l).room = A.room ∧ (A.app s l).wr ≤ A.wr + 1 := by
 unfold Ab.app
 split
 ·exact ⟨rfl, Int.le_refl _⟩
 ·exact ⟨rfl, by omega⟩
theorem Wx.nn (h : Wx w b0 b1 sb x y A D zs os bk lt T ps u) : NdC A.C ∧ (A.fndB (nm k)).length ≤ A.room := by
 obtain ⟨col, h⟩ := h
 refine ⟨h.d.dk.nd, ?_⟩
 have := fndB_le A (nm k)
 have := h.d.dk.1.used
 omega
theorem Wx.gr (h : Wx w b0 b1 sb x y A D zs os bk lt T ps u) : w.grownBy u none := by
 obtain ⟨col, h⟩ := h
 exact h.d.gr
theorem ndc_rem (h : NdC A.C) : NdC (A.rem s).C := by
 unfold Ab.rem
 split
 ·show NdC (A.remC s)
  unfold Ab.remC
  split
  ·exact del_nd h s
  ·exact h
 ·exact h
theorem fnd_no (h : A.fndE s ≠ 0) : A.fndB s = [] := by unfold Ab.fndB; rw [if_neg h]
end Go.Proofs.YtpbiofnncdneoaaGreatDoor

namespace Go.Proofs.YtpbiofnncdneoaaGreatDoor
open Go Go.RowKit Go.MapKept Go.MuLone
open Go.RowKit (wrap32 wrap64)

variable {ob : Nat} {cs : List Value} {w u u' : World} {col col' : Nat → Nat} {S : Nat → Prop} {A A' D D' : Ab} {b lb rb b0 b1 sb bk lt T n k z : Nat} {off : Bool} {s : ByteArray} {x y : Nat → Option Nat} {zs zr : Nat → Nat} {os qr : Nat → Bool} {ps : List Bq.Item} {v : Value} {l : List UInt8}
/-- The stage where the logs of both sides may tell unlike things. -/
structure Wv (w u : World) (col : Nat → Nat) (b0 b1 sb : Nat) (x y : Nat → Option Nat) (A D : Ab) (zs : Nat → Nat) (os : Nat → Bool) (zr : Nat → Nat) (qr : Nat → Bool) (bk lt T : Nat) (ps : List Bq.Item) (n : Nat) : Prop where
 d : Sd w u b0 A (Co w u col 1)
 r : Sr w u b1 D (Co w u col 2)
 g : Pl w u col 9 sb (sgc b0 b1 x y bk lt) 72
 lp : ∀ k, k < 2 → ∀ lb, x k = some lb → Lg u lb b0 (nm k) (zs k) (os k) ∧ Co w u col (5 + k) lb
 lr : ∀ k, k < 2 → ∀ rb, y k = some rb → Rg u rb b1 (nm k) (zr k) (qr k) ∧ Co w u col (7 + k) rb
 both : ∀ k, k < 2 → (x k).isSome = (y k).isSome
 b : Bq.ST u (Bt w u col) bk lt T ps n
theorem Ws.wv (h : Ws w u col b0 b1 sb x y A D zs os bk lt T ps n) : Wv w u col b0 b1 sb x y A D zs os zs os bk lt T ps n :=
 ⟨h.d, h.r, h.g, fun k hk lb e => (h.l k hk).p lb e, fun k hk rb e => (h.l k hk).r rb e, fun k hk => (h.l k hk).both, h.b⟩
theorem Wv.ws (h : Wv w u col b0 b1 sb x y A D zs os zs os bk lt T ps n) : Ws w u col b0 b1 sb x y A D zs os bk lt T ps n :=
 ⟨h.d, h.r, h.g, fun k hk => ⟨fun lb e => h.lp k hk lb e, fun rb e => h.lr k hk rb e, h.both k hk⟩, h.b⟩
theorem Wv.stp (h : Wv w u col b0 b1 sb x y A D zs os zr qr bk lt T ps n) (s : Stp w S u col u' col') (hS : ∀ i, S i → i = 0 ∨ 9 < i) : Wv w u' col' b0 b1 sb x y A D zs os zr qr bk lt T ps n :=
 ⟨h.d.stp s (fun q => by have := hS _ q; omega), h.r.stp s (fun q => by have := hS _ q; omega), h.g.stp s (fun q => by have := hS _ q; omega), fun k hk lb e => ⟨blk_at (h.lp k hk lb e).1 ((h.lp k hk lb e).2.at s (fun q => by have := hS _ q; omega)), (h.lp k hk lb e).2.stp s⟩, fun k hk rb e => ⟨blk_at (h.lr k hk rb e).1 ((h.lr k hk rb e).2.at s (fun q => by have := hS _ q; omega)), (h.lr k hk rb e).2.stp s⟩, h.both, st_stp h.b s (fun q => by have := hS _ q; omega)⟩
theorem Wv.keep (h : Wv w u col b0 b1 sb x y A D zs os zr qr bk lt T ps n) (hg : u.grownBy u' none) (i : Nat) : Wv w u' (dye u col i) b0 b1 sb x y A D zs os zr qr bk lt T ps n := h.stp (S := fun i => i = 0) (Stp.new hg i) (fun _ e => .inl e)
/-- The program's log is appended to. -/
theorem Wv.papp (h : Wv w u col b0 b1 sb x y A D zs os zr qr bk lt T ps n) (hk : k < 2) (hx : x k = some lb) {P' : Nat → Prop} (hd : Sd w u' b0 A' P') (hp : ∀ j, P' j → Co w u col 1 j ∨ u.heap.size ≤ j) (hl : Lg u' lb b0 (nm k) z off) (hf : DF u u' (fun j => Co w u col 1 j ∨ j = lb)) : Wv w u' (dye u col 1) b0 b1 sb x y A' D (up zs k z) (up os k off) zr qr bk lt T ps n ∧ Stp w (fun j => j = 1 ∨ j = 5 + k) u col u' (dye u col 1) := by
 have hlb := (h.lp k hk lb hx).2
 have s : Stp w (fun j => j = 1 ∨ j = 5 + k) u col u' (dye u col 1) := ⟨fun x hx => dye_old hx, hf.os, hf.tape, hf.output, hf.size, fun j hj q => hf.block j hj (fun r => by
  rcases r with r | r
  ·rcases q with q | q
   ·have := r.2.1; omega
   ·exact q (.inl r.1)
  ·subst r
   rcases q with q | q
   ·have := hlb.2.1; omega
   ·exact q (.inr hlb.1))⟩
 refine ⟨⟨sd_paint hd (dye_of hp), h.r.stp s (by omega), h.g.stp s (by omega), fun j hj b e => ?_, fun j hj b e => ⟨blk_at (h.lr j hj b e).1 ((h.lr j hj b e).2.at s (by omega)), (h.lr j hj b e).2.stp s⟩, h.both, st_stp h.b s (by omega)⟩, s⟩
 by_cases ej : j = k
 ·subst ej
  rw [hx] at e
  cases e
  rw [up_at, up_at]
  exact ⟨hl, hlb.stp s⟩
 ·rw [up_ne ej, up_ne ej]
  exact ⟨blk_at (h.lp j hj b e).1 ((h.lp j hj b e).2.at s (by omega)), (h.lp j hj b e).2.stp s⟩
/-- The reference's log is appended to. -/
theorem Wv.rapp (h : Wv w u col b0 b1 sb x y A D zs os zr qr bk lt T ps n) (hk : k < 2) (hy : y k = some rb) {P' : Nat → Prop} (hd : Sr w u' b1 D' P') (hp : ∀ j, P' j → Co w u col 2 j ∨ u.heap.size ≤ j) (hl : Rg u' rb b1 (nm k) z off) (hf : DF u u' (fun j => Co w u col 2 j ∨ j = rb)) : Wv w u' (dye u col 2) b0 b1 sb x y A D' zs os (up zr k z) (up qr k off) bk lt T ps n ∧ Stp w (fun j => j = 2 ∨ j = 7 + k) u col u' (dye u col 2) := by
 have hlb := (h.lr k hk rb hy).2
 have s : Stp w (fun j => j = 2 ∨ j = 7 + k) u col u' (dye u col 2) := ⟨fun x hx => dye_old hx, hf.os, hf.tape, hf.output, hf.size, fun j hj q => hf.block j hj (fun r => by
  rcases r with r | r
  ·rcases q with q | q
   ·have := r.2.1; omega
   ·exact q (.inl r.1)
  ·subst r
   rcases q with q | q
   ·have := hlb.2.1; omega
   ·exact q (.inr hlb.1))⟩
 refine ⟨⟨h.d.stp s (by omega), sr_paint hd (dye_of hp), h.g.stp s (by omega), fun j hj b e => ⟨blk_at (h.lp j hj b e).1 ((h.lp j hj b e).2.at s (by omega)), (h.lp j hj b e).2.stp s⟩, fun j hj b e => ?_, h.both, st_stp h.b s (by omega)⟩, s⟩
 by_cases ej : j = k
 ·subst ej
  rw [hy] at e
  cases e
  rw [up_at, up_at]
  exact ⟨hl, hlb.stp s⟩
 ·rw [up_ne ej, up_ne ej]
  exact ⟨blk_at (h.lr j hj b e).1 ((h.lr j hj b e).2.at s (by omega)), (h.lr j hj b e).2.stp s⟩
/-- The stage beside what is lent, in colour 10. -/
def Wl (w : World) (b0 b1 sb : Nat) (x y : Nat → Option Nat) (A D : Ab) (zs : Nat → Nat) (os : Nat → Bool) (zr : Nat → Nat) (qr : Nat → Bool) (bk lt T : Nat) (ps : List Bq.Item) (ob : Nat) (cs : List Value) (v : Value) (l : List UInt8) (u : World) : Prop := ∃ col, Wv w u col b0 b1 sb x y A D zs os zr qr bk lt T ps ps.length ∧ Pl w u col 0 ob cs 76 ∧ Lent u w.heap.size v l ∧ ∀ g, v.ownBlock = some g → Co w u col 10 g
/-- Beside nothing. -/
def Wn (w : World) (b0 b1 sb : Nat) (x y : Nat → Option Nat) (A D : Ab) (zs : Nat → Nat) (os : Nat → Bool) (zr : Nat → Nat) (qr : Nat → Bool) (bk lt T : Nat) (ps : List Bq.Item) (ob : Nat) (cs : List Value) (u : World) : Prop := ∃ col, Wv w u col b0 b1 sb x y A D zs os zr qr bk lt T ps ps.length ∧ Pl w u col 0 ob cs 76
/-- The stage beside the step's own block. -/
def Wo (w : World) (b0 b1 sb : Nat) (x y : Nat → Option Nat) (A D : Ab) (zs : Nat → Nat) (os : Nat → Bool) (bk lt T : Nat) (ps : List Bq.Item) (ob : Nat) (cs : List Value) (u : World) : Prop := ∃ col, Ws w u col b0 b1 sb x y A D zs os bk lt T ps ps.length ∧ Pl w u col 0 ob cs 76
theorem Wo.of (h : Wx w b0 b1 sb x y A D zs os bk lt T ps u) (hg : u.grownBy u' none) (hb : Blk u' u.heap.size cs 76) : Wo w b0 b1 sb x y A D zs os bk lt T ps u.heap.size cs u' := by
 have hgr := h.gr.size
 obtain ⟨col, h⟩ := h
 exact ⟨_, h.keep hg, hb, dye_new (Nat.le_refl _), hgr, hb.lt⟩
theorem Wo.wx (h : Wo w b0 b1 sb x y A D zs os bk lt T ps ob cs u) : Wx w b0 b1 sb x y A D zs os bk lt T ps u := by
 obtain ⟨col, h, _⟩ := h
 exact ⟨col, h⟩
theorem Wo.keep (h : Wo w b0 b1 sb x y A D zs os bk lt T ps ob cs u) (hg : u.grownBy u' none) : Wo w b0 b1 sb x y A D zs os bk lt T ps ob cs u' := by
 obtain ⟨col, h, hp⟩ := h
 exact ⟨_, h.keep hg, hp.stp (S := fun i => i = 1) (Stp.new hg 0) (by decide)⟩
theorem Wo.cell (h : Wo w b0 b1 sb x y A D zs os bk lt T ps ob cs u) (i : Nat) : u.cell? ⟨sb, i, none⟩ = (sgc b0 b1 x y bk lt)[i]? := h.wx.cell i
theorem Wo.at (h : Wo w b0 b1 sb x y A D zs os bk lt T ps ob cs u) (i : Nat) : u.cell? ⟨ob, i, none⟩ = cs[i]? := by
 obtain ⟨col, h, hp⟩ := h
 exact hp.cell i
theorem Wo.arm (h : Wo w b0 b1 sb x y A D zs os bk lt T ps ob cs u) (m k : Int) (hm : m ≤ 9223372036854775807) : Calls Tryz.prog 17 #[.pointer (some ⟨b0, 0, none⟩), .int .i64 m, .int .i64 k] u fun e u' => e = .returned (.tuple #[]) ∧ Wo w b0 b1 sb x y (A.arm m k) D zs os bk lt T ps ob cs u' := by
 obtain ⟨col, h, hp⟩ := h
 exact (sd_arm h.d m k hm).mono fun e u' ⟨q1, q2, q3⟩ => ⟨q1, _, h.pd q2 (fun _ q => .inl q) q3, hp.stp (S := fun j => j = 1) (Stp.paint q3 (fun x hx => dye_old hx)) (by decide)⟩
theorem Wo.rarm (h : Wo w b0 b1 sb x y A D zs os bk lt T ps ob cs u) (m k : Int) (hm : m ≤ 9223372036854775807) : Calls Tryz.prog 28 #[.pointer (some ⟨b1, 0, none⟩), .int .i64 m, .int .i64 k] u fun e u' => e = .returned (.tuple #[]) ∧ Wo w b0 b1 sb x y A (D.arm m k) zs os bk lt T ps ob cs u' := by
 obtain ⟨col, h, hp⟩ := h
 exact (sr_arm h.r m k hm).mono fun e u' ⟨q1, q2, q3⟩ => ⟨q1, _, h.rd q2 newP_or q3, hp.stp (S := fun j => j = 2) (Stp.paint q3 (fun x hx => dye_old hx)) (by decide)⟩
theorem Wl.of (h : Wo w b0 b1 sb x y A D zs os bk lt T ps ob cs u) (hg : u.grownBy u' none) (ho : Lent u' u.heap.size v l) : Wl w b0 b1 sb x y A D zs os zs os bk lt T ps ob cs v l u' := by
 have hgr := h.wx.gr.size
 obtain ⟨col, h, hp⟩ := h
 obtain ⟨g, c, e, hc, hO⟩ := ho
 refine ⟨_, h.wv.keep hg 10, hp.stp (S := fun i => i = 1) (Stp.new hg 10) (by decide), ⟨g, c, e, hc, owns_base hO hgr⟩, fun j hj => ?_⟩
 subst e
 cases hj
 have h1 := own_low hO g rfl
 have h2 := own_lt hO g rfl
 exact ⟨dye_new h1, Nat.le_trans hgr h1, h2⟩
theorem Wl.cell (h : Wl w b0 b1 sb x y A D zs os zr qr bk lt T ps ob cs v l u) (i : Nat) : u.cell? ⟨sb, i, none⟩ = (sgc b0 b1 x y bk lt)[i]? := by
 obtain ⟨col, h, _⟩ := h
 exact h.g.cell i
theorem Wn.cell (h : Wn w b0 b1 sb x y A D zs os zr qr bk lt T ps ob cs u) (i : Nat) : u.cell? ⟨sb, i, none⟩ = (sgc b0 b1 x y bk lt)[i]? := by
 obtain ⟨col, h, _⟩ := h
 exact h.g.cell i
theorem Wn.at (h : Wn w b0 b1 sb x y A D zs os zr qr bk lt T ps ob cs u) (i : Nat) : u.cell? ⟨ob, i, none⟩ = cs[i]? := by
 obtain ⟨col, h, hp⟩ := h
 exact hp.cell i
theorem Wl.at (h : Wl w b0 b1 sb x y A D zs os zr qr bk lt T ps ob cs v l u) (i : Nat) : u.cell? ⟨ob, i, none⟩ = cs[i]? := by
 obtain ⟨col, h, hp, _⟩ := h
 exact hp.cell i
theorem Wl.gr (h : Wl w b0 b1 sb x y A D zs os zr qr bk lt T ps ob cs v l u) : w.grownBy u none := by
 obtain ⟨col, h, _⟩ := h
 exact h.d.gr
theorem Wn.gr (h : Wn w b0 b1 sb x y A D zs os zr qr bk lt T ps ob cs u) : w.grownBy u none := by
 obtain ⟨col, h, _⟩ := h
 exact h.d.gr
theorem Wn.keep (h : Wn w b0 b1 sb x y A D zs os zr qr bk lt T ps ob cs u) (hg : u.grownBy u' none) : Wn w b0 b1 sb x y A D zs os zr qr bk lt T ps ob cs u' := by
 obtain ⟨col, h, hp⟩ := h
 exact ⟨_, h.keep hg 0, hp.stp (S := fun i => i = 1) (Stp.new hg 0) (by decide)⟩
theorem Wl.keep (h : Wl w b0 b1 sb x y A D zs os zr qr bk lt T ps ob cs v l u) (hg : u.grownBy u' none) : Wl w b0 b1 sb x y A D zs os zr qr bk lt T ps ob cs v l u' := by
 obtain ⟨col, h, hp, h1, h2⟩ := h
 exact ⟨_, h.keep hg 0, hp.stp (S := fun i => i = 1) (Stp.new hg 0) (by decide), h1.keep hg, fun g e => (h2 g e).stp (S := fun i => i = 0) (Stp.new hg 0)⟩
theorem lent_at {B : Nat} (h : Lent u B v l) (hb : ∀ g, v.ownBlock = some g → u'.heap[g]? = u.heap[g]?) : Lent u' B v l := by
 obtain ⟨g, c, rfl, hc, ho⟩ := h
 refine ⟨g, c, rfl, hc, ⟨ho.1, ?_⟩⟩
 rcases ho.2 with q | ⟨g', cap, cur, q1, q2, q3, q4⟩
 ·exact .inl q
 ·refine .inr ⟨g', cap, cur, q1, q2, ?_, q4⟩
  injection q1 with q1 _ _
  injection q1 with q1
  injection q1 with q1 _ _
  subst q1
  rw [hb g rfl]; exact q3
/-- The program's Append. -/
theorem Wl.papp (h : Wl w b0 b1 sb x y A D zs os zr qr bk lt T ps ob cs v l u) (hk : k < 2) (hx : x k = some lb) (ho : os k = false) (hT : Tab w) (hw : A.wr ≤ 4611686018427387904) (hz : zs k ≤ 1099511627776) (hl : l.length ≤ 16777216) :
  Calls Tryz.prog 16 #[.pointer (some ⟨lb, 0, none⟩), v] u fun e u' => e = .returned (.int .i64 (A.appE (nm k) (frameL l))) ∧ Wl w b0 b1 sb x y (A.app (nm k) (frameL l)) D (up zs k (lgZ A (nm k) (zs k) l)) (up os k (decide (A.appE (nm k) (frameL l) ≠ 0))) zr qr bk lt T ps ob cs v l u' := by
 obtain ⟨col, h, hp, h1, h2⟩ := h
 obtain ⟨q1, q2⟩ := h.lp k hk lb hx
 rw [ho] at q1
 have hlg : LgP w u lb b0 (nm k) (zs k) false (Co w u col 1) := ⟨q1, fun q => by have := q.1; have := q2.1; omega, q2.2.1⟩
 refine (sd_app h.d hlg hT hw hz _ v l h1.out.rd hl).mono fun e u' ⟨P', r1, r2, r3, r4, r5⟩ => ?_
 obtain ⟨r6, r7⟩ := h.papp hk hx r2 r5 r3.lg r4
 exact ⟨r1, _, r6, hp.stp r7 (by omega), lent_at h1 (fun g e => (h2 g e).at r7 (by omega)), fun g e => (h2 g e).stp r7⟩
theorem Wl.poff (h : Wl w b0 b1 sb x y A D zs os zr qr bk lt T ps ob cs v l u) (hk : k < 2) (hx : x k = some lb) (ho : os k = true) : Calls Tryz.prog 16 #[.pointer (some ⟨lb, 0, none⟩), v] u fun e u' => e = .returned (.int .i64 102) ∧ Wl w b0 b1 sb x y A D zs os zr qr bk lt T ps ob cs v l u' := by
 obtain ⟨col, h, hp, h1, h2⟩ := h
 obtain ⟨q1, q2⟩ := h.lp k hk lb hx
 rw [ho] at q1
 exact (lapp_off q1 v).mono fun e u' ⟨r1, r2⟩ => ⟨r1, by rw [r2]; exact ⟨col, h, hp, h1, h2⟩⟩
theorem Wl.intact (h : Wl w b0 b1 sb x y A D zs os zr qr bk lt T ps ob cs v l u) {F : Nat → Prop} {vb : Value} (hb : Rd w F vb l) (hl : l.length ≤ 1000000000) : Calls Tryz.prog 25 #[v, vb] u fun e u' => e = .returned (.bool true) ∧ Wl w b0 b1 sb x y A D zs os zr qr bk lt T ps ob cs v l u' := by
 have hg := h.gr
 have h0 := h
 obtain ⟨col, h, hp, h1, h2⟩ := h
 exact (intact_any u _ v vb F l h1 (hb.keep hg) hl).mono fun e u' ⟨q1, q2⟩ => ⟨q1, h0.keep q2⟩
theorem Wl.over (h : Wl w b0 b1 sb x y A D zs os zr qr bk lt T ps ob cs v l u) (hl : l.length ≤ 1000000000) : Calls Tryz.prog 26 #[v] u fun e u' => e = .returned (.tuple #[]) ∧ Wn w b0 b1 sb x y A D zs os zr qr bk lt T ps ob cs u' := by
 obtain ⟨col, h, hp, h1, h2⟩ := h
 refine (over_any u _ v l h1.out (by omega)).mono fun e u' ⟨q1, q2, _⟩ => ⟨q1, ?_⟩
 exact ⟨_, h.stp (S := fun i => i = 10) (Stp.opt q2 h2 0 rfl) (fun _ e => .inr (by omega)), hp.stp (S := fun i => i = 10) (Stp.opt q2 h2 0 rfl) (by decide)⟩
/-- The reference's Append. -/
theorem Wn.rapp (h : Wn w b0 b1 sb x y A' A.sr zs os zr qr bk lt T ps ob cs u) (hn : NdC A.C) (hk : k < 2) (hy : y k = some rb) (ho : qr k = false) (hw : A.wr ≤ 4611686018427387904) (hz : zr k ≤ 1099511627776) {F : Nat → Prop} {vb : Value} (hb : Rd w F vb l) (hl : l.length ≤ 16777216) :
  Calls Tryz.prog 27 #[.pointer (some ⟨rb, 0, none⟩), vb] u fun e u' => e = .returned (.int .i64 (A.appE (nm k) (frameL l))) ∧ Wn w b0 b1 sb x y A' (A.app (nm k) (frameL l)).sr zs os (up zr k (lgZ A (nm k) (zr k) l)) (up qr k (decide (A.appE (nm k) (frameL l) ≠ 0))) bk lt T ps ob cs u' := by
 have hg := h.gr
 have hs := nm_size k
 obtain ⟨col, h, hp⟩ := h
 obtain ⟨q1, q2⟩ := h.lr k hk rb hy
 rw [ho] at q1
 obtain ⟨e1, e2⟩ := sr_appE hn (nm k) (frameL l)
 have e3 : lgZ A.sr (nm k) (zr k) l = lgZ A (nm k) (zr k) l := by unfold lgZ; rw [e1]
 rw [← e1, ← e2, ← e3]
 refine (rlapp_any q1 h.r (fun q => by have := q.1; have := q2.1; omega) q2.2.1 hs hw hz F vb l (hb.keep hg) hl).mono fun e u' ⟨r1, r2, P', r3, r4, r5⟩ => ⟨r1, _, (h.rapp hk hy r3 r4 r2 r5).1, hp.stp (h.rapp hk hy r3 r4 r2 r5).2 (by omega)⟩
theorem Wn.roff (h : Wn w b0 b1 sb x y A D zs os zr qr bk lt T ps ob cs u) (hk : k < 2) (hy : y k = some rb) (ho : qr k = true) (vb : Value) : Calls Tryz.prog 27 #[.pointer (some ⟨rb, 0, none⟩), vb] u fun e u' => e = .returned (.int .i64 102) ∧ Wn w b0 b1 sb x y A D zs os zr qr bk lt T ps ob cs u' := by
 obtain ⟨col, h, hp⟩ := h
 obtain ⟨q1, q2⟩ := h.lr k hk rb hy
 rw [ho] at q1
 exact (rlapp_off q1 vb).mono fun e u' ⟨r1, r2⟩ => ⟨r1, by rw [r2]; exact ⟨col, h, hp⟩⟩
theorem Wn.wx (h : Wn w b0 b1 sb x y A D zs os zs os bk lt T ps ob cs u) : Wx w b0 b1 sb x y A D zs os bk lt T ps u := by
 obtain ⟨col, h, _⟩ := h
 exact ⟨col, h.ws⟩
end Go.Proofs.YtpbiofnncdneoaaGreatDoor

namespace Go.Proofs.YtpbiofnncdneoaaGreatDoor
open Go Go.RowKit Go.MapKept Go.MuLone
open Go.RowKit (wrap32 wrap64)

variable {w u u' : World} {A A' D : Ab} {b0 b1 sb bk lt T n k bn bc : Nat} {s : ByteArray} {x y : Nat → Option Nat} {zs : Nat → Nat} {os : Nat → Bool} {ps : List Bq.Item} {l : List UInt8} {ba : Option Addr} {on nv kv : Int}
set_option maxRecDepth 100000 in
set_option maxHeartbeats 8000000 in
theorem plays_ap0none (h : Wx w b0 b1 sb x y A A.sr zs os bk lt T ps u) (hT : Tab w) (hw : A.wr ≤ 4611686018427387000) (hroom : A.room ≤ 4194304) (hps : ps.length < 8) (hTT : T + 208 ≤ 10000000) {Z : Nat} (hz : ∀ j, zs j ≤ Z) (hZ : 4194304 ≤ Z) (hZ2 : Z ≤ 1000000000) {F : Nat → Prop} (hB : Rd w F (.slice ba bn bc) l) (hl : l.length ≤ 524288) (hand : bits .and .i64 on 1 = 0) (hx : x 0 = none) :
  Calls Tryz.prog 10 #[.pointer (some ⟨sb, 0, none⟩), .agg [Value.int .i64 1, .int .i64 on, .slice ba bn bc, .int .i64 nv, .int .i64 kv].toArray] u fun e u' => e = .returned (.bool true) ∧ ∃ A', Opn w b0 b1 sb bk lt T 208 (Z + 600000) A' u' ∧ A'.room = A.room ∧ A'.wr ≤ A.wr + 3 := by
 have hu0 := And.intro hT (And.intro hw (And.intro hroom (And.intro hps (And.intro hTT (And.intro hz (And.intro hZ (And.intro hZ2 (And.intro hB hl))))))))
 clear hu0
 have hn : NdC A.C := (h.nn (k := 0)).1
 have HM := hid h
 have HQ : Hid (ps.length < 8 ∧ (∀ j, zs j ≤ Z) ∧ Z ≤ 1000000000) := hid ⟨hps, hz, hZ2⟩
 have hx' : pv (x 0) = .pointer none := by rw [hx]; rfl
 clear h hT hw hroom hps hTT hz hZ hZ2 hB hl hn hx
 go_enter Tryz.func10, Tryz.ntmps10
 go_upto_region 3 with ((with_reducible refine wpList_box_row (by with_unfolding_all rfl) 76 _ (by with_unfolding_all rfl) [Value.int .i64 1, .int .i64 on, .slice ba bn bc, .int .i64 nv, .int .i64 kv] (by with_unfolding_all rfl) ?_); intro w1 B1 s1 g1; have HB1 := hid B1; have HG1 := hid g1; have c0 := B1.cell 0; have c1 := B1.cell 1; clear B1 s1 g1)
 have cl := ((HM.out.keep HG1.out).cell 2).trans (show _ = some (pv (x 0)) from rfl)
 rw [hx'] at cl
 clear c1
 go_wp2_with fail
 go_ret
 exact ⟨rfl, A, ⟨x, y, zs, os, T, ps, HM.out.keep HG1.out, HQ.out.1, by omega, fun j => by have := HQ.out.2.1 j; omega⟩, rfl, by omega⟩
set_option maxRecDepth 100000 in
set_option maxHeartbeats 8000000 in
theorem plays_ap0on (h : Wx w b0 b1 sb x y A A.sr zs os bk lt T ps u) (hT : Tab w) (hw : A.wr ≤ 4611686018427387000) (hroom : A.room ≤ 4194304) (hps : ps.length < 8) (hTT : T + 208 ≤ 10000000) {Z : Nat} (hz : ∀ j, zs j ≤ Z) (hZ : 4194304 ≤ Z) (hZ2 : Z ≤ 1000000000) {F : Nat → Prop} (hB : Rd w F (.slice ba bn bc) l) (hl : l.length ≤ 524288) (hand : bits .and .i64 on 1 = 0) {lb rb : Nat} (hx : x 0 = some lb) (hy : y 0 = some rb) (ho : os 0 = false) :
  Calls Tryz.prog 10 #[.pointer (some ⟨sb, 0, none⟩), .agg [Value.int .i64 1, .int .i64 on, .slice ba bn bc, .int .i64 nv, .int .i64 kv].toArray] u fun e u' => e = .returned (.bool true) ∧ ∃ A', Opn w b0 b1 sb bk lt T 208 (Z + 600000) A' u' ∧ A'.room = A.room ∧ A'.wr ≤ A.wr + 3 := by
 have hu0 := And.intro hT (And.intro hw (And.intro hroom (And.intro hps (And.intro hTT (And.intro hz (And.intro hZ (And.intro hZ2 (And.intro hB hl))))))))
 clear hu0
 have hn : NdC A.C := (h.nn (k := 0)).1
 have HM := hid h
 have HQ : Hid (ps.length < 8 ∧ (∀ j, zs j ≤ Z) ∧ Z ≤ 1000000000) := hid ⟨hps, hz, hZ2⟩
 have HB : Hid (Rd w F (.slice ba bn bc) l) := hid hB
 have HLl : Hid (l.length ≤ 524288) := hid hl
 have hzk : zs 0 ≤ 1099511627776 := by have := hz 0; omega
 have HPa : Hid (∀ u ob cs v, Wl w b0 b1 sb x y A A.sr zs os zs os bk lt T ps ob cs v l u → Calls Tryz.prog 16 #[.pointer (some ⟨lb, 0, none⟩), v] u fun e u' => e = .returned (.int .i64 (A.appE (nm 0) (frameL l))) ∧ Wl w b0 b1 sb x y (A.app (nm 0) (frameL l)) A.sr (up zs 0 (lgZ A (nm 0) (zs 0) l)) (up os 0 (decide (A.appE (nm 0) (frameL l) ≠ 0))) zs os bk lt T ps ob cs v l u') := hid (fun u ob cs v q => q.papp (by decide) hx ho hT (by omega) hzk (by omega))
 have HRa : Hid (∀ u ob cs A' zs' os', Wn w b0 b1 sb x y A' A.sr zs' os' zs os bk lt T ps ob cs u → Calls Tryz.prog 27 #[.pointer (some ⟨rb, 0, none⟩), .slice ba bn bc] u fun e u' => e = .returned (.int .i64 (A.appE (nm 0) (frameL l))) ∧ Wn w b0 b1 sb x y A' (A.app (nm 0) (frameL l)).sr zs' os' (up zs 0 (lgZ A (nm 0) (zs 0) l)) (up os 0 (decide (A.appE (nm 0) (frameL l) ≠ 0))) bk lt T ps ob cs u') := hid (fun u ob cs A' zs' os' q => q.rapp hn (by decide) hy ho (by omega) hzk hB (by omega))
 have HA1 : Hid ((A.app (nm 0) (frameL l)).room = A.room ∧ (A.app (nm 0) (frameL l)).wr ≤ A.wr + 3) := hid (by have := app_room A (nm 0) (frameL l); omega)
 have HZ1 : Hid (lgZ A (nm 0) (zs 0) l ≤ Z + 600000) := hid (by have := hz 0; unfold lgZ; split <;> omega)
 obtain ⟨E, HE⟩ : ∃ z, Hid (A.appE (nm 0) (frameL l) = z) := ⟨_, hid rfl⟩
 rw [HE.out] at HPa HRa
 obtain ⟨A1, HAA⟩ : ∃ z, Hid (A.app (nm 0) (frameL l) = z) := ⟨_, hid rfl⟩
 rw [HAA.out] at HPa HRa HA1
 obtain ⟨z1, HZZ⟩ : ∃ z, Hid (lgZ A (nm 0) (zs 0) l = z) := ⟨_, hid rfl⟩
 rw [HZZ.out] at HPa HRa HZ1
 obtain ⟨o1, HOO⟩ : ∃ z, Hid (decide (E ≠ 0) = z) := ⟨_, hid rfl⟩
 rw [HOO.out] at HPa HRa
 obtain ⟨zs1, HZS⟩ : ∃ z, Hid (up zs 0 z1 = z) := ⟨_, hid rfl⟩
 have HZL : Hid (∀ j, zs1 j ≤ Z + 600000) := hid (by rw [← HZS.out]; exact up_le (fun j => by have := HQ.out.2.1 j; omega) HZ1.out)
 rw [HZS.out] at HPa HRa
 obtain ⟨os1, HOS⟩ : ∃ z, Hid (up os 0 o1 = z) := ⟨_, hid rfl⟩
 rw [HOS.out] at HPa HRa
 obtain ⟨D0, HD0⟩ : ∃ z, Hid (A.sr = z) := ⟨_, hid rfl⟩
 rw [HD0.out] at HPa HRa HM
 obtain ⟨D1, HD1⟩ : ∃ z, Hid (A1.sr = z) := ⟨_, hid rfl⟩
 rw [HD1.out] at HRa
 clear HE HAA HZZ HOO HZS HOS HD0 HZ1
 have hx' : pv (x 0) = .pointer (some ⟨lb, 0, none⟩) := by rw [hx]; rfl
 have hy' : pv (y 0) = .pointer (some ⟨rb, 0, none⟩) := by rw [hy]; rfl
 clear h hT hw hroom hps hTT hz hZ hZ2 hB hl hn hx hy ho hzk
 go_enter Tryz.func10, Tryz.ntmps10
 go_upto_region 3 with ((with_reducible refine wpList_box_row (by with_unfolding_all rfl) 76 _ (by with_unfolding_all rfl) [Value.int .i64 1, .int .i64 on, .slice ba bn bc, .int .i64 nv, .int .i64 kv] (by with_unfolding_all rfl) ?_); intro w1 B1 s1 g1; have HB1 := hid B1; have HG1 := hid g1; have c0 := B1.cell 0; have c1 := B1.cell 1; clear B1 s1 g1)
 obtain ⟨ob, hob⟩ : ∃ x, u.heap.size = x := ⟨_, rfl⟩
 have HO : Hid (Wo w b0 b1 sb x y A D0 zs os bk lt T ps ob [Value.int .i64 1, .int .i64 on, .slice ba bn bc, .int .i64 nv, .int .i64 kv] w1) := hid (by rw [← hob]; exact Wo.of HM.out HG1.out HB1.out)
 rw [hob] at c0 c1 ⊢
 clear hob HM HB1 HG1 c1
 have cl := (HO.out.cell 2).trans (show _ = some (pv (x 0)) from rfl)
 rw [hx'] at cl
 have c2 : w1.cell? ⟨ob, 2, none⟩ = some (.slice ba bn bc) := HO.out.at 2
 have HLe : Hid (Calls Tryz.prog 24 #[.slice ba bn bc] w1 fun e w' => ∃ v', e = .returned v' ∧ Lent w' w1.heap.size v' l ∧ w1.grownBy w' none) := hid (lend_any w1 _ F l (HB.out.keep HO.out.wx.gr) (by have := HLl.out; omega))
 go_upto_region 7 with (go_at_call 24; (with_reducible refine HLe.out.mono ?_); rintro e w2 ⟨v2, rfl, hL, hg⟩; have HL := hid (Wl.of HO.out hg hL); obtain ⟨gv, cv, hv2, -, -⟩ := hL; clear hg)
 subst hv2
 obtain ⟨ln, hln⟩ : ∃ z, l.length = z := ⟨_, rfl⟩
 rw [hln] at HL ⊢
 have HLn := hid hln
 clear hln cl c2 c0 HLe HO
 have cl := (HL.out.cell 2).trans (show _ = some (pv (x 0)) from rfl)
 rw [hx'] at cl
 go_upto_region 8 with (go_at_call 16; (with_reducible refine (HPa.out _ _ _ _ HL.out).mono ?_); rintro e w3 ⟨rfl, hm⟩; replace HL := hid hm; clear hm)
 clear cl HPa
 have c2 : w3.cell? ⟨ob, 2, none⟩ = some (.slice ba bn bc) := HL.out.at 2
 have HIn : Hid (Calls Tryz.prog 25 #[.slice (some ⟨gv, 0, none⟩) ln cv, .slice ba bn bc] w3 fun e u' => e = .returned (.bool true) ∧ Wl w b0 b1 sb x y A1 D0 zs1 os1 zs os bk lt T ps ob [Value.int .i64 1, .int .i64 on, .slice ba bn bc, .int .i64 nv, .int .i64 kv] (.slice (some ⟨gv, 0, none⟩) ln cv) l u') := hid (HL.out.intact HB.out (by have := HLl.out; omega))
 go_upto_region 9 with (go_at_call 25; (with_reducible refine HIn.out.mono ?_); rintro e w4 ⟨rfl, hm⟩; replace HL := hid hm; clear hm)
 clear c2 HIn
 have HOv := hid (HL.out.over (by have := HLl.out; omega))
 go_upto_region 10 with (go_at_call 26; (with_reducible refine HOv.out.mono ?_); rintro e w5 ⟨rfl, hm⟩; have HN := hid hm; clear hm)
 clear HOv HL
 have cy := (HN.out.cell 4).trans (show _ = some (pv (y 0)) from rfl)
 rw [hy'] at cy
 have HCy : Hid (∀ u A D zs os zr qr, Wn w b0 b1 sb x y A D zs os zr qr bk lt T ps ob [Value.int .i64 1, .int .i64 on, .slice ba bn bc, .int .i64 nv, .int .i64 kv] u → u.cell? ⟨sb, 4, none⟩ = some (.pointer (some ⟨rb, 0, none⟩)) ∧ u.cell? ⟨ob, 2, none⟩ = some (.slice ba bn bc)) := hid (fun u A D zs os zr qr q => ⟨by rw [← hy']; exact q.cell 4, q.at 2⟩)
 have c45 := HCy.out _ _ _ _ _ _ _ HN.out
 clear cy hx' hy' HB
 go_region_held3 (fun v => v.cell? ⟨sb, 4, none⟩ = some (.pointer (some ⟨rb, 0, none⟩)) ∧ v.cell? ⟨ob, 2, none⟩ = some (.slice ba bn bc)) (first | assumption | exact HCy.out _ _ _ _ _ _ _ HN.out | exact HCy.out _ _ _ _ _ _ _ (HN.out.keep (gdrew1 _ _))) (first
  | (go_at_call 7; (with_reducible refine (num_any _ _).mono ?_); rintro e v6 ⟨rfl, hw6⟩; have hw' := hw6.symm; clear hw6; subst hw')
  | (go_at_call 27; (with_reducible refine (HRa.out _ _ _ _ _ _ (by first | exact HN.out | exact HN.out.keep (gdrew1 _ _))).mono ?_); rintro e v6 ⟨rfl, hm⟩; replace HN := hid hm; clear hm))
 all_goals (go_wp2_with fail)
 all_goals (go_ret)
 all_goals (refine ⟨by first | rfl | simp, A1, ⟨x, y, zs1, os1, T, ps, ?_, HQ.out.1, by omega, HZL.out⟩, HA1.out.1, HA1.out.2⟩)
 all_goals (rw [HD1.out]; exact HN.out.wx)
set_option maxRecDepth 100000 in
set_option maxHeartbeats 8000000 in
theorem plays_ap0off (h : Wx w b0 b1 sb x y A A.sr zs os bk lt T ps u) (hT : Tab w) (hw : A.wr ≤ 4611686018427387000) (hroom : A.room ≤ 4194304) (hps : ps.length < 8) (hTT : T + 208 ≤ 10000000) {Z : Nat} (hz : ∀ j, zs j ≤ Z) (hZ : 4194304 ≤ Z) (hZ2 : Z ≤ 1000000000) {F : Nat → Prop} (hB : Rd w F (.slice ba bn bc) l) (hl : l.length ≤ 524288) (hand : bits .and .i64 on 1 = 0) {lb rb : Nat} (hx : x 0 = some lb) (hy : y 0 = some rb) (ho : os 0 = true) :
  Calls Tryz.prog 10 #[.pointer (some ⟨sb, 0, none⟩), .agg [Value.int .i64 1, .int .i64 on, .slice ba bn bc, .int .i64 nv, .int .i64 kv].toArray] u fun e u' => e = .returned (.bool true) ∧ ∃ A', Opn w b0 b1 sb bk lt T 208 (Z + 600000) A' u' ∧ A'.room = A.room ∧ A'.wr ≤ A.wr + 3 := by
 have hu0 := And.intro hT (And.intro hw (And.intro hroom (And.intro hps (And.intro hTT (And.intro hz (And.intro hZ (And.intro hZ2 (And.intro hB hl))))))))
 clear hu0
 have hn : NdC A.C := (h.nn (k := 0)).1
 have HM := hid h
 have HQ : Hid (ps.length < 8 ∧ (∀ j, zs j ≤ Z) ∧ Z ≤ 1000000000) := hid ⟨hps, hz, hZ2⟩
 have HB : Hid (Rd w F (.slice ba bn bc) l) := hid hB
 have HLl : Hid (l.length ≤ 524288) := hid hl
 have hzk : zs 0 ≤ 1099511627776 := by have := hz 0; omega
 obtain ⟨E, HE⟩ : ∃ z : Int, Hid (z = 102) := ⟨_, hid rfl⟩
 have HPa : Hid (∀ u ob cs v, Wl w b0 b1 sb x y A A.sr zs os zs os bk lt T ps ob cs v l u → Calls Tryz.prog 16 #[.pointer (some ⟨lb, 0, none⟩), v] u fun e u' => e = .returned (.int .i64 E) ∧ Wl w b0 b1 sb x y A A.sr zs os zs os bk lt T ps ob cs v l u') := hid (fun u ob cs v q => by rw [HE.out]; exact q.poff (by decide) hx ho)
 have HRa : Hid (∀ u ob cs A' zs' os', Wn w b0 b1 sb x y A' A.sr zs' os' zs os bk lt T ps ob cs u → Calls Tryz.prog 27 #[.pointer (some ⟨rb, 0, none⟩), .slice ba bn bc] u fun e u' => e = .returned (.int .i64 E) ∧ Wn w b0 b1 sb x y A' A.sr zs' os' zs os bk lt T ps ob cs u') := hid (fun u ob cs A' zs' os' q => by rw [HE.out]; exact q.roff (by decide) hy ho _)
 have HZL : Hid (∀ j, zs j ≤ Z + 600000) := hid (fun j => by have := hz j; omega)
 clear HE
 have hx' : pv (x 0) = .pointer (some ⟨lb, 0, none⟩) := by rw [hx]; rfl
 have hy' : pv (y 0) = .pointer (some ⟨rb, 0, none⟩) := by rw [hy]; rfl
 clear h hT hw hroom hps hTT hz hZ hZ2 hB hl hn hx hy ho hzk
 go_enter Tryz.func10, Tryz.ntmps10
 go_upto_region 3 with ((with_reducible refine wpList_box_row (by with_unfolding_all rfl) 76 _ (by with_unfolding_all rfl) [Value.int .i64 1, .int .i64 on, .slice ba bn bc, .int .i64 nv, .int .i64 kv] (by with_unfolding_all rfl) ?_); intro w1 B1 s1 g1; have HB1 := hid B1; have HG1 := hid g1; have c0 := B1.cell 0; have c1 := B1.cell 1; clear B1 s1 g1)
 obtain ⟨ob, hob⟩ : ∃ x, u.heap.size = x := ⟨_, rfl⟩
 have HO : Hid (Wo w b0 b1 sb x y A A.sr zs os bk lt T ps ob [Value.int .i64 1, .int .i64 on, .slice ba bn bc, .int .i64 nv, .int .i64 kv] w1) := hid (by rw [← hob]; exact Wo.of HM.out HG1.out HB1.out)
 rw [hob] at c0 c1 ⊢
 clear hob HM HB1 HG1 c1
 have cl := (HO.out.cell 2).trans (show _ = some (pv (x 0)) from rfl)
 rw [hx'] at cl
 have c2 : w1.cell? ⟨ob, 2, none⟩ = some (.slice ba bn bc) := HO.out.at 2
 have HLe : Hid (Calls Tryz.prog 24 #[.slice ba bn bc] w1 fun e w' => ∃ v', e = .returned v' ∧ Lent w' w1.heap.size v' l ∧ w1.grownBy w' none) := hid (lend_any w1 _ F l (HB.out.keep HO.out.wx.gr) (by have := HLl.out; omega))
 go_upto_region 7 with (go_at_call 24; (with_reducible refine HLe.out.mono ?_); rintro e w2 ⟨v2, rfl, hL, hg⟩; have HL := hid (Wl.of HO.out hg hL); obtain ⟨gv, cv, hv2, -, -⟩ := hL; clear hg)
 subst hv2
 obtain ⟨ln, hln⟩ : ∃ z, l.length = z := ⟨_, rfl⟩
 rw [hln] at HL ⊢
 have HLn := hid hln
 clear hln cl c2 c0 HLe HO
 have cl := (HL.out.cell 2).trans (show _ = some (pv (x 0)) from rfl)
 rw [hx'] at cl
 go_upto_region 8 with (go_at_call 16; (with_reducible refine (HPa.out _ _ _ _ HL.out).mono ?_); rintro e w3 ⟨rfl, hm⟩; replace HL := hid hm; clear hm)
 clear cl HPa
 have c2 : w3.cell? ⟨ob, 2, none⟩ = some (.slice ba bn bc) := HL.out.at 2
 have HIn : Hid (Calls Tryz.prog 25 #[.slice (some ⟨gv, 0, none⟩) ln cv, .slice ba bn bc] w3 fun e u' => e = .returned (.bool true) ∧ Wl w b0 b1 sb x y A A.sr zs os zs os bk lt T ps ob [Value.int .i64 1, .int .i64 on, .slice ba bn bc, .int .i64 nv, .int .i64 kv] (.slice (some ⟨gv, 0, none⟩) ln cv) l u') := hid (HL.out.intact HB.out (by have := HLl.out; omega))
 go_upto_region 9 with (go_at_call 25; (with_reducible refine HIn.out.mono ?_); rintro e w4 ⟨rfl, hm⟩; replace HL := hid hm; clear hm)
 clear c2 HIn
 have HOv := hid (HL.out.over (by have := HLl.out; omega))
 go_upto_region 10 with (go_at_call 26; (with_reducible refine HOv.out.mono ?_); rintro e w5 ⟨rfl, hm⟩; have HN := hid hm; clear hm)
 clear HOv HL
 have cy := (HN.out.cell 4).trans (show _ = some (pv (y 0)) from rfl)
 rw [hy'] at cy
 have HCy : Hid (∀ u A D zs os zr qr, Wn w b0 b1 sb x y A D zs os zr qr bk lt T ps ob [Value.int .i64 1, .int .i64 on, .slice ba bn bc, .int .i64 nv, .int .i64 kv] u → u.cell? ⟨sb, 4, none⟩ = some (.pointer (some ⟨rb, 0, none⟩)) ∧ u.cell? ⟨ob, 2, none⟩ = some (.slice ba bn bc)) := hid (fun u A D zs os zr qr q => ⟨by rw [← hy']; exact q.cell 4, q.at 2⟩)
 have c45 := HCy.out _ _ _ _ _ _ _ HN.out
 clear cy hx' hy' HB
 go_region_held3 (fun v => v.cell? ⟨sb, 4, none⟩ = some (.pointer (some ⟨rb, 0, none⟩)) ∧ v.cell? ⟨ob, 2, none⟩ = some (.slice ba bn bc)) (first | assumption | exact HCy.out _ _ _ _ _ _ _ HN.out | exact HCy.out _ _ _ _ _ _ _ (HN.out.keep (gdrew1 _ _))) (first
  | (go_at_call 7; (with_reducible refine (num_any _ _).mono ?_); rintro e v6 ⟨rfl, hw6⟩; have hw' := hw6.symm; clear hw6; subst hw')
  | (go_at_call 27; (with_reducible refine (HRa.out _ _ _ _ _ _ (by first | exact HN.out | exact HN.out.keep (gdrew1 _ _))).mono ?_); rintro e v6 ⟨rfl, hm⟩; replace HN := hid hm; clear hm))
 all_goals (go_wp2_with fail)
 all_goals (go_ret)
 all_goals (refine ⟨by first | rfl | simp, A, ⟨x, y, zs, os, T, ps, ?_, HQ.out.1, by omega, HZL.out⟩, rfl, by omega⟩)
 all_goals (exact HN.out.wx)
end Go.Proofs.YtpbiofnncdneoaaGreatDoor
