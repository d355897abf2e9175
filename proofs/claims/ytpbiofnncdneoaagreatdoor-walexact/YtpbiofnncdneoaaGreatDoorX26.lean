/- Open of both sides, in the stage's colours. -/
import Derived.Test.YtpbiofnncdneoaaGreatDoorX25
namespace Go.Proofs.YtpbiofnncdneoaaGreatDoor
open Go Go.RowKit Go.MapKept Go.MuLone
open Go.RowKit (wrap32 wrap64)

variable {w u u' : World} {col col' : Nat → Nat} {A D : Ab} {b0 b1 sb bk lt T n k : Nat} {x y : Nat → Option Nat} {zs : Nat → Nat} {os : Nat → Bool} {ps : List Bq.Item} {rs : List (List UInt8)} {t : List UInt8}
open Classical in
/-- Blocks that are new: the disk's, the log, the rows told; the rest in colour 0. -/
noncomputable def pcol (u : World) (col : Nat → Nat) (i : Nat) (P' : Nat → Prop) (lb j : Nat) (Q : Nat → Prop) (k : Nat) : Nat := if k < u.heap.size then col k else if P' k then i else if k = lb then j else if Q k then 4 else 0
theorem zip_each {R : Value → List UInt8 → Prop} : ∀ {vs : List Value} {ls : List (List UInt8)}, Each R vs ls → ∀ p ∈ vs.zip ls, R p.1 p.2 ∧ p.1 ∈ vs ∧ p.2 ∈ ls
 | _, _, .nil, p, hp => by cases hp
 | _, _, .cons h q, p, hp => by
  rw [List.zip_cons_cons] at hp
  rcases List.mem_cons.1 hp with e | e
  ·rw [e]; exact ⟨h, List.mem_cons_self .., List.mem_cons_self ..⟩
  ·obtain ⟨q1, q2, q3⟩ := zip_each q p e
   exact ⟨q1, List.mem_cons_of_mem _ q2, List.mem_cons_of_mem _ q3⟩
theorem zip_apart {R : Value → List UInt8 → Prop} : ∀ {vs : List Value} {ls : List (List UInt8)}, Each R vs ls → vs.Pairwise Bk.Apart → (vs.zip ls).Pairwise (fun a b => Bk.Apart a.1 b.1)
 | _, _, .nil, _ => .nil
 | _, _, .cons h q, hp => by
  rw [List.zip_cons_cons]
  cases hp with
  | cons h1 h2 => exact .cons (fun p hp => h1 _ (zip_each q p hp).2.1) (zip_apart q h2)
theorem cb_eq (l : List UInt8) : Lib.byteCells l = Bk.cb l := rfl
theorem out_own {B : Nat} {v : Value} {l : List UInt8} {Q : Nat → Prop} (ho : Out B u v l) (hq : ∀ b, v.ownBlock = some b → B ≤ b → Q b) : Bq.OwnR u Q 5 v l.length (Bk.cb l) := by
 refine ⟨by have := ho.1; rw [cb_eq] at this; exact this, ?_⟩
 rcases ho.2 with q | ⟨g, cap, cur, q1, q2, q3, q4, q5, q6, q7⟩
 ·exact .inl q
 ·exact .inr ⟨g, cap, cur, q1, hq g (by rw [q1]; rfl) q2, q3, q4, q5, q6, by rw [← cb_eq]; exact q7⟩
/-- What the program's Open leaves. -/
theorem Ws.po (h : Ws w u col b0 b1 sb x y A D zs os bk lt T ps n) (hT : Tab w) (hp : Prt (A.fndB (nm k)) rs t) (hw : A.wr ≤ 4611686018427387904) (hlen : ∀ r ∈ rs, r.length ≤ 8388608) :
  Calls Tryz.prog 15 #[.pointer (some ⟨b0, 0, none⟩), .string (nm k)] u fun e u' => ∃ col', Stp w (fun j => j = 1) u col u' col' ∧ Sd w u' b0 (opA A (nm k) rs t) (Co w u' col' 1) ∧
   ((opE A (nm k) rs t ≠ 0 ∧ e = .returned (.tuple #[.pointer none, .slice none 0 0, .int .i64 (opE A (nm k) rs t)])) ∨
    (opE A (nm k) rs t = 0 ∧ ∃ lb v vs, e = .returned (.tuple #[.pointer (some ⟨lb, 0, none⟩), v, .int .i64 0]) ∧ u'.ownsRow w.heap.size 74 1 v rs.length vs ∧ (∀ b, v.ownBlock = some b → Co w u' col' 0 b) ∧ Each (fun v l => Out w.heap.size u' v l ∧ ∀ b, v.ownBlock = some b → Co w u' col' 4 b) vs rs ∧ Lg u' lb b0 (nm k) (flen rs) false ∧ Co w u' col' (5 + k) lb ∧ Bq.ST u' (Bt w u' col') bk lt T (ps ++ (vs.zip rs).take 200) n)) := by
 refine (popen h.d hT (nm_size k) hp hw).mono fun e u' ⟨P', H, q1, q2, q3, q4, q5⟩ => ?_
 have hsz := q2.size
 rcases q5 with ⟨q5, q6⟩ | ⟨q5, lb, v, q6, q7, q8, q9, q10⟩
 ·refine ⟨dye u col 1, Stp.paint q2 (fun x hx => dye_old hx), sd_paint q1 (dye_of (fun k hk => (q3 k hk).imp id (fun r => Nat.le_trans q4 r))), .inl ⟨q5, q6⟩⟩
 ·obtain ⟨vs, r1, r2, r3, r4, r5⟩ := q7.ex
  have hgw : w.heap.size ≤ u.heap.size := h.d.gr.size
  have hlb : lb < u'.heap.size := Blk.lt q8
  have hnP : ∀ b, u.heap.size ≤ b → b < H → ¬ P' b := fun b h1 h2 hb => (q3 b hb).elim (fun r => by have := r.2.2; omega) (fun r => by omega)
  let Q : Nat → Prop := fun b => ∃ z ∈ vs, z.ownBlock = some b
  have hc : ∀ x, x < u.heap.size → pcol u col 1 P' lb (5 + k) Q x = col x := fun x hx => if_pos hx
  have s := Stp.paint (col' := pcol u col 1 P' lb (5 + k) Q) q2 hc
  have h4 : ∀ z ∈ vs, ∀ b, z.ownBlock = some b → Co w u' (pcol u col 1 P' lb (5 + k) Q) 4 b := fun z hz b hb => by
   obtain ⟨j, hj, rfl⟩ := List.getElem_of_mem hz
   obtain ⟨z', hz', ho⟩ := r2.get j (by rw [← r2.len]; exact hj)
   rw [List.getElem?_eq_getElem hj] at hz'
   injection hz' with hz'
   rw [← hz'] at ho
   have b1 := own_low ho b hb
   have b2 := r4 _ hz b hb
   have b3 := own_lt ho b hb
   refine ⟨?_, by omega, b3⟩
   unfold pcol
   rw [if_neg (by omega), if_neg (hnP b b1 b2), if_neg (by omega), if_pos ⟨_, hz, hb⟩]
  refine ⟨pcol u col 1 P' lb (5 + k) Q, s, sd_paint q1 (fun b hb => ?_), .inr ⟨q5, lb, v, vs, q6, owns_base r1 hgw, fun b hb => ?_, ?_, q8, ?_, ?_⟩⟩
  ·rcases q3 b hb with r | r
   ·rw [hc b r.2.2]; exact r.1
   ·unfold pcol
    rw [if_neg (by omega), if_pos hb]
  ·have b1 := own_low r1 b hb
   have b2 := r5 b hb
   have b3 := own_lt r1 b hb
   refine ⟨?_, by omega, b3⟩
   unfold pcol
   rw [if_neg (by omega), if_neg (hnP b b1 b2), if_neg (by omega), if_neg]
   rintro ⟨z, hz, hzb⟩
   obtain ⟨j, hj, rfl⟩ := List.getElem_of_mem hz
   obtain ⟨z', hz', ho⟩ := r2.get j (by rw [← r2.len]; exact hj)
   rw [List.getElem?_eq_getElem hj] at hz'
   injection hz' with hz'
   rw [← hz'] at ho
   exact own_ne r1 ho (by decide) b hb hzb
  ·have hz : ∀ {vs' : List Value} {ls : List (List UInt8)}, Each (Out u.heap.size u') vs' ls → (∀ z ∈ vs', z ∈ vs) → Each (fun v l => Out w.heap.size u' v l ∧ ∀ b, v.ownBlock = some b → Co w u' (pcol u col 1 P' lb (5 + k) Q) 4 b) vs' ls := by
    intro vs' ls he
    induction he with
    | nil => intro _; exact .nil
    | cons h1 _ ih => intro hm; exact .cons ⟨owns_base h1 hgw, h4 _ (hm _ (List.mem_cons_self ..))⟩ (ih (fun z hz => hm z (List.mem_cons_of_mem _ hz)))
   exact hz r2 (fun _ hz => hz)
  ·refine ⟨?_, by omega, hlb⟩
   unfold pcol
   rw [if_neg (by omega), if_neg q10, if_pos rfl]
  ·refine h.b.items2 ⟨hsz, fun k hk hb => ?_, fun k hk hb => ?_, fun b hb => .inr hb⟩ (fun p hp' => ?_) ((zip_apart r2 r3).sublist (List.take_sublist ..))
   ·rcases hb with hb | hb
    ·exact hb.at s (by decide)
    ·omega
   ·rcases hb with hb | hb
    ·exact .inl (hb.stp s)
    ·omega
   ·obtain ⟨z1, z2, z3⟩ := zip_each r2 p (List.mem_of_mem_take hp')
    exact ⟨out_own z1 (fun b hb hB => ⟨hB, .inl (h4 _ z2 b hb)⟩), hlen _ z3⟩

/-- The reference tells the same of a disk that is sorted. -/
theorem op_sr (hn : NdC A.C) (s : ByteArray) : opE A.sr s rs t = opE A s rs t ∧ (opA A.sr s rs t).sr = (opA A s rs t).sr ∧ A.sr.fndB s = A.fndB s ∧ (opG A.sr s t ↔ opG A s t) := by
 obtain ⟨e1, e2, e3, e4⟩ := used_sr hn s
 obtain ⟨c1, c2⟩ := sr_cutE hn s (flen rs : Nat)
 have eg : opG A.sr s t ↔ opG A s t := by unfold opG; rw [e1]
 refine ⟨by unfold opE; rw [e1, c1], ?_, e2, eg⟩
 unfold opA
 by_cases g : opG A s t
 ·rw [if_pos g, if_pos (eg.2 g), c2]
 ·rw [if_neg g, if_neg (fun q => g (eg.1 q))]
  exact sr_self (srt_srtS hn)
/-- What the reference's Open leaves. -/
theorem ropen {b : Nat} {P : Nat → Prop} {s : ByteArray} (h : Sr w u b A P) (hsr : A.sr = A) (hs : s.size ≤ 64) (hok : (A.fndB s).length ≤ 268435456) (hp : Prt (A.fndB s) rs t) (hw : A.wr ≤ 4611686018427387904) :
  Calls Tryz.prog 21 #[.pointer (some ⟨b, 0, none⟩), .string s] u fun e u' => ∃ P', Sr w u' b (opA A s rs t).sr P' ∧ DF u u' P ∧ (∀ k, P' k → P k ∨ u.heap.size ≤ k) ∧
   ((opE A s rs t ≠ 0 ∧ e = .returned (.tuple #[.pointer none, .slice none 0 0, .int .i64 (opE A s rs t)])) ∨
    (opE A s rs t = 0 ∧ ∃ lb v, e = .returned (.tuple #[.pointer (some ⟨lb, 0, none⟩), v, .int .i64 0]) ∧ OutE u.heap.size u' v rs ∧ Rg u' lb b s (flen rs) false ∧ u.heap.size ≤ lb ∧ ¬ P' lb)) := by
 by_cases hr : A.fndE s = 0 ∨ A.fndE s = 92
 ·by_cases ht : t = []
  ·have e1 : opE A s rs t = 0 := by unfold opE; rw [if_neg (fun q => q hr), if_pos ht]
   have e2 : opA A s rs t = A := by unfold opA; rw [if_neg (fun q => q.2.1 ht)]
   rw [e1, e2, hsr]
   subst ht
   exact (ropen_whole h hs hok hr hp).mono fun e u' ⟨lb, v, q1, q2, q3, q4, q5⟩ => ⟨P, h.keep q5, DF.of q5, fun k hk => .inl hk, .inr ⟨rfl, lb, v, q1, q2, q3, q4, fun hk => by have := h.lt _ hk; omega⟩⟩
  ·by_cases h30 : unfrE t = 30
   ·have e1 : opE A s rs t = A.cutE s (flen rs : Nat) := by unfold opE; rw [if_neg (fun q => q hr), if_neg ht, if_pos h30]
    have e2 : opA A s rs t = A.cut s (flen rs : Nat) := by unfold opA; rw [if_pos ⟨hr, ht, h30⟩]
    rw [e1, e2]
    exact ropen_torn h hs hok hr hp ht h30 hw
   ·have e1 : opE A s rs t = 101 := by unfold opE; rw [if_neg (fun q => q hr), if_neg ht, if_neg h30]
    have e2 : opA A s rs t = A := by unfold opA; rw [if_neg (fun q => h30 q.2.2)]
    rw [e1, e2, hsr]
    exact (ropen_hurt h hs hok hr hp ht h30).mono fun e u' ⟨q1, q2⟩ => ⟨P, h.keep q2, DF.of q2, fun k hk => .inl hk, .inl ⟨by decide, q1⟩⟩
 ·have e1 : opE A s rs t = A.fndE s := by unfold opE; rw [if_pos hr]
  have e2 : opA A s rs t = A := by unfold opA; rw [if_neg (fun q => hr q.1)]
  rw [e1, e2, hsr]
  exact (ropen_no h hs (fun q => hr (.inl q)) (fun q => hr (.inr q))).mono fun e u' ⟨q1, q2⟩ => ⟨P, h.keep q2, DF.of q2, fun k hk => .inl hk, .inl ⟨fun q => hr (.inl q), q1⟩⟩
/-- What the reference's Open leaves, in the stage's colours. -/
theorem ro_co (h : Sr w u b1 A.sr (Co w u col 2)) (hn : NdC A.C) (hok : (A.fndB (nm k)).length ≤ 268435456) (hp : Prt (A.fndB (nm k)) rs t) (hw : A.wr ≤ 4611686018427387904) :
  Calls Tryz.prog 21 #[.pointer (some ⟨b1, 0, none⟩), .string (nm k)] u fun e u' => ∃ col', Stp w (fun j => j = 2) u col u' col' ∧ Sr w u' b1 (opA A (nm k) rs t).sr (Co w u' col' 2) ∧
   ((opE A (nm k) rs t ≠ 0 ∧ e = .returned (.tuple #[.pointer none, .slice none 0 0, .int .i64 (opE A (nm k) rs t)])) ∨
    (opE A (nm k) rs t = 0 ∧ ∃ rb v, e = .returned (.tuple #[.pointer (some ⟨rb, 0, none⟩), v, .int .i64 0]) ∧ OutE u.heap.size u' v rs ∧ (∀ b, u.heap.size ≤ b → col' b ≠ 4) ∧ Rg u' rb b1 (nm k) (flen rs) false ∧ Co w u' col' (7 + k) rb)) := by
 obtain ⟨e1, e2, e3, e4⟩ := op_sr (rs := rs) (t := t) hn (nm k)
 rw [← e1, ← e2]
 refine (ropen (rs := rs) (t := t) h (sr_self (srt_srtS hn)) (nm_size k) (by rw [e3]; exact hok) (by rw [e3]; exact hp) hw).mono fun e u' ⟨P', q1, q2, q3, q5⟩ => ?_
 have hgw : w.heap.size ≤ u.heap.size := h.gr.size
 rcases q5 with ⟨q5, q6⟩ | ⟨q5, rb, v, q6, q7, q8, q9, q10⟩
 ·exact ⟨dye u col 2, Stp.paint q2 (fun x hx => dye_old hx), sr_paint q1 (dye_of q3), .inl ⟨q5, q6⟩⟩
 ·have hlb : rb < u'.heap.size := Blk.lt q8
  have hc : ∀ x, x < u.heap.size → pcol u col 2 P' rb (7 + k) (fun _ => False) x = col x := fun x hx => if_pos hx
  refine ⟨pcol u col 2 P' rb (7 + k) (fun _ => False), Stp.paint q2 hc, sr_paint q1 (fun b hb => ?_), .inr ⟨q5, rb, v, q6, q7, fun b hb => ?_, q8, ⟨?_, by omega, hlb⟩⟩⟩
  ·rcases q3 b hb with r | r
   ·rw [hc b r.2.2]; exact r.1
   ·unfold pcol
    rw [if_neg (by omega), if_pos hb]
  ·unfold pcol
   rw [if_neg (by omega)]
   by_cases hb2 : P' b
   ·rw [if_pos hb2]; decide
   ·rw [if_neg hb2]
    by_cases hb3 : b = rb
    ·rw [if_pos hb3]; omega
    ·rw [if_neg hb3, if_neg (fun q => q)]; decide
  ·unfold pcol
   rw [if_neg (by omega), if_neg q10, if_pos rfl]
end Go.Proofs.YtpbiofnncdneoaaGreatDoor

namespace Go.Proofs.YtpbiofnncdneoaaGreatDoor
open Go Go.RowKit Go.MapKept Go.MuLone
open Go.RowKit (wrap32 wrap64)

variable {w u u' : World} {col col' : Nat → Nat} {A A' D : Ab} {b0 b1 sb bk lt T n k : Nat} {x y : Nat → Option Nat} {zs : Nat → Nat} {os : Nat → Bool} {ps : List Bq.Item} {rs : List (List UInt8)} {t : List UInt8}
theorem sgc_x (hk : k < 2) (v : Option Nat) : (sgc b0 b1 x y bk lt).set (2 + k) (pv v) = sgc b0 b1 (up x k v) y bk lt := by
 rcases (show k = 0 ∨ k = 1 by omega) with rfl | rfl <;> rfl
theorem sgc_y (hk : k < 2) (v : Option Nat) : (sgc b0 b1 x y bk lt).set (4 + k) (pv v) = sgc b0 b1 x (up y k v) bk lt := by
 rcases (show k = 0 ∨ k = 1 by omega) with rfl | rfl <;> rfl
/-- The stage takes both logs. -/
theorem Ws.sto {xl yl : Option Nat} {z : Nat} (hd : Sd w u b0 A (Co w u col 1)) (hr : Sr w u b1 D (Co w u col 2)) (hg : Pl w u col 9 sb (sgc b0 b1 x y bk lt) 72) (hl : ∀ j, j < 2 → j ≠ k → Lo w u col b0 b1 j (x j) (y j) (zs j) (os j)) (hk : k < 2) (lk : Lo w u col b0 b1 k xl yl z false) (hb : Bq.ST u (Bt w u col) bk lt T ps n) :
  ∃ col', Ws w ((u.setCell ⟨sb, 2 + k, none⟩ (pv xl)).setCell ⟨sb, 4 + k, none⟩ (pv yl)) col' b0 b1 sb (up x k xl) (up y k yl) A D (up zs k z) (up os k false) bk lt T ps n := by
 have g1 : u.grownBy (u.setCell ⟨sb, 2 + k, none⟩ (pv xl)) (some sb) := gset _ _ _
 have g2 : (u.setCell ⟨sb, 2 + k, none⟩ (pv xl)).grownBy ((u.setCell ⟨sb, 2 + k, none⟩ (pv xl)).setCell ⟨sb, 4 + k, none⟩ (pv yl)) (some sb) := gset _ _ _
 have s1 : Stp w (fun i => i = 9) u col _ (dye u col 9) := Stp.one g1 hg.co 9 rfl
 have s2 : Stp w (fun i => i = 9) _ (dye u col 9) _ (dye _ (dye u col 9) 9) := Stp.one g2 (hg.co.stp s1) 9 rfl
 have s := s1.trans s2
 have p1 : Blk u sb (sgc b0 b1 x y bk lt) 72 := hg.blk
 have p2 := (p1.set (2 + k) (pv xl))
 rw [sgc_x hk] at p2
 have p3 := (p2.set (4 + k) (pv yl))
 rw [sgc_y hk] at p3
 refine ⟨_, hd.stp s (by decide), hr.stp s (by decide), ⟨p3, hg.co.stp s⟩, fun j hj => ?_, st_stp hb s (by decide)⟩
 by_cases e : j = k
 ·subst e
  rw [up_at, up_at, up_at, up_at]
  exact lk.stp s (by omega) (by omega)
 ·rw [up_ne e, up_ne e, up_ne e, up_ne e]
  exact (hl j hj e).stp s (by omega) (by omega)
/-- Settle behind it. -/
theorem Ws.settle (h : Ws w u col b0 b1 sb x y A D zs os bk lt T ps ps.length) (hn : ps.length ≤ 1000) (hT : T + ps.length ≤ 10000000) (k0 : Int) :
  Calls Tryz.prog 12 #[.pointer (some ⟨lt, 0, none⟩), .pointer (some ⟨bk, 0, none⟩), .int .i64 k0] u fun e u' => e = .returned (.bool true) ∧ ∃ col' T' ps', Ws w u' col' b0 b1 sb x y A D zs os bk lt T' ps' ps'.length ∧ (ps' = [] ∨ (ps' = ps ∧ (ps.length : Int) < k0)) ∧ T' ≤ T + ps.length := by
 refine (Bq.settle_any u (Bt w u col) bk lt T ps h.b (by omega) (by omega) k0).mono fun e u' ⟨q1, q2, q3⟩ => ⟨q1, ?_⟩
 rcases q3 with ⟨q3, rfl⟩ | ⟨T', q3, q4⟩
 ·exact ⟨col, T, ps, h, .inr ⟨rfl, q3.out⟩, by omega⟩
 ·obtain ⟨r1, r2⟩ := st_own h.d.gr q4 q2
  exact ⟨_, T', [], ⟨h.d.stp r2 (by decide), h.r.stp r2 (by decide), h.g.stp r2 (by decide), fun k hk => (h.l k hk).stp r2 (by omega) (by omega), r1⟩, .inl rfl, q3.out⟩
/-- The stage in some colours. -/
def Wx (w : World) (b0 b1 sb : Nat) (x y : Nat → Option Nat) (A D : Ab) (zs : Nat → Nat) (os : Nat → Bool) (bk lt T : Nat) (ps : List Bq.Item) (u : World) : Prop := ∃ col, Ws w u col b0 b1 sb x y A D zs os bk lt T ps ps.length
theorem Wx.keep (h : Wx w b0 b1 sb x y A D zs os bk lt T ps u) (hg : u.grownBy u' none) : Wx w b0 b1 sb x y A D zs os bk lt T ps u' := by
 obtain ⟨col, h⟩ := h
 exact ⟨_, h.keep hg⟩
theorem Wx.cell (h : Wx w b0 b1 sb x y A D zs os bk lt T ps u) (i : Nat) : u.cell? ⟨sb, i, none⟩ = (sgc b0 b1 x y bk lt)[i]? := by
 obtain ⟨col, h⟩ := h
 exact h.g.cell i
/-- What open leaves. -/
def Opn (w : World) (b0 b1 sb bk lt T N Z : Nat) (A' : Ab) (u' : World) : Prop := ∃ x y zs os T' ps, Wx w b0 b1 sb x y A' A'.sr zs os bk lt T' ps u' ∧ ps.length < 8 ∧ T' ≤ T + N ∧ ∀ j, zs j ≤ Z
theorem up_le {f : Nat → Nat} {k z Z : Nat} (h : ∀ j, f j ≤ Z) (hz : z ≤ Z) : ∀ j, up f k z j ≤ Z := fun j => by
 unfold up
 split
 ·exact hz
 ·exact h j
theorem Opn.cells67 {N Z : Nat} (h : Opn w b0 b1 sb bk lt T N Z A' u) : u.cell? ⟨sb, 6, none⟩ = some (.pointer (some ⟨bk, 0, none⟩)) ∧ u.cell? ⟨sb, 7, none⟩ = some (.pointer (some ⟨lt, 0, none⟩)) := by
 obtain ⟨x, y, zs, os, T', ps, h, _⟩ := h
 exact ⟨h.cell 6, h.cell 7⟩
theorem Ws.opn (h : Ws w u col b0 b1 sb x y A' A'.sr zs os bk lt T ps ps.length) (hn : ps.length ≤ 1000) (hT : T + ps.length ≤ 10000000) {Z : Nat} (hz : ∀ j, zs j ≤ Z) :
  Calls Tryz.prog 12 #[.pointer (some ⟨lt, 0, none⟩), .pointer (some ⟨bk, 0, none⟩), .int .i64 8] u fun e u' => e = .returned (.bool true) ∧ Opn w b0 b1 sb bk lt T ps.length Z A' u' :=
 (h.settle hn hT 8).mono fun e u' ⟨q1, col', T', ps', q2, q3, q4⟩ => ⟨q1, x, y, zs, os, T', ps', ⟨col', q2⟩, by
  rcases q3 with rfl | ⟨rfl, q3⟩
  ·decide
  ·omega, q4, hz⟩
/-- Both Opens refuse. -/
theorem Wx.pno (h : Wx w b0 b1 sb x y A D zs os bk lt T ps u) (hT : Tab w) (hp : Prt (A.fndB (nm k)) rs t) (hw : A.wr ≤ 4611686018427387904) (hlen : ∀ r ∈ rs, r.length ≤ 8388608) (hE : opE A (nm k) rs t ≠ 0) :
  Calls Tryz.prog 15 #[.pointer (some ⟨b0, 0, none⟩), .string (nm k)] u fun e u' => e = .returned (.tuple #[.pointer none, .slice none 0 0, .int .i64 (opE A (nm k) rs t)]) ∧ Wx w b0 b1 sb x y (opA A (nm k) rs t) D zs os bk lt T ps u' := by
 obtain ⟨col, h⟩ := h
 refine (h.po hT hp hw hlen).mono fun e u' ⟨col', q1, q2, q3⟩ => ?_
 rcases q3 with ⟨_, q4⟩ | ⟨q4, _⟩
 ·exact ⟨q4, col', q2, h.r.stp q1 (by decide), h.g.stp q1 (by decide), fun j hj => (h.l j hj).stp q1 (by omega) (by omega), st_stp h.b q1 (by decide)⟩
 ·exact absurd q4 hE
theorem Wx.rno (h : Wx w b0 b1 sb x y A' A.sr zs os bk lt T ps u) (hn : NdC A.C) (hok : (A.fndB (nm k)).length ≤ 268435456) (hp : Prt (A.fndB (nm k)) rs t) (hw : A.wr ≤ 4611686018427387904) (hE : opE A (nm k) rs t ≠ 0) :
  Calls Tryz.prog 21 #[.pointer (some ⟨b1, 0, none⟩), .string (nm k)] u fun e u' => e = .returned (.tuple #[.pointer none, .slice none 0 0, .int .i64 (opE A (nm k) rs t)]) ∧ Wx w b0 b1 sb x y A' (opA A (nm k) rs t).sr zs os bk lt T ps u' := by
 obtain ⟨col, h⟩ := h
 refine (ro_co h.r hn hok hp hw).mono fun e u' ⟨col', q1, q2, q3⟩ => ?_
 rcases q3 with ⟨_, q4⟩ | ⟨q4, _⟩
 ·exact ⟨q4, col', h.d.stp q1 (by decide), q2, h.g.stp q1 (by decide), fun j hj => (h.l j hj).stp q1 (by omega) (by omega), st_stp h.b q1 (by decide)⟩
 ·exact absurd q4 hE
set_option maxRecDepth 100000 in
set_option maxHeartbeats 8000000 in
theorem open_no (h : Wx w b0 b1 sb x y A A.sr zs os bk lt T ps u) (hk : k < 2) (hT : Tab w) (hp : Prt (A.fndB (nm k)) rs t) (hw : A.wr ≤ 4611686018427387904) (hlen : ∀ r ∈ rs, r.length ≤ 8388608) (hps : ps.length < 8) (hTT : T + ps.length ≤ 10000000) (hE : opE A (nm k) rs t ≠ 0) {Z : Nat} (hz : ∀ j, zs j ≤ Z) :
  Calls Tryz.prog 9 #[.pointer (some ⟨sb, 0, none⟩), .int .i64 (k : Nat)] u fun e u' => e = .returned (.bool true) ∧ Opn w b0 b1 sb bk lt T ps.length Z (opA A (nm k) rs t) u' := by
 have hn : NdC A.C := by obtain ⟨_, h⟩ := h; exact h.d.dk.nd
 have hok : (A.fndB (nm k)).length ≤ 268435456 := by obtain ⟨_, h⟩ := h; exact fil_len h.d.dk.1
 have HM := hid h
 have HZs := hid hz
 have HPs : Hid (ps.length < 8 ∧ T + ps.length ≤ 10000000) := hid ⟨hps, hTT⟩
 have HPo : Hid (∀ u, Wx w b0 b1 sb x y A A.sr zs os bk lt T ps u → Calls Tryz.prog 15 #[.pointer (some ⟨b0, 0, none⟩), .string (nm k)] u fun e u' => e = .returned (.tuple #[.pointer none, .slice none 0 0, .int .i64 (opE A (nm k) rs t)]) ∧ Wx w b0 b1 sb x y (opA A (nm k) rs t) A.sr zs os bk lt T ps u') := hid (fun u h => h.pno hT hp hw hlen hE)
 have HRo : Hid (∀ u, Wx w b0 b1 sb x y (opA A (nm k) rs t) A.sr zs os bk lt T ps u → Calls Tryz.prog 21 #[.pointer (some ⟨b1, 0, none⟩), .string (nm k)] u fun e u' => e = .returned (.tuple #[.pointer none, .slice none 0 0, .int .i64 (opE A (nm k) rs t)]) ∧ Wx w b0 b1 sb x y (opA A (nm k) rs t) (opA A (nm k) rs t).sr zs os bk lt T ps u') := hid (fun u h => h.rno hn hok hp hw hE)
 have HNm : Hid (∀ u, Calls Tryz.prog 20 #[.int .i64 (k : Int)] u fun e u' => e = .returned (.string (nm k)) ∧ u' = u) := hid (fun u => names_any u k hk)
 have HRw : Hid (∀ u, Calls Tryz.prog 22 #[.slice none 0 0, .slice none 0 0] u fun e u' => e = .returned (.bool true) ∧ u.grownBy u' none) := hid (fun u => rows_same u (fun _ => True) (fun _ => True) none none 0 0 0 0 0 0 [] ⟨fun h => absurd h (by simp), fun i hi => absurd hi (by simp)⟩ ⟨fun h => absurd h (by simp), fun i hi => absurd hi (by simp)⟩ (by simp))
 obtain ⟨E, HE⟩ : ∃ z, Hid (opE A (nm k) rs t = z) := ⟨_, hid rfl⟩
 rw [HE.out] at hE HPo HRo
 obtain ⟨A1, HA1⟩ : ∃ z, Hid (opA A (nm k) rs t = z) := ⟨_, hid rfl⟩
 rw [HA1.out] at HPo HRo ⊢
 obtain ⟨s, HSn⟩ : ∃ z, Hid (nm k = z) := ⟨_, hid rfl⟩
 rw [HSn.out] at HPo HRo HNm
 have c0 : u.cell? ⟨sb, 0, none⟩ = some (.pointer (some ⟨b0, 0, none⟩)) := HM.out.cell 0
 clear h hp hw hlen hT hps hTT hn hok HE HA1 HSn hz
 go_enter Tryz.func9, Tryz.ntmps9
 go_upto_region 1 with fail
 go_region_held3 (fun v => v.cell? ⟨sb, 0, none⟩ = some (.pointer (some ⟨b0, 0, none⟩))) (first | assumption | exact HM.out.cell 0 | exact (HM.out.keep (gdrew1 _ _)).cell 0) (first
  | (go_at_call 20; (with_reducible refine (HNm.out _).mono ?_); rintro e v1 ⟨rfl, hw1⟩; subst hw1)
  | (go_at_call 15; (with_reducible refine (HPo.out _ (by first | exact HM.out | exact HM.out.keep (gdrew1 _ _))).mono ?_); rintro e v1 ⟨rfl, hm⟩; replace HM := hid hm; clear hm))
 have c1 := (HM.out.cell 1).trans (show _ = some (Value.pointer (some ⟨b1, 0, none⟩)) from rfl)
 clear c0
 go_upto_region 2 with fail
 go_region_held3 (fun v => v.cell? ⟨sb, 1, none⟩ = some (.pointer (some ⟨b1, 0, none⟩))) (first | assumption | exact HM.out.cell 1 | exact (HM.out.keep (gdrew1 _ _)).cell 1) (first
  | (go_at_call 20; (with_reducible refine (HNm.out _).mono ?_); rintro e v2 ⟨rfl, hw2⟩; subst hw2)
  | (go_at_call 21; (with_reducible refine (HRo.out _ (by first | exact HM.out | exact HM.out.keep (gdrew1 _ _))).mono ?_); rintro e v2 ⟨rfl, hm⟩; replace HM := hid hm; clear hm))
 clear c1
 go_wp2_with (first
  | (go_at_call 7; (with_reducible refine (num_any _ _).mono ?_); rintro e v3 ⟨rfl, hw3⟩; subst hw3)
  | (go_at_call 22; (with_reducible refine (HRw.out _).mono ?_); rintro e v4 ⟨rfl, hg⟩; replace HM := hid (HM.out.keep hg); clear hg))
 go_loopw [11] (fun iv wr => iv = .int .i64 (0 : Nat) ∧ Hid (Wx w b0 b1 sb x y A1 A1.sr zs os bk lt T ps wr)) (fun _ _ => 0)
 case atStart => exact ⟨rfl, HM⟩
 case round =>
  obtain ⟨rfl, HM⟩ := hrel
  obtain ⟨u5, hu5⟩ : ∃ x : World, x = wr := ⟨_, rfl⟩
  rw [← hu5] at HM ⊢
  clear hu5
  have HSt : Hid (∀ ps u, ps.length ≤ 1000 → T + ps.length ≤ 10000000 → ∀ x y zs os, (∀ j, zs j ≤ Z) → Wx w b0 b1 sb x y A1 A1.sr zs os bk lt T ps u → Calls Tryz.prog 12 #[.pointer (some ⟨lt, 0, none⟩), .pointer (some ⟨bk, 0, none⟩), .int .i64 8] u fun e u' => e = .returned (.bool true) ∧ Opn w b0 b1 sb bk lt T ps.length Z A1 u') := hid (fun ps u h1 h2 x y zs os hz ⟨_, h⟩ => h.opn h1 h2 hz)
  rcases (show k = 0 ∨ k = 1 by omega) with rfl | rfl
  ·obtain ⟨colx, hx⟩ := HM.out
   have p1 : Blk u5 sb (sgc b0 b1 x y bk lt) 72 := hx.g.blk
   have k2 : u5.cell? ⟨sb, 2, none⟩ = some (pv (x 0)) := p1.cell 2
   have f2 := p1.frozen 2
   have p2 := p1.set 2 (.pointer none)
   have k4 : (u5.setCell ⟨sb, 2, none⟩ (.pointer none)).cell? ⟨sb, 4, none⟩ = some (pv (y 0)) := p2.cell 4
   have f4 := p2.frozen 4
   have HN : Hid (∃ col', Ws w ((u5.setCell ⟨sb, 2, none⟩ (.pointer none)).setCell ⟨sb, 4, none⟩ (.pointer none)) col' b0 b1 sb (up x 0 none) (up y 0 none) A1 A1.sr (up zs 0 0) (up os 0 false) bk lt T ps ps.length) := hid (Ws.sto (k := 0) (xl := none) (yl := none) (z := 0) hx.d hx.r hx.g (fun j hj _ => hx.l j hj) (by decide) ⟨fun _ h => (by cases h), fun _ h => (by cases h), rfl⟩ hx.b)
   clear p1 p2 hx HM
   go_upto_region 11 with fail
   obtain ⟨u6, hu6⟩ : ∃ z, (u5.setCell ⟨sb, 2, none⟩ (.pointer none)).setCell ⟨sb, 4, none⟩ (.pointer none) = z := ⟨_, rfl⟩
   rw [hu6] at HN ⊢
   clear hu6 k2 k4 f2 f4
   have HM : Hid (Wx w b0 b1 sb (up x 0 none) (up y 0 none) A1 A1.sr (up zs 0 0) (up os 0 false) bk lt T ps u6) := hid HN.out
   clear HN
   have c67 := And.intro ((HM.out.cell 6).trans (show _ = some (Value.pointer (some ⟨bk, 0, none⟩)) from rfl)) ((HM.out.cell 7).trans (show _ = some (Value.pointer (some ⟨lt, 0, none⟩)) from rfl))
   go_region_held3 (fun v => v.cell? ⟨sb, 6, none⟩ = some (.pointer (some ⟨bk, 0, none⟩)) ∧ v.cell? ⟨sb, 7, none⟩ = some (.pointer (some ⟨lt, 0, none⟩))) (first | assumption | exact ⟨HM.out.cell 6, HM.out.cell 7⟩ | exact ⟨(HM.out.keep (gdrew1 _ _)).cell 6, (HM.out.keep (gdrew1 _ _)).cell 7⟩ | exact HO.out.cells67) (first
    | (go_at_call 12; (with_reducible refine (HSt.out _ _ (by have := HPs.out; omega) HPs.out.2 _ _ _ _ (up_le (k := 0) (z := 0) HZs.out (Nat.zero_le _)) (by first | exact HM.out | exact HM.out.keep (gdrew1 _ _))).mono ?_); rintro e v6 ⟨rfl, hm⟩; have HO := hid hm; clear hm))
   go_wp2_with fail
   go_ret
   exact ⟨rfl, HO.out⟩
  ·obtain ⟨colx, hx⟩ := HM.out
   have p1 : Blk u5 sb (sgc b0 b1 x y bk lt) 72 := hx.g.blk
   have k2 : u5.cell? ⟨sb, 3, none⟩ = some (pv (x 1)) := p1.cell 3
   have f2 := p1.frozen 3
   have p2 := p1.set 3 (.pointer none)
   have k4 : (u5.setCell ⟨sb, 3, none⟩ (.pointer none)).cell? ⟨sb, 5, none⟩ = some (pv (y 1)) := p2.cell 5
   have f4 := p2.frozen 5
   have HN : Hid (∃ col', Ws w ((u5.setCell ⟨sb, 3, none⟩ (.pointer none)).setCell ⟨sb, 5, none⟩ (.pointer none)) col' b0 b1 sb (up x 1 none) (up y 1 none) A1 A1.sr (up zs 1 0) (up os 1 false) bk lt T ps ps.length) := hid (Ws.sto (k := 1) (xl := none) (yl := none) (z := 0) hx.d hx.r hx.g (fun j hj _ => hx.l j hj) (by decide) ⟨fun _ h => (by cases h), fun _ h => (by cases h), rfl⟩ hx.b)
   clear p1 p2 hx HM
   go_upto_region 11 with fail
   obtain ⟨u6, hu6⟩ : ∃ z, (u5.setCell ⟨sb, 3, none⟩ (.pointer none)).setCell ⟨sb, 5, none⟩ (.pointer none) = z := ⟨_, rfl⟩
   rw [hu6] at HN ⊢
   clear hu6 k2 k4 f2 f4
   have HM : Hid (Wx w b0 b1 sb (up x 1 none) (up y 1 none) A1 A1.sr (up zs 1 0) (up os 1 false) bk lt T ps u6) := hid HN.out
   clear HN
   have c67 := And.intro ((HM.out.cell 6).trans (show _ = some (Value.pointer (some ⟨bk, 0, none⟩)) from rfl)) ((HM.out.cell 7).trans (show _ = some (Value.pointer (some ⟨lt, 0, none⟩)) from rfl))
   go_region_held3 (fun v => v.cell? ⟨sb, 6, none⟩ = some (.pointer (some ⟨bk, 0, none⟩)) ∧ v.cell? ⟨sb, 7, none⟩ = some (.pointer (some ⟨lt, 0, none⟩))) (first | assumption | exact ⟨HM.out.cell 6, HM.out.cell 7⟩ | exact ⟨(HM.out.keep (gdrew1 _ _)).cell 6, (HM.out.keep (gdrew1 _ _)).cell 7⟩ | exact HO.out.cells67) (first
    | (go_at_call 12; (with_reducible refine (HSt.out _ _ (by have := HPs.out; omega) HPs.out.2 _ _ _ _ (up_le (k := 1) (z := 0) HZs.out (Nat.zero_le _)) (by first | exact HM.out | exact HM.out.keep (gdrew1 _ _))).mono ?_); rintro e v6 ⟨rfl, hm⟩; have HO := hid hm; clear hm))
   go_wp2_with fail
   go_ret
   exact ⟨rfl, HO.out⟩
end Go.Proofs.YtpbiofnncdneoaaGreatDoor

namespace Go.Proofs.YtpbiofnncdneoaaGreatDoor
open Go Go.RowKit Go.MapKept Go.MuLone
open Go.RowKit (wrap32 wrap64)

variable {w u u' : World} {col col' : Nat → Nat} {A A' D : Ab} {b0 b1 sb bk lt T n k : Nat} {x y : Nat → Option Nat} {zs : Nat → Nat} {os : Nat → Bool} {ps : List Bq.Item} {rs : List (List UInt8)} {t : List UInt8}
/-- A row of slices that nothing of the book's colour holds. -/
structure RowC (u : World) (col : Nat → Nat) (v : Value) (vs : List Value) (rs : List (List UInt8)) : Prop where
 row : u.ownsRow 0 74 1 v rs.length vs
 far : ∀ b, v.ownBlock = some b → col b ≠ 4
 each : Each (Out 0 u) vs rs
theorem out_same {v : Value} {l : List UInt8} (h : Out 0 u v l) (s : Bk.Same 5 u u') : Out 0 u' v l := by
 refine ⟨h.1, ?_⟩
 rcases h.2 with q | ⟨g, cap, cur, q1, q2, q3, q4⟩
 ·exact .inl q
 ·exact .inr ⟨g, cap, cur, q1, q2, by rw [s g cur (0, 0) q3]; exact q3, q4⟩
theorem row_at {v : Value} {e m : Nat} {vs : List Value} (h : u.ownsRow 0 e 1 v m vs) (hb : ∀ b, v.ownBlock = some b → u'.heap[b]? = u.heap[b]?) : u'.ownsRow 0 e 1 v m vs := by
 refine ⟨h.1, ?_⟩
 rcases h.2 with q | ⟨g, cap, cur, q1, q2, q3, q4⟩
 ·exact .inl q
 ·exact .inr ⟨g, cap, cur, q1, q2, by rw [hb g (by rw [q1]; rfl)]; exact q3, q4⟩
theorem RowC.keep {v : Value} {vs : List Value} (h : RowC u col v vs rs) (hg : u.grownBy u' none) (i : Nat) : RowC u' (dye u col i) v vs rs :=
 ⟨World.ownsRow.kept h.row hg (by cases v.ownBlock <;> simp), fun b hb => by rw [dye_old (own_lt h.row b hb)]; exact h.far b hb, h.each.mono (fun _ _ q => q.keep hg)⟩
theorem RowC.s {v : Value} {vs : List Value} (h : RowC u col v vs rs) : OutS 0 0 u v rs := ⟨vs, h.row, h.each.mono (fun _ _ q => .inr q)⟩
/-- Behind the program's Open. -/
def Y1 (w : World) (b0 b1 sb : Nat) (x y : Nat → Option Nat) (A D : Ab) (zs : Nat → Nat) (os : Nat → Bool) (bk lt T : Nat) (ps : List Bq.Item) (k lb : Nat) (v : Value) (vs : List Value) (rs : List (List UInt8)) (u : World) : Prop :=
 ∃ col, Ws w u col b0 b1 sb x y A D zs os bk lt T (ps ++ (vs.zip rs).take 200) ps.length ∧ Lg u lb b0 (nm k) (flen rs) false ∧ Co w u col (5 + k) lb ∧ u.ownsRow w.heap.size 74 1 v rs.length vs ∧ (∀ b, v.ownBlock = some b → Co w u col 0 b) ∧ Each (fun v l => Out w.heap.size u v l ∧ ∀ b, v.ownBlock = some b → Co w u col 4 b) vs rs
/-- Behind the reference's. -/
def Y2 (w : World) (b0 b1 sb : Nat) (x y : Nat → Option Nat) (A D : Ab) (zs : Nat → Nat) (os : Nat → Bool) (bk lt T : Nat) (ps : List Bq.Item) (n k lb rb : Nat) (v : Value) (vs : List Value) (v' : Value) (vs' : List Value) (rs : List (List UInt8)) (u : World) : Prop :=
 ∃ col, Ws w u col b0 b1 sb x y A D zs os bk lt T ps n ∧ (Lg u lb b0 (nm k) (flen rs) false ∧ Co w u col (5 + k) lb) ∧ (Rg u rb b1 (nm k) (flen rs) false ∧ Co w u col (7 + k) rb) ∧ RowC u col v vs rs ∧ RowC u col v' vs' rs
theorem Wx.pyes (h : Wx w b0 b1 sb x y A D zs os bk lt T ps u) (hT : Tab w) (hp : Prt (A.fndB (nm k)) rs t) (hw : A.wr ≤ 4611686018427387904) (hlen : ∀ r ∈ rs, r.length ≤ 8388608) (hE : opE A (nm k) rs t = 0) :
  Calls Tryz.prog 15 #[.pointer (some ⟨b0, 0, none⟩), .string (nm k)] u fun e u' => ∃ lb v vs, e = .returned (.tuple #[.pointer (some ⟨lb, 0, none⟩), v, .int .i64 0]) ∧ Y1 w b0 b1 sb x y (opA A (nm k) rs t) D zs os bk lt T ps k lb v vs rs u' := by
 obtain ⟨col, h⟩ := h
 refine (h.po hT hp hw hlen).mono fun e u' ⟨col', q1, q2, q3⟩ => ?_
 rcases q3 with ⟨q4, _⟩ | ⟨_, lb, v, vs, q4, q5, q6, q7, q8, q9, q10⟩
 ·exact absurd hE q4
 ·exact ⟨lb, v, vs, q4, col', ⟨q2, h.r.stp q1 (by decide), h.g.stp q1 (by decide), fun j hj => (h.l j hj).stp q1 (by omega) (by omega), q10⟩, q8, q9, q5, q6, q7⟩
theorem Y1.keep {lb : Nat} {v : Value} {vs : List Value} (h : Y1 w b0 b1 sb x y A D zs os bk lt T ps k lb v vs rs u) (hg : u.grownBy u' none) : Y1 w b0 b1 sb x y A D zs os bk lt T ps k lb v vs rs u' := by
 obtain ⟨col, h1, h2, h3, h4, h5, h6⟩ := h
 have s : Stp w (fun i => i = 0) u col u' (dye u col 0) := Stp.new hg 0
 exact ⟨_, h1.keep hg, Blk.keep h2 hg, h3.stp s, World.ownsRow.kept h4 hg (by cases v.ownBlock <;> simp), fun b hb => (h5 b hb).stp s, h6.mono (fun _ _ q => ⟨q.1.keep hg, fun b hb => (q.2 b hb).stp s⟩)⟩
theorem Y1.cell {lb : Nat} {v : Value} {vs : List Value} (h : Y1 w b0 b1 sb x y A D zs os bk lt T ps k lb v vs rs u) (i : Nat) : u.cell? ⟨sb, i, none⟩ = (sgc b0 b1 x y bk lt)[i]? := by
 obtain ⟨col, h1, _⟩ := h
 exact h1.g.cell i
theorem Y2.keep {lb rb : Nat} {v v' : Value} {vs vs' : List Value} (h : Y2 w b0 b1 sb x y A D zs os bk lt T ps n k lb rb v vs v' vs' rs u) (hg : u.grownBy u' none) : Y2 w b0 b1 sb x y A D zs os bk lt T ps n k lb rb v vs v' vs' rs u' := by
 obtain ⟨col, h1, h2, h3, h4, h5⟩ := h
 have s : Stp w (fun i => i = 0) u col u' (dye u col 0) := Stp.new hg 0
 exact ⟨_, h1.keep hg, ⟨Blk.keep h2.1 hg, h2.2.stp s⟩, ⟨Blk.keep h3.1 hg, h3.2.stp s⟩, h4.keep hg 0, h5.keep hg 0⟩
theorem Y2.cell {lb rb : Nat} {v v' : Value} {vs vs' : List Value} (h : Y2 w b0 b1 sb x y A D zs os bk lt T ps n k lb rb v vs v' vs' rs u) (i : Nat) : u.cell? ⟨sb, i, none⟩ = (sgc b0 b1 x y bk lt)[i]? := by
 obtain ⟨col, h1, _⟩ := h
 exact h1.g.cell i
theorem row_own {B : Nat} {v : Value} {vs : List Value} (h : u.ownsRow B 74 1 v rs.length vs) : u.ownsRow 0 74 1 v rs.length vs := owns_base h (Nat.zero_le _)
theorem Y1.ryes {lb : Nat} {v : Value} {vs : List Value} (h : Y1 w b0 b1 sb x y A' A.sr zs os bk lt T ps k lb v vs rs u) (hn : NdC A.C) (hok : (A.fndB (nm k)).length ≤ 268435456) (hp : Prt (A.fndB (nm k)) rs t) (hw : A.wr ≤ 4611686018427387904) (hE : opE A (nm k) rs t = 0) :
  Calls Tryz.prog 21 #[.pointer (some ⟨b1, 0, none⟩), .string (nm k)] u fun e u' => ∃ rb v' vs', e = .returned (.tuple #[.pointer (some ⟨rb, 0, none⟩), v', .int .i64 0]) ∧ Y2 w b0 b1 sb x y A' (opA A (nm k) rs t).sr zs os bk lt T (ps ++ (vs.zip rs).take 200) ps.length k lb rb v vs v' vs' rs u' := by
 obtain ⟨col, h, h2, h3, h4, h5, h6⟩ := h
 refine (ro_co h.r hn hok hp hw).mono fun e u' ⟨col', q1, q2, q3⟩ => ?_
 rcases q3 with ⟨q4, _⟩ | ⟨_, rb, v', q4, q5, q6, q7, q8⟩
 ·exact absurd hE q4
 ·obtain ⟨vs', r1, r2⟩ := q5.ex
  refine ⟨rb, v', vs', q4, col', ⟨h.d.stp q1 (by decide), q2, h.g.stp q1 (by decide), fun j hj => (h.l j hj).stp q1 (by omega) (by omega), st_stp h.b q1 (by decide)⟩, ⟨blk_at h2 (h3.at q1 (by omega)), h3.stp q1⟩, ⟨q7, q8⟩, ⟨row_at (row_own h4) (fun b hb => (h5 b hb).at q1 (by decide)), fun b hb => ?_, h6.mono (fun _ _ q => row_at (owns_base q.1 (Nat.zero_le _)) (fun b hb => (q.2 b hb).at q1 (by decide)))⟩, ⟨row_own r1, fun b hb => q6 b (own_low r1 b hb), r2.mono (fun v l q => owns_base q (Nat.zero_le _))⟩⟩
  have := ((h5 b hb).stp q1).1; omega
/-- The next answer is added. -/
theorem Y2.add {lb rb : Nat} {v v' : Value} {vs vs' : List Value} (h : Y2 w b0 b1 sb x y A D zs os bk lt T ps n k lb rb v vs v' vs' rs u) {p : Bq.Item} (hp : ps[n]? = some p) {z : Value} (hz : Out 0 u z p.2) (hn : n ≤ 1000) :
  Calls Tryz.prog 23 #[.pointer (some ⟨lt, 0, none⟩), p.1, z] u fun e u' => e = .returned (.tuple #[]) ∧ Y2 w b0 b1 sb x y A D zs os bk lt T ps (n + 1) k lb rb v vs v' vs' rs u' := by
 obtain ⟨col, h, h2, h3, h4, h5⟩ := h
 have hz5 : Bq.Rd5 u z p.2 := Bq.own_rd5 (out_own (Q := fun _ => True) hz (fun _ _ _ => trivial))
 refine (h.b.add hp hz5 (by omega)).mono fun e u' ⟨q1, q2, q3, q4⟩ => ?_
 obtain ⟨r1, r2⟩ := st_own h.d.gr q2 q3
 have hrow : ∀ {v : Value} {vs : List Value}, RowC u col v vs rs → RowC u' (dye u col 4) v vs rs := fun {v vs} hc =>
  ⟨row_at hc.row (fun b hb => r2.block b (own_lt hc.row b hb) (.inr (hc.far b hb))), fun b hb => by rw [dye_old (own_lt hc.row b hb)]; exact hc.far b hb, hc.each.mono (fun _ _ q => out_same q q4)⟩
 exact ⟨q1, _, ⟨h.d.stp r2 (by decide), h.r.stp r2 (by decide), h.g.stp r2 (by decide), fun k hk => (h.l k hk).stp r2 (by omega) (by omega), r1⟩, ⟨blk_at h2.1 (h2.2.at r2 (by omega)), h2.2.stp r2⟩, ⟨blk_at h3.1 (h3.2.at r2 (by omega)), h3.2.stp r2⟩, hrow h4, hrow h5⟩
/-- The rows are the same. -/
theorem Y2.rows {lb rb : Nat} {v v' : Value} {vs vs' : List Value} (h : Y2 w b0 b1 sb x y A D zs os bk lt T ps n k lb rb v vs v' vs' rs u) (hl : rs.length ≤ 1000000) :
  Calls Tryz.prog 22 #[v, v'] u fun e u' => e = .returned (.bool true) ∧ Y2 w b0 b1 sb x y A D zs os bk lt T ps n k lb rb v vs v' vs' rs u' := by
 obtain ⟨col, h1, h2, h3, h4, h5⟩ := h
 obtain ⟨a, g, c, e1, r1⟩ := h4.s.row
 obtain ⟨a', g', c', e1', r1'⟩ := h5.s.row
 subst e1
 subst e1'
 exact (rows_same u _ _ a a' g 0 c g' 0 c' rs r1 r1' hl).mono fun e u' ⟨q1, q2⟩ => ⟨q1, Y2.keep ⟨col, h1, h2, h3, h4, h5⟩ q2⟩
/-- The stage takes them. -/
theorem Y2.sto {lb rb : Nat} {v v' : Value} {vs vs' : List Value} (h : Y2 w b0 b1 sb x y A D zs os bk lt T ps ps.length k lb rb v vs v' vs' rs u) (hk : k < 2) :
  Wx w b0 b1 sb (up x k (some lb)) (up y k (some rb)) A D (up zs k (flen rs)) (up os k false) bk lt T ps ((u.setCell ⟨sb, 2 + k, none⟩ (.pointer (some ⟨lb, 0, none⟩))).setCell ⟨sb, 4 + k, none⟩ (.pointer (some ⟨rb, 0, none⟩))) := by
 obtain ⟨col, h1, h2, h3, h4, h5⟩ := h
 exact Ws.sto (xl := some lb) (yl := some rb) h1.d h1.r h1.g (fun j hj _ => h1.l j hj) hk ⟨fun _ e => by cases e; exact h2, fun _ e => by cases e; exact h3, rfl⟩ h1.b
end Go.Proofs.YtpbiofnncdneoaaGreatDoor
