/- Load of nothing, New of the reference's disk. -/
import Derived.Test.YtpbiofnncdneoaaGreatDoorRl
import Derived.Test.YtpbiofnncdneoaaGreatDoorX11
import Derived.Test.YtpbiofnncdneoaaGreatDoorX10
namespace Go.Proofs.YtpbiofnncdneoaaGreatDoor
open Go Go.RowKit Go.MapKept Go.MuLone
open Go.RowKit (wrap32 wrap64)

variable {w w' w2 : World} {B b : Nat} {A A' : Ab} {P : Nat → Prop} {sv sv' : Value} {E E' : List Fl}
theorem built113 (room : Int) : Tryz.prog.built 113 [(0, .int .i64 room)] = some (rkc ⟨room, false, 0, 0, 0, []⟩ (.slice none 0 0)).toArray := by kernel_rfl
theorem rk_new (w : World) (room : Int) (h1 : 1 ≤ room) (h2 : room ≤ 268435456) (w1 : World) (hb : Blk w1 w.heap.size (rkc ⟨room, false, 0, 0, 0, []⟩ (.slice none 0 0)) 113) : Rk w1 w.heap.size w.heap.size ⟨room, false, 0, 0, 0, []⟩ (.slice none 0 0) [] :=
 ⟨hb, OutF.nil (World.ownsRow_nil _ _ _ _), rfl, List.Pairwise.nil, Nat.le_refl _, ⟨⟨h1, h2⟩, by show (0 : Int) ≤ 0; omega, by show (0 : Int) ≤ 0 ∧ (0 : Int) ≤ 9223372036854775807; omega, by show ((0 : Nat) : Int) ≤ room; omega, by show 0 ≤ 64; omega, fun p hp => by cases hp⟩⟩
set_option maxRecDepth 100000 in
set_option maxHeartbeats 800000 in
theorem rload_nil (w : World) (room : Int) (h1 : 1 ≤ room) (h2 : room ≤ 268435456) :
  Calls Tryz.prog 14 #[.slice none 0 0, .int .i64 room] w fun e w' => ∃ b, e = .returned (.tuple #[.pointer (some ⟨b, 0, none⟩), .int .i64 0]) ∧ (∃ sv E, Rk w' w.heap.size b ⟨room, false, 0, 0, 0, []⟩ sv E) ∧ w.grownBy w' none := by
 have r1 : ¬ room < 1 := by omega
 have r2 : ¬ 268435456 < room := by omega
 have HRo : Hid (1 ≤ room ∧ room ≤ 268435456) := hid ⟨h1, h2⟩
 clear h1 h2
 go_enter Tryz.func14, Tryz.ntmps14
 go_upto_region 6 with (first
  | (with_reducible refine wpList_build_of (by with_unfolding_all rfl) 113 _ (by with_unfolding_all rfl) [(0, .int .i64 room)] (by with_unfolding_all rfl) (rkc ⟨room, false, 0, 0, 0, []⟩ (.slice none 0 0)) (built113 room) ?_)
  | ((with_reducible refine wpList_box_row (by with_unfolding_all rfl) 113 _ (by with_unfolding_all rfl) (rkc ⟨room, false, 0, 0, 0, []⟩ (.slice none 0 0)) (by with_unfolding_all rfl) ?_); intro w1 B1 s1 g1; have HB1 := hid B1; have HG1 := hid g1; clear B1 s1 g1))
 have HR0 := hid (rk_new w room HRo.out.1 HRo.out.2 w1 HB1.out)
 go_upto_region 7 with fail
 go_loopw [7] (fun iv wr => iv = .int .i64 0 ∧ Hid (wr = w1)) (fun _ _ => 0)
 case atStart => exact ⟨rfl, hid rfl⟩
 case round =>
  obtain ⟨rfl, HW⟩ := hrel
  have hw := HW.out
  subst hw
  go_wp2_with fail
  refine bodyPost_ret (results_tmp2 rfl _ _ _) rfl ?_
  exact ⟨_, rfl, ⟨_, _, HR0.out⟩, HG1.out⟩
end Go.Proofs.YtpbiofnncdneoaaGreatDoor

namespace Go.Proofs.YtpbiofnncdneoaaGreatDoor
open Go Go.RowKit Go.MapKept Go.MuLone
open Go.RowKit (wrap32 wrap64)

variable {w w' : World} {B b m : Nat} {lk room : Int} {off : Bool} {wt ar kp : Int} {F : List Fl}
end Go.Proofs.YtpbiofnncdneoaaGreatDoor

namespace Go.Proofs.YtpbiofnncdneoaaGreatDoor
open Go Go.RowKit Go.MapKept Go.MuLone
open Go.RowKit (wrap32 wrap64)

variable {w u u' w' w2 : World} {B b c : Nat} {A A' : Ab} {P P' Q Q' R : Nat → Prop} {sv sv' : Value} {E E' : List Fl}
set_option maxRecDepth 100000 in
theorem rnew_ok (w : World) (room : Int) (h1 : 1 ≤ room) (h2 : room ≤ 268435456) : Calls Tryz.prog 6 #[.int .i64 room] w fun e w' => ∃ b, e = .returned (.tuple #[.pointer (some ⟨b, 0, none⟩), .int .i64 0]) ∧ (∃ sv E, Rk w' w.heap.size b ⟨room, false, 0, 0, 0, []⟩ sv E) ∧ w.grownBy w' none := by
 have HL : Hid (Calls Tryz.prog 14 #[.slice none 0 0, .int .i64 room] w fun e w' => ∃ b, e = .returned (.tuple #[.pointer (some ⟨b, 0, none⟩), .int .i64 0]) ∧ (∃ sv E, Rk w' w.heap.size b ⟨room, false, 0, 0, 0, []⟩ sv E) ∧ w.grownBy w' none) := hid (rload_nil w room h1 h2)
 clear h1 h2
 go_enter Tryz.func6, Tryz.ntmps6
 go_wp2_with (go_at_call 14; (with_reducible refine HL.out.mono ?_); rintro e w5 ⟨b, rfl, hr, hg⟩; have HR5 := hid hr; have HG5 := hid hg; clear hr hg)
 refine bodyPost_ret (results_tmp2 rfl _ _ _) rfl ?_
 exact ⟨b, rfl, HR5.out, HG5.out⟩
theorem row_df {Bz e q n : Nat} {v : Value} {xs : List Value} (h : w.ownsRow Bz e q v n xs) (hd : DF w u P) (hp : ∀ k, v.ownBlock = some k → ¬ P k) : u.ownsRow Bz e q v n xs := by
 refine ⟨h.1, ?_⟩
 rcases h.2 with h1 | ⟨g, cap, cur, hv, hB, hg, hle, hm, hs, ht⟩
 ·exact .inl h1
 ·refine .inr ⟨g, cap, cur, hv, hB, ?_, hle, hm, hs, ht⟩
  rw [hd.block g (Array.getElem?_eq_some_iff.1 hg).1 (hp g (by rw [hv]; rfl))]
  exact hg
theorem Rk.df (h : Rk w B b A sv E) (hd : DF w u P) (hp : ∀ k, Rfp b sv E k → ¬ P k) : Rk u B b A sv E :=
 ⟨Blk.df h.blk hd (hp b (.inl rfl)), ⟨row_df h.row.row hd (fun k hk => hp k (.inr (.inl hk))), fun f hf => Out.df (h.row.own f hf) hd (fun k hk => hp k (.inr (.inr ⟨f, hf, hk⟩)))⟩, h.con, h.srt, h.low, h.ok⟩
theorem Rk.lt (h : Rk w B b A sv E) {k : Nat} (hk : Rfp b sv E k) : B ≤ k ∧ k < w.heap.size := by
 rcases hk with rfl | hk | ⟨f, hf, hk⟩
 ·exact ⟨h.low, h.blk.lt⟩
 ·refine ⟨h.row.low k hk, ?_⟩
  rcases h.row.row.2 with ⟨h1, _⟩ | ⟨g, cap, cur, h1, hB, hg, _⟩
  ·rw [h1] at hk; cases hk
  ·rw [h1] at hk
   injection hk with hk
   have hk' : g = k := hk
   rw [← hk']
   exact (Array.getElem?_eq_some_iff.1 hg).1
 ·exact ⟨(h.row.own f hf).block k hk, ((h.row.own f hf).lt k hk).2⟩
theorem Rk.base {D : Nat} (h : Rk w B b A sv E) (hb : D ≤ B) : Rk w D b A sv E := ⟨h.blk, ⟨owns_base h.row.row hb, fun f hf => (h.row.own f hf).below hb⟩, h.con, h.srt, Nat.le_trans hb h.low, h.ok⟩
/-- The reference's disk that lies beyond w; what it has lies in P. -/
structure Sr (w u : World) (b : Nat) (A : Ab) (P : Nat → Prop) : Prop where
 dk : ∃ sv E, Rk u w.heap.size b A sv E ∧ ∀ k, Rfp b sv E k → P k
 lt : ∀ k, P k → k < u.heap.size
 ge : ∀ k, P k → w.heap.size ≤ k
 gr : w.grownBy u none
theorem Sr.keep (h : Sr w u b A P) (hg : u.grownBy u' none) : Sr w u' b A P := by
 obtain ⟨sv, E, h1, h2⟩ := h.dk
 exact ⟨⟨sv, E, h1.keep hg, h2⟩, fun k hk => Nat.lt_of_lt_of_le (h.lt k hk) hg.size, h.ge, gtrans h.gr hg⟩
theorem Sr.df (h : Sr w u b A P) (hd : DF u u' R) (hr : ∀ k, P k → ¬ R k) (hq : ∀ k, R k → w.heap.size ≤ k) : Sr w u' b A P := by
 obtain ⟨sv, E, h1, h2⟩ := h.dk
 exact ⟨⟨sv, E, h1.df hd (fun k hk => hr k (h2 k hk)), h2⟩, fun k hk => Nat.lt_of_lt_of_le (h.lt k hk) hd.size, h.ge, ((DF.of h.gr (P := fun k => w.heap.size ≤ k)).trans hd (fun _ _ q => hq _ q)).grown (fun _ q => q)⟩
/-- What a call that writes leaves. -/
theorem Sr.step (h : Sr w u b A P) (hf : ∀ k, Rfp b sv E k → P k) (he : REnd u u' w.heap.size b sv E A') : Sr w u' b A' (newP P u u') ∧ DF u u' P := by
 obtain ⟨hg, sv', E', h1, h2⟩ := he
 have hd : DF u u' P := DF.one hg (hf b (.inl rfl))
 refine ⟨⟨⟨sv', E', h1, fun k hk' => ?_⟩, fun k hk' => ?_, fun k hk' => ?_, ((DF.of h.gr (P := fun k => w.heap.size ≤ k)).trans hd (fun _ _ q => h.ge _ q)).grown (fun _ q => q)⟩, hd⟩
 ·rcases h2 k hk' with q | q
  ·exact .inl (hf k q)
  ·exact .inr ⟨q, (h1.lt hk').2⟩
 ·exact hk'.elim (fun q => Nat.lt_of_lt_of_le (h.lt k q) hd.size) (fun q => q.2)
 ·exact hk'.elim (h.ge k) (fun q => Nat.le_trans h.gr.size q.1)
theorem sr_app (h : Sr w u b A P) (s : ByteArray) (F : Nat → Prop) (ba : Option Addr) (bn bc : Nat) (l : List UInt8) (hl : Rd u F (.slice ba bn bc) l) (hF : ∀ k, F k → ¬ P k) (hbl : l.length ≤ 140737488355328) (hs : s.size ≤ 140737488355328) (hw : A.wr ≤ 4611686018427387904) :
  Calls Tryz.prog 59 #[.pointer (some ⟨b, 0, none⟩), .string s, .slice ba bn bc] u fun e u' => e = .returned (.int .i64 (A.appE s l)) ∧ Sr w u' b (A.app s l).sr (newP P u u') ∧ DF u u' P := by
 obtain ⟨sv, E, h1, h2⟩ := h.dk
 exact (rapp_any h1 s F ba bn bc l hl (fun k hk e => hF k hk (h2 k (.inl e))) hbl hs hw).mono fun e u' ⟨q1, q2⟩ => ⟨q1, h.step h2 q2⟩
theorem sr_cut (h : Sr w u b A P) (s : ByteArray) (z : Int) (hs : s.size ≤ 140737488355328) (hw : A.wr ≤ 4611686018427387904) :
  Calls Tryz.prog 56 #[.pointer (some ⟨b, 0, none⟩), .string s, .int .i64 z] u fun e u' => e = .returned (.int .i64 (A.cutE s z)) ∧ Sr w u' b (A.cut s z).sr (newP P u u') ∧ DF u u' P := by
 obtain ⟨sv, E, h1, h2⟩ := h.dk
 exact (rcut_any h1 s z hs hw).mono fun e u' ⟨q1, q2⟩ => ⟨q1, h.step h2 q2⟩
theorem sr_rem (h : Sr w u b A P) (s : ByteArray) (hs : s.size ≤ 140737488355328) (hw : A.wr ≤ 4611686018427387904) :
  Calls Tryz.prog 61 #[.pointer (some ⟨b, 0, none⟩), .string s] u fun e u' => e = .returned (.int .i64 (A.remE s)) ∧ Sr w u' b (A.rem s).sr (newP P u u') ∧ DF u u' P := by
 obtain ⟨sv, E, h1, h2⟩ := h.dk
 exact (rrem_any h1 s hs hw).mono fun e u' ⟨q1, q2⟩ => ⟨q1, h.step h2 q2⟩
theorem sr_on (h : Sr w u b A P) : Calls Tryz.prog 29 #[.pointer (some ⟨b, 0, none⟩)] u fun e u' => e = .returned (.tuple #[]) ∧ Sr w u' b A.on (newP P u u') ∧ DF u u' P := by
 obtain ⟨sv, E, h1, h2⟩ := h.dk
 exact (ron_any h1).mono fun e u' ⟨q1, q2, q3⟩ => ⟨q1, h.step h2 (REnd.of q2 q3)⟩
theorem sr_arm (h : Sr w u b A P) (n k : Int) (hn : n ≤ 9223372036854775807) : Calls Tryz.prog 28 #[.pointer (some ⟨b, 0, none⟩), .int .i64 n, .int .i64 k] u fun e u' => e = .returned (.tuple #[]) ∧ Sr w u' b (A.arm n k) (newP P u u') ∧ DF u u' P := by
 obtain ⟨sv, E, h1, h2⟩ := h.dk
 exact (rarm_any h1 n k hn).mono fun e u' ⟨q1, q2, q3⟩ => ⟨q1, h.step h2 (REnd.of q2 q3)⟩
theorem sr_read (h : Sr w u b A P) (s : ByteArray) (hs : s.size ≤ 140737488355328) : Calls Tryz.prog 54 #[.pointer (some ⟨b, 0, none⟩), .string s] u fun e u' => ∃ a c, e = .returned (.tuple #[.slice a (A.fndB s).length c, .int .i64 (A.fndE s)]) ∧ Out u.heap.size u' (.slice a (A.fndB s).length c) (A.fndB s) ∧ u.grownBy u' none := by
 obtain ⟨sv, E, h1, h2⟩ := h.dk
 exact rread_any h1 s hs
theorem sr_files (h : Sr w u b A P) : Calls Tryz.prog 34 #[.pointer (some ⟨b, 0, none⟩)] u fun e u' => (∃ a g c, e = .returned (.slice a A.C.length c) ∧ ArF u' (fun k => u.heap.size ≤ k ∧ k < u'.heap.size) a g 0 A.C) ∧ u.grownBy u' none := by
 obtain ⟨sv, E, h1, h2⟩ := h.dk
 exact rfiles_any h1
theorem sr_new (w : World) (u : World) (hg : w.grownBy u none) (room : Int) (h1 : 1 ≤ room) (h2 : room ≤ 268435456) : Calls Tryz.prog 6 #[.int .i64 room] u fun e u' => ∃ b P, e = .returned (.tuple #[.pointer (some ⟨b, 0, none⟩), .int .i64 0]) ∧ Sr w u' b (Ab.new room) P ∧ u.grownBy u' none ∧ (∀ k, P k → u.heap.size ≤ k) :=
 (rnew_ok u room h1 h2).mono fun _ u' ⟨b, q1, ⟨sv, E, q2⟩, q3⟩ => ⟨b, fun k => u.heap.size ≤ k ∧ k < u'.heap.size, q1, ⟨⟨sv, E, q2.base hg.size, fun _ hk => q2.lt hk⟩, fun _ hk => hk.2, fun _ hk => Nat.le_trans hg.size hk.1, gtrans hg q3⟩, q3, fun _ hk => hk.1⟩
end Go.Proofs.YtpbiofnncdneoaaGreatDoor

namespace Go.Proofs.YtpbiofnncdneoaaGreatDoor
open Go Go.RowKit Go.MapKept Go.MuLone
open Go.RowKit (wrap32 wrap64)

variable {w u u' w' w2 : World} {B b c : Nat} {A A' : Ab} {P P' Q Q' R : Nat → Prop}
/-- A disk of the program that lies beyond w; what it has lies in P. -/
structure Sd (w u : World) (b : Nat) (A : Ab) (P : Nat → Prop) : Prop where
 dk : DkP u w.heap.size b A P
 lt : ∀ k, P k → k < u.heap.size
 ge : ∀ k, P k → w.heap.size ≤ k
 gr : w.grownBy u none
theorem Sd.keep (h : Sd w u b A P) (hg : u.grownBy u' none) : Sd w u' b A P := ⟨h.dk.keep hg, fun k hk => Nat.lt_of_lt_of_le (h.lt k hk) hg.size, h.ge, gtrans h.gr hg⟩
theorem Sd.df (h : Sd w u b A P) (hd : DF u u' R) (hr : ∀ k, P k → ¬ R k) (hq : ∀ k, R k → w.heap.size ≤ k) : Sd w u' b A P :=
 ⟨h.dk.df hd (fun k _ hk => hr k hk), fun k hk => Nat.lt_of_lt_of_le (h.lt k hk) hd.size, h.ge, ((DF.of h.gr (P := fun k => w.heap.size ≤ k)).trans hd (fun _ _ q => hq _ q)).grown (fun _ q => q)⟩
/-- The blocks of one colour. -/
def Co (w u : World) (col : Nat → Nat) (i k : Nat) : Prop := col k = i ∧ w.heap.size ≤ k ∧ k < u.heap.size
def dye (u : World) (col : Nat → Nat) (i k : Nat) : Nat := if k < u.heap.size then col k else i
theorem co_old {col : Nat → Nat} {i j k : Nat} (h : Co w u col j k) (hs : u.heap.size ≤ u'.heap.size) : Co w u' (dye u col i) j k := ⟨by unfold dye; rw [if_pos h.2.2]; exact h.1, h.2.1, Nat.lt_of_lt_of_le h.2.2 hs⟩
theorem Sd.co {col : Nat → Nat} {i j : Nat} (h : Sd w u' b A (Co w u col j)) (hs : u.heap.size ≤ u'.heap.size) : Sd w u' b A (Co w u' (dye u col i) j) := ⟨h.dk.mono (fun _ _ _ hk => co_old hk hs), fun _ hk => hk.2.2, fun _ hk => hk.2.1, h.gr⟩
theorem Sr.co {col : Nat → Nat} {i j : Nat} (h : Sr w u' b A (Co w u col j)) (hs : u.heap.size ≤ u'.heap.size) : Sr w u' b A (Co w u' (dye u col i) j) := by
 obtain ⟨sv, E, h1, h2⟩ := h.dk
 exact ⟨⟨sv, E, h1, fun k hk => co_old (h2 k hk) hs⟩, fun _ hk => hk.2.2, fun _ hk => hk.2.1, h.gr⟩
/-- The disks alone. -/
structure Dsk (w u : World) (col : Nat → Nat) (b0 b1 c0 c1 : Nat) (A0 A1 : Ab) : Prop where
 x0 : Sd w u b0 A0 (Co w u col 1)
 x1 : Sd w u b1 A1 (Co w u col 2)
 y0 : Sr w u c0 A0.sr (Co w u col 3)
 y1 : Sr w u c1 A1.sr (Co w u col 4)
variable {col : Nat → Nat} {b0 b1 c0 c1 : Nat} {A0 A1 : Ab}
/-- Something else is made, or written that has another colour. -/
theorem Dsk.df (h : Dsk w u col b0 b1 c0 c1 A0 A1) {i : Nat} (hi : i = 0 ∨ 4 < i) (hd : DF u u' (Co w u col i)) : Dsk w u' (dye u col i) b0 b1 c0 c1 A0 A1 := by
 have hn : ∀ j, 1 ≤ j → j ≤ 4 → ∀ k, Co w u col j k → ¬ Co w u col i k := fun j h1 h2 k hk hq => by
  have e := hk.1.symm.trans hq.1
  omega
 have hq : ∀ k, Co w u col i k → w.heap.size ≤ k := fun k hk => hk.2.1
 exact ⟨(h.x0.df hd (hn 1 (by decide) (by decide)) hq).co hd.size, (h.x1.df hd (hn 2 (by decide) (by decide)) hq).co hd.size, (h.y0.df hd (hn 3 (by decide) (by decide)) hq).co hd.size, (h.y1.df hd (hn 4 (by decide) (by decide)) hq).co hd.size⟩
theorem Dsk.keep (h : Dsk w u col b0 b1 c0 c1 A0 A1) (hg : u.grownBy u' none) : Dsk w u' (dye u col 0) b0 b1 c0 c1 A0 A1 := h.df (.inl rfl) (DF.of hg)
theorem srt_set {C : Cn} (h : NdC C) (s : ByteArray) (l : List UInt8) : srtC (setC (srtC C) s l) = srtC (setC C s l) := by
 have q1 := lay_srt (srt_nd h) s l
 rw [srt_self (srt_srtS h)] at q1
 rw [← q1, lay_srt h s l]
theorem srt_del {C : Cn} (h : NdC C) (s : ByteArray) : srtC (delC (srtC C) s) = srtC (delC C s) := by
 rw [drop_srt h s]
 exact srt_self (srt_srtS (del_nd h s))
theorem used_sr (h : NdC A.C) (s : ByteArray) : A.sr.fndE s = A.fndE s ∧ A.sr.fndB s = A.fndB s ∧ A.sr.old s = A.old s ∧ (∀ n, A.sr.fits s n = A.fits s n) := by
 have hg : ∀ t, getC A.sr.C t = getC A.C t := fun t => get_srt h t
 have hf : A.sr.fndE s = A.fndE s := by unfold Ab.fndE; rw [hg]; rfl
 refine ⟨hf, ?_, ?_, fun n => ?_⟩
 ·unfold Ab.fndB; rw [hf, hg]
 ·unfold Ab.old; rw [hg]
 ·unfold Ab.fits
  rw [hg]
  show (((getC A.C s).isSome || decide ((srtC A.C).length < 64)) && decide ((n : Int) ≤ A.room - (usedC (srtC A.C) : Nat))) = _
  rw [srtC_len, used_srt h]
/-- What the reference answers, and leaves, is what the program does. -/
theorem sr_appE (h : NdC A.C) (s : ByteArray) (l : List UInt8) : A.sr.appE s l = A.appE s l ∧ (A.sr.app s l).sr = (A.app s l).sr := by
 obtain ⟨h1, h2, h3, h4⟩ := used_sr h s
 refine ⟨by unfold Ab.appE; rw [h4]; rfl, ?_⟩
 unfold Ab.app
 rw [h4]
 by_cases q : refE A.off s = 0 ∧ A.fits s l.length = true
 ·rw [if_pos q, if_pos (show refE A.sr.off s = 0 ∧ A.fits s l.length = true from q), did_sr, did_sr]
  have e : srtC (A.sr.appC s l) = srtC (A.appC s l) := by
   unfold Ab.appC
   rw [h3]
   show srtC (if 0 < wK A.ar A.kp then setC (srtC A.C) s _ else srtC A.C) = _
   split
   ·exact srt_set h s _
   ·exact srt_self (srt_srtS h)
  rw [e]
  rfl
 ·rw [if_neg q, if_neg (show ¬ (refE A.sr.off s = 0 ∧ A.fits s l.length = true) from q)]
  exact sr_self (srt_srtS h)
theorem sr_cutE (h : NdC A.C) (s : ByteArray) (z : Int) : A.sr.cutE s z = A.cutE s z ∧ (A.sr.cut s z).sr = (A.cut s z).sr := by
 obtain ⟨h1, h2, h3, h4⟩ := used_sr h s
 refine ⟨by unfold Ab.cutE; rw [h1, h3]; rfl, ?_⟩
 unfold Ab.cut
 rw [h1, h3]
 by_cases q : A.fndE s = 0 ∧ 0 ≤ z ∧ z ≤ ((A.old s).length : Int)
 ·rw [if_pos q, if_pos q, did_sr, did_sr]
  have e : srtC (A.sr.cutC s z) = srtC (A.cutC s z) := by
   unfold Ab.cutC
   rw [h3]
   show srtC (if 0 < wK A.ar A.kp then setC (srtC A.C) s _ else srtC A.C) = _
   split
   ·exact srt_set h s _
   ·exact srt_self (srt_srtS h)
  rw [e]
  rfl
 ·rw [if_neg q, if_neg q]
  exact sr_self (srt_srtS h)
theorem sr_remE (h : NdC A.C) (s : ByteArray) : A.sr.remE s = A.remE s ∧ (A.sr.rem s).sr = (A.rem s).sr := by
 obtain ⟨h1, h2, h3, h4⟩ := used_sr h s
 refine ⟨by unfold Ab.remE; rw [h1]; rfl, ?_⟩
 unfold Ab.rem
 rw [h1]
 by_cases q : A.fndE s = 0
 ·rw [if_pos q, if_pos q, did_sr, did_sr]
  have e : srtC (A.sr.remC s) = srtC (A.remC s) := by
   unfold Ab.remC
   show srtC (if 0 < wK A.ar A.kp then delC (srtC A.C) s else srtC A.C) = _
   split
   ·exact srt_del h s
   ·exact srt_self (srt_srtS h)
  rw [e]
  rfl
 ·rw [if_neg q, if_neg q]
  exact sr_self (srt_srtS h)
end Go.Proofs.YtpbiofnncdneoaaGreatDoor

namespace Go.Proofs.YtpbiofnncdneoaaGreatDoor
open Go Go.RowKit Go.MapKept Go.MuLone
open Go.RowKit (wrap32 wrap64)

variable {A : Ab} {s t : ByteArray} {l : List UInt8}
theorem old_set (C : Cn) (r : Int) (o : Bool) (wr ar kp : Int) : Ab.old ⟨r, o, wr, ar, kp, setC C s l⟩ s = l := by
 unfold Ab.old
 rw [get_set, if_pos rfl]
 rfl
theorem old_other (C : Cn) (r : Int) (o : Bool) (wr ar kp : Int) (h : t ≠ s) : Ab.old ⟨r, o, wr, ar, kp, setC C s l⟩ t = (getC C t).getD [] := by
 unfold Ab.old
 rw [get_set, if_neg h]
/-- How many of two names there are. -/
def cntN (C : Cn) (m n : ByteArray) : Nat := (if (getC C m).isSome then 1 else 0) + (if (getC C n).isSome then 1 else 0)
theorem cntN_le (C : Cn) (m n : ByteArray) : cntN C m n ≤ 2 := by
 unfold cntN
 cases (getC C m).isSome <;> cases (getC C n).isSome <;> decide
theorem cntN_set {C : Cn} {m n : ByteArray} (hmn : m ≠ n) (hs : s = m ∨ s = n) (h : C.length ≤ cntN C m n) : (setC C s l).length ≤ cntN (setC C s l) m n := by
 have g1 : getC (setC C s l) s = some l := by rw [get_set, if_pos rfl]
 rw [len_set]
 unfold cntN at h ⊢
 rcases hs with rfl | rfl
 ·have g2 : getC (setC C s l) n = getC C n := by rw [get_set, if_neg (fun e => hmn e.symm)]
  rw [g1, g2]
  cases h1 : (getC C s).isSome <;> cases h2 : (getC C n).isSome <;> simp [h1, h2] at h ⊢ <;> omega
 ·have g2 : getC (setC C s l) m = getC C m := by rw [get_set, if_neg hmn]
  rw [g1, g2]
  cases h1 : (getC C s).isSome <;> cases h2 : (getC C m).isSome <;> simp [h1, h2] at h ⊢ <;> omega
/-- A disk of at most two files. -/
structure Live (A : Ab) (R U : Nat) (m n : ByteArray) : Prop where
 ne : m ≠ n
 room : A.room = R
 used : usedC A.C ≤ U
 len : A.C.length ≤ cntN A.C m n
variable {R U : Nat} {m n : ByteArray}
theorem ref_on (h : A.off = false) (hg : goodN s = true) : refE A.off s = 0 := by unfold refE; rw [h, hg]; rfl
theorem Live.fits (h : Live A R U m n) (hU : U + l.length ≤ R) : A.fits s l.length = true := by
 unfold Ab.fits
 have h1 := h.len
 have h3 := cntN_le A.C m n
 have h2 := h.used
 rw [decide_eq_true (by omega : A.C.length < 64), Bool.or_true, Bool.true_and, h.room]
 exact decide_eq_true (by omega)
theorem fnd_on (ho : A.off = false) (hg : goodN s = true) : A.fndB s = A.old s ∧ (A.fndE s = 0 ∨ A.fndE s = 92) := by
 unfold Ab.fndB Ab.fndE
 rw [ref_on ho hg, if_pos rfl]
 unfold Ab.old
 cases hq : getC A.C s with
 | none => simp
 | some x => simp
theorem fil_on (h0 : A.off = false) (hg : goodN s = true) {rs : List (List UInt8)} {t : List UInt8} (ho : A.old s = flat rs ++ t) (he : ∀ r ∈ rs, r.length ≤ 16777216) (hn : rs.length ≤ 1000000) (ht : t ≠ [] → unfrE t ≠ 0) : Fil A s rs t :=
 ⟨(fnd_on h0 hg).2, by rw [(fnd_on h0 hg).1]; exact ho, he, hn, ht⟩
theorem Live.set (h : Live A R U m n) (hs : s = m ∨ s = n) {V : Nat} (hV : U + l.length ≤ V + (A.old s).length) {o : Bool} {wr ar kp : Int} : Live ⟨A.room, o, wr, ar, kp, setC A.C s l⟩ R V m n := by
 have hu := used_set A.C s l
 refine ⟨h.ne, h.room, ?_, cntN_set h.ne hs h.len⟩
 show usedC (setC A.C s l) ≤ V
 have h3 := h.used
 unfold Ab.old at hV
 omega
/-- Append to a disk that isn't armed, or whose time has not come. -/
theorem Live.app (h : Live A R U m n) (h0 : A.off = false) (hs : s = m ∨ s = n) (hg : goodN s = true) (hU : U + l.length ≤ R) (har : A.ar ≠ 1) (hl : l.length ≤ 16777229) :
  A.appE s l = 0 ∧ A.app s l = ⟨A.room, false, A.wr + 1, max (A.ar - 1) 0, A.kp, setC A.C s (A.old s ++ l)⟩ ∧ Live (A.app s l) R (U + l.length) m n := by
 have h1 := ref_on h0 hg
 have h2 := h.fits hU (s := s)
 have e1 : A.appE s l = 0 := by unfold Ab.appE; rw [if_pos h1, if_pos h2]; unfold wE; rw [if_neg har]
 have e2 : A.appC s l = setC A.C s (A.old s ++ l) := by
  unfold Ab.appC wK
  rw [if_neg har, if_pos (by decide)]
  have : (min (9223372036854775807 : Int) (l.length : Int)).toNat = l.length := by omega
  rw [this, List.take_length]
 have e3 : A.app s l = ⟨A.room, false, A.wr + 1, max (A.ar - 1) 0, A.kp, setC A.C s (A.old s ++ l)⟩ := by
  unfold Ab.app
  rw [if_pos ⟨h1, h2⟩, e2]
  unfold Ab.did wO wA
  rw [if_neg har, if_neg har, h0]
 refine ⟨e1, e3, ?_⟩
 rw [e3]
 exact h.set hs (by rw [List.length_append]; omega)
/-- A torn Append. -/
theorem Live.torn (h : Live A R U m n) (h0 : A.off = false) (hs : s = m ∨ s = n) (hg : goodN s = true) (hU : U + l.length ≤ R) (har : A.ar = 1) :
  A.appE s l = 94 ∧ Live (A.app s l) R (U + l.length) m n ∧ (A.app s l).off = true ∧ (A.app s l).ar = 0 ∧ (A.app s l).wr = A.wr + 1 ∧ (A.app s l).old s = A.old s ++ l.take (min A.kp l.length).toNat ∧ ∀ x, x ≠ s → (A.app s l).old x = A.old x := by
 have h1 := ref_on h0 hg
 have h2 := h.fits hU (s := s)
 have e1 : A.appE s l = 94 := by unfold Ab.appE; rw [if_pos h1, if_pos h2]; unfold wE; rw [if_pos har]
 have e3 : A.app s l = ⟨A.room, true, A.wr + 1, 0, A.kp, A.appC s l⟩ := by
  unfold Ab.app
  rw [if_pos ⟨h1, h2⟩]
  unfold Ab.did wO wA
  rw [if_pos har, if_pos har]
 rw [e3]
 unfold Ab.appC wK
 rw [if_pos har]
 by_cases hk : 0 < A.kp
 ·rw [if_pos hk]
  refine ⟨e1, h.set hs (by rw [List.length_append, List.length_take]; omega), rfl, rfl, rfl, old_set .., fun x hx => ?_⟩
  rw [old_other _ _ _ _ _ _ hx]
  rfl
 ·rw [if_neg hk]
  refine ⟨e1, ⟨h.ne, h.room, Nat.le_trans h.used (by omega), h.len⟩, rfl, rfl, rfl, ?_, fun _ _ => rfl⟩
  have : (min A.kp (l.length : Int)).toNat = 0 := by omega
  rw [this, List.take_zero, List.append_nil]
  rfl
/-- Cut. -/
theorem Live.cut (h : Live A R U m n) (h0 : A.off = false) (hs : s = m ∨ s = n) {k : Nat} (hf : A.fndE s = 0) (hk : k ≤ (A.old s).length) (har : A.ar ≠ 1) :
  A.cutE s k = 0 ∧ A.cut s k = ⟨A.room, false, A.wr + 1, max (A.ar - 1) 0, A.kp, setC A.C s ((A.old s).take k)⟩ ∧ Live (A.cut s k) R U m n := by
 have hk' : 0 ≤ (k : Int) ∧ (k : Int) ≤ ((A.old s).length : Int) := by omega
 have e1 : A.cutE s k = 0 := by unfold Ab.cutE; rw [if_pos hf, if_pos hk']; unfold wE; rw [if_neg har]
 have e3 : A.cut s k = ⟨A.room, false, A.wr + 1, max (A.ar - 1) 0, A.kp, setC A.C s ((A.old s).take k)⟩ := by
  unfold Ab.cut
  rw [if_pos ⟨hf, hk'⟩]
  unfold Ab.did wO wA Ab.cutC wK
  rw [if_neg har, if_neg har, if_neg har, if_pos (by decide), h0]
  rfl
 refine ⟨e1, e3, ?_⟩
 rw [e3]
 exact h.set hs (by rw [List.length_take]; omega)
theorem Live.new (R : Nat) (h : m ≠ n) : Live (Ab.new R) R 0 m n := ⟨h, rfl, Nat.le_refl _, Nat.zero_le _⟩
theorem Live.le (h : Live A R U m n) {V : Nat} (hv : U ≤ V) : Live A R V m n := ⟨h.ne, h.room, Nat.le_trans h.used hv, h.len⟩
theorem Live.arm (h : Live A R U m n) (x y : Int) : Live (A.arm x y) R U m n := ⟨h.ne, h.room, h.used, h.len⟩
theorem Live.on (h : Live A R U m n) : Live A.on R U m n := ⟨h.ne, h.room, h.used, h.len⟩
end Go.Proofs.YtpbiofnncdneoaaGreatDoor

namespace Go.Proofs.YtpbiofnncdneoaaGreatDoor
open Go Go.RowKit Go.MapKept Go.MuLone
open Go.RowKit (wrap32 wrap64)

/-- A log beyond w, apart from P. -/
structure LgP (w u : World) (lb b : Nat) (s : ByteArray) (z : Nat) (off : Bool) (P : Nat → Prop) : Prop where
 lg : Lg u lb b s z off
 ap : ¬ P lb
 ge : w.heap.size ≤ lb
variable {w u u' : World} {b lb : Nat} {A A' : Ab} {P P' : Nat → Prop} {s : ByteArray} {z : Nat} {off : Bool}
theorem LgP.keep (h : LgP w u lb b s z off P) (hg : u.grownBy u' none) : LgP w u' lb b s z off P := ⟨Blk.keep h.lg hg, h.ap, h.ge⟩
theorem LgP.lt (h : LgP w u lb b s z off P) : lb < u.heap.size := Blk.lt h.lg
theorem LgP.df {Q : Nat → Prop} (h : LgP w u lb b s z off P) (hd : DF u u' Q) (hq : ¬ Q lb) (hp : ∀ k, P' k → P k ∨ u.heap.size ≤ k) : LgP w u' lb b s z off P' :=
 ⟨Blk.df h.lg hd hq, fun hk => (hp _ hk).elim h.ap (fun q => by have := h.lt; omega), h.ge⟩
theorem Sd.step {Q : Nat → Prop} (h : Sd w u b A P) (hd : DkP u' w.heap.size b A' P') (hl : ∀ k, P' k → k < u'.heap.size) (hp : ∀ k, P' k → P k ∨ u.heap.size ≤ k) (hf : DF u u' Q) (hq : ∀ k, Q k → w.heap.size ≤ k) : Sd w u' b A' P' :=
 ⟨hd, hl, fun k hk => (hp k hk).elim (h.ge k) (fun q => Nat.le_trans h.gr.size q), ((DF.of h.gr (P := fun k => w.heap.size ≤ k)).trans hf (fun _ _ q => hq _ q)).grown (fun _ q => q)⟩
theorem Sd.tab (h : Sd w u b A P) (hT : Tab w) : Tab u := hT.keep h.gr
theorem sd_new (w : World) (R : Nat) (h1 : 1 ≤ R) (h2 : R ≤ 268435456) : Calls Tryz.prog 5 #[.int .i64 (R : Nat)] w fun e w' => ∃ b P, e = .returned (.tuple #[.pointer (some ⟨b, 0, none⟩), .int .i64 0]) ∧ Sd w w' b (Ab.new R) P :=
 (new_ok w R (by omega) (by omega)).mono fun _ _ ⟨b, q1, q2, q3⟩ => ⟨b, _, q1, q2, fun _ hk => hk.2, fun _ hk => hk.1, q3⟩
theorem sd_arm (h : Sd w u b A P) (n k : Int) (hn : n ≤ 9223372036854775807) : Calls Tryz.prog 17 #[.pointer (some ⟨b, 0, none⟩), .int .i64 n, .int .i64 k] u fun e u' => e = .returned (.tuple #[]) ∧ Sd w u' b (A.arm n k) P ∧ DF u u' P :=
 (arm_p h.dk n k hn).mono fun _ _ ⟨q1, q2, q3⟩ => ⟨q1, h.step q2 (fun k hk => Nat.lt_of_lt_of_le (h.lt k hk) q3.size) (fun _ hk => .inl hk) q3 h.ge, q3⟩
theorem sd_on (h : Sd w u b A P) : Calls Tryz.prog 18 #[.pointer (some ⟨b, 0, none⟩)] u fun e u' => e = .returned (.tuple #[]) ∧ Sd w u' b A.on P ∧ DF u u' P :=
 (on_p h.dk).mono fun _ _ ⟨q1, q2, q3⟩ => ⟨q1, h.step q2 (fun k hk => Nat.lt_of_lt_of_le (h.lt k hk) q3.size) (fun _ hk => .inl hk) q3 h.ge, q3⟩
theorem LgP.same (h : LgP w u lb b s z off P) (hd : DF u u' P) : LgP w u' lb b s z off P := h.df hd h.ap (fun _ hk => .inl hk)
theorem sd_whole {rs : List (List UInt8)} (h : Sd w u b A P) (hT : Tab w) (hs : s.size ≤ 64) (hF : Fil A s rs []) :
  Calls Tryz.prog 15 #[.pointer (some ⟨b, 0, none⟩), .string s] u fun e u' => ∃ lb v, e = .returned (.tuple #[.pointer (some ⟨lb, 0, none⟩), v, .int .i64 0]) ∧ OutS u.heap.size 0 u' v rs ∧ Sd w u' b A P ∧ LgP w u' lb b s (flen rs) false P ∧ u.grownBy u' none :=
 (open_whole h.dk (h.tab hT) hs hF).mono fun _ _ ⟨lb, v, q1, q2, q3, q4, q5⟩ => ⟨lb, v, q1, q2, h.keep q5, ⟨q3, fun hk => by have := h.lt _ hk; omega, Nat.le_trans h.gr.size q4⟩, q5⟩
theorem sd_torn {rs : List (List UInt8)} {t : List UInt8} (h : Sd w u b A P) (hT : Tab w) (hs : s.size ≤ 64) (hF : Fil A s rs t) (htn : t ≠ []) (ht3 : unfrE t = 30) (hw : A.wr ≤ 4611686018427387904) (hc : A.cutE s (flen rs : Nat) = 0) :
  Calls Tryz.prog 15 #[.pointer (some ⟨b, 0, none⟩), .string s] u fun e u' => ∃ lb v P', e = .returned (.tuple #[.pointer (some ⟨lb, 0, none⟩), v, .int .i64 0]) ∧ OutS u.heap.size 0 u' v rs ∧ Sd w u' b (A.cut s (flen rs : Nat)) P' ∧ LgP w u' lb b s (flen rs) false P' ∧ DF u u' P ∧ (∀ k, P' k → P k ∨ u.heap.size ≤ k) :=
 (open_torn h.dk h.lt (h.tab hT) hs hF htn ht3 hw).mono fun _ _ ⟨q1, P', q2, q3, q4, q5⟩ => by
  rcases q5 with ⟨q6, _⟩ | ⟨_, lb, v, q7, q8, q9, q10, q11⟩
  ·exact absurd hc q6
  ·exact ⟨lb, v, P', q7, q8, h.step q2 q3 q4 q1 h.ge, ⟨q9, q11, Nat.le_trans h.gr.size q10⟩, q1, q4⟩
theorem sd_app (h : Sd w u b A P) (hl : LgP w u lb b s z false P) (hT : Tab w) (hw : A.wr ≤ 4611686018427387904) (hz : z ≤ 1099511627776) (F : Nat → Prop) (v : Value) (l : List UInt8) (hr : Rd u F v l) (hln : l.length ≤ 16777216) :
  Calls Tryz.prog 16 #[.pointer (some ⟨lb, 0, none⟩), v] u fun e u' => ∃ P', e = .returned (.int .i64 (A.appE s (frameL l))) ∧ Sd w u' b (A.app s (frameL l)) P' ∧ LgP w u' lb b s (lgZ A s z l) (decide (A.appE s (frameL l) ≠ 0)) P' ∧ DF u u' (fun k => P k ∨ k = lb) ∧ (∀ k, P' k → P k ∨ u.heap.size ≤ k) :=
 (lapp_any hl.lg h.dk h.lt hl.ap hw hz (h.tab hT) F v l hr hln).mono fun _ _ ⟨q1, q2, P', q3, q4, q5, q6⟩ => ⟨P', q1, h.step q3 q4 q5 q6 (fun k hk => hk.elim (h.ge k) (fun e => e ▸ hl.ge)), ⟨q2, fun hk => (q5 _ hk).elim hl.ap (fun q => by have := hl.lt; omega), hl.ge⟩, q6, q5⟩
theorem good_x : goodN ⟨#[120]⟩ = true := by decide +kernel
theorem ne_xy : (⟨#[120]⟩ : ByteArray) ≠ ⟨#[121]⟩ := by decide
theorem tl_short {l : List UInt8} {k : Nat} (hl : l.length ≤ 16777216) (hk : k < l.length + 13) : ((frameL l).take k ≠ [] → unfrE ((frameL l).take k) ≠ 0) ∧ unfrE ((frameL l).take k) = 30 := by
 have := unfr_short l hl k hk
 exact ⟨fun _ => by rw [this]; decide, this⟩
theorem tl_nil : ([] : List UInt8) ≠ [] → unfrE [] ≠ 0 := fun h => absurd rfl h
/-- The states that works goes through. -/
def W0 : Ab := Ab.new (1000 : Nat)
def W1 : Ab := W0.app ⟨#[120]⟩ (frameL [97])
def W2 : Ab := W1.arm 1 5
def W3 : Ab := W2.app ⟨#[120]⟩ (frameL [98])
def W4 : Ab := W3.on
theorem len_a : (frameL [97]).length = 14 := by rw [frameL_length]; rfl
theorem len_b : (frameL [98]).length = 14 := by rw [frameL_length]; rfl
theorem ww1 : W0.appE ⟨#[120]⟩ (frameL [97]) = 0 ∧ W1 = ⟨(1000 : Nat), false, 1, 0, 0, setC [] ⟨#[120]⟩ ([] ++ frameL [97])⟩ ∧ Live W1 1000 14 ⟨#[120]⟩ ⟨#[121]⟩ := by
 have := (Live.new 1000 ne_xy).app (s := ⟨#[120]⟩) (l := frameL [97]) rfl (.inl rfl) good_x (by rw [len_a]; omega) (by decide) (by rw [len_a]; omega)
 rw [len_a] at this
 exact this
theorem ww2 : Live W2 1000 14 ⟨#[120]⟩ ⟨#[121]⟩ ∧ W2.off = false ∧ W2.ar = 1 ∧ W2.kp = 5 ∧ W2.wr = 1 ∧ W2.old ⟨#[120]⟩ = frameL [97] := by
 have h := ww1
 refine ⟨h.2.2.arm 1 5, ?_, rfl, rfl, ?_, ?_⟩
 ·show W1.off = false; rw [h.2.1]
 ·show W1.wr = 1; rw [h.2.1]
 ·show W1.old _ = _; rw [h.2.1, old_set]; rfl
theorem ww3 : W2.appE ⟨#[120]⟩ (frameL [98]) = 94 ∧ Live W3 1000 28 ⟨#[120]⟩ ⟨#[121]⟩ ∧ W3.ar = 0 ∧ W3.wr = 2 ∧ W3.old ⟨#[120]⟩ = frameL [97] ++ (frameL [98]).take 5 := by
 obtain ⟨h1, h2, h3, h4, h5, h6⟩ := ww2
 obtain ⟨q1, q2, q3, q4, q5, q6, q7⟩ := h1.torn (s := ⟨#[120]⟩) (l := frameL [98]) h2 (.inl rfl) good_x (by rw [len_b]; omega) h3
 rw [len_b] at q2 q6
 refine ⟨q1, q2, q4, ?_, ?_⟩
 ·show (W2.app _ _).wr = 2; rw [q5, h5]; rfl
 ·show (W2.app _ _).old _ = _; rw [q6, h6, h4]; rfl
theorem flen_a : flen [[97]] = 14 := by unfold flen; rw [flat_one]; exact len_a
theorem ww4 : Fil W4 ⟨#[120]⟩ [[97]] ((frameL [98]).take 5) ∧ (frameL [98]).take 5 ≠ [] ∧ unfrE ((frameL [98]).take 5) = 30 ∧ W4.wr = 2 ∧ W4.cutE ⟨#[120]⟩ (flen [[97]] : Nat) = 0 := by
 obtain ⟨h1, h2, h3, h4, h5⟩ := ww3
 have ho : W4.old ⟨#[120]⟩ = flat [[97]] ++ (frameL [98]).take 5 := by rw [flat_one]; exact h5
 have hs := tl_short (l := [98]) (k := 5) (by decide) (by decide)
 have hF : Fil W4 ⟨#[120]⟩ [[97]] ((frameL [98]).take 5) := fil_on rfl good_x ho (fun r hr => by rw [List.mem_singleton.1 hr]; decide) (by decide) hs.1
 have hn : (frameL [98]).take 5 ≠ [] := fun e => by
  have := congrArg List.length e
  rw [List.length_take, len_b] at this
  cases this
 have hc := fil_cut hF hn
 exact ⟨hF, hn, hs.2, h4, (h2.on.cut (s := ⟨#[120]⟩) rfl (.inl rfl) hc.1 hc.2.2 (by show W3.ar ≠ 1; rw [h3]; decide)).1⟩
set_option maxRecDepth 100000 in
set_option maxHeartbeats 4000000 in
theorem works_any (w : World) (hT : Tab w) : Calls Tryz.prog 8 #[] w fun e w' => e = .returned (.bool true) ∧ w.grownBy w' none := by
 have HNw : Hid (Calls Tryz.prog 5 #[.int .i64 1000] w fun e w' => ∃ b P, e = .returned (.tuple #[.pointer (some ⟨b, 0, none⟩), .int .i64 0]) ∧ Sd w w' b W0 P) := hid (sd_new w 1000 (by omega) (by omega))
 have HOp : Hid (∀ u b P, Sd w u b W0 P → Calls Tryz.prog 15 #[.pointer (some ⟨b, 0, none⟩), .string ⟨#[120]⟩] u fun e u' => ∃ lb a c, e = .returned (.tuple #[.pointer (some ⟨lb, 0, none⟩), .slice a 0 c, .int .i64 0]) ∧ Sd w u' b W0 P ∧ LgP w u' lb b ⟨#[120]⟩ 0 false P) := hid (fun u b P h => by
  refine (sd_whole (rs := []) h hT (by decide) (fil_on rfl good_x rfl (fun r hr => by cases hr) (by decide) tl_nil)).mono fun e u' ⟨lb, v, q1, q2, q3, q4, q5⟩ => ?_
  obtain ⟨a, c, rfl⟩ := q2.len
  exact ⟨lb, a, c, q1, q3, q4⟩)
 have HA1 : Hid (∀ u b lb P, Sd w u b W0 P → LgP w u lb b ⟨#[120]⟩ 0 false P → Calls Tryz.prog 16 #[.pointer (some ⟨lb, 0, none⟩), .slice (some ⟨u.heap.size, 0, none⟩) 1 1] (u.alloc (.cells #[.int .u8 97] 5 (1, 2))) fun e u' => ∃ P', e = .returned (.int .i64 0) ∧ Sd w u' b W1 P' ∧ LgP w u' lb b ⟨#[120]⟩ 14 false P') := hid (fun u b lb P h hl => by
  have q := sd_app (h.keep (galloc _ _ _)) (hl.keep (galloc _ _ _)) hT (by decide) (by decide) _ _ [97] (lit_rd u [97] (1, 2) #[.int .u8 97] rfl 1 rfl) (by decide)
  unfold lgZ at q
  rw [ww1.1] at q
  exact q.mono fun e u' ⟨P', q1, q2, q3, _⟩ => ⟨P', q1, q2, q3⟩)
 have HA2 : Hid (∀ u b lb P, Sd w u b W1 P → LgP w u lb b ⟨#[120]⟩ 14 false P → Calls Tryz.prog 17 #[.pointer (some ⟨b, 0, none⟩), .int .i64 1, .int .i64 5] u fun e u' => e = .returned (.tuple #[]) ∧ Sd w u' b W2 P ∧ LgP w u' lb b ⟨#[120]⟩ 14 false P) := hid (fun u b lb P h hl => (sd_arm h 1 5 (by omega)).mono fun e u' ⟨q1, q2, q3⟩ => ⟨q1, q2, hl.same q3⟩)
 have HA3 : Hid (∀ u b lb P, Sd w u b W2 P → LgP w u lb b ⟨#[120]⟩ 14 false P → Calls Tryz.prog 16 #[.pointer (some ⟨lb, 0, none⟩), .slice (some ⟨u.heap.size, 0, none⟩) 1 1] (u.alloc (.cells #[.int .u8 98] 5 (1, 2))) fun e u' => ∃ P', e = .returned (.int .i64 94) ∧ Sd w u' b W3 P') := hid (fun u b lb P h hl => by
  have q := sd_app (h.keep (galloc _ _ _)) (hl.keep (galloc _ _ _)) hT (by rw [ww2.2.2.2.2.1]; decide) (by decide) _ _ [98] (lit_rd u [98] (1, 2) #[.int .u8 98] rfl 1 rfl) (by decide)
  rw [ww3.1] at q
  exact q.mono fun e u' ⟨P', q1, q2, _⟩ => ⟨P', q1, q2⟩)
 have HOn : Hid (∀ u b P, Sd w u b W3 P → Calls Tryz.prog 18 #[.pointer (some ⟨b, 0, none⟩)] u fun e u' => e = .returned (.tuple #[]) ∧ Sd w u' b W4 P) := hid (fun u b P h => (sd_on h).mono fun e u' ⟨q1, q2, _⟩ => ⟨q1, q2⟩)
 have HO2 : Hid (∀ u b P, Sd w u b W4 P → Calls Tryz.prog 15 #[.pointer (some ⟨b, 0, none⟩), .string ⟨#[120]⟩] u fun e u' => ∃ lb g c xa xc, e = .returned (.tuple #[.pointer (some ⟨lb, 0, none⟩), .slice (some ⟨g, 0, none⟩) 1 c, .int .i64 0]) ∧ u'.cell? ⟨g, 0, none⟩ = some (.slice xa 1 xc) ∧ (convert 74 9 (.slice xa 1 xc)).run Tryz.prog u' = .ok (.string ⟨#[97]⟩) u' ∧ Lg u' lb b ⟨#[120]⟩ 14 false ∧ w.grownBy u' none) := hid (fun u b P h => by
  refine (sd_torn h hT (by decide) ww4.1 ww4.2.1 ww4.2.2.1 (by rw [ww4.2.2.2.1]; decide) ww4.2.2.2.2).mono fun e u' ⟨lb, v, P', q1, q2, q3, q4, _⟩ => ?_
  obtain ⟨a, g, c, rfl, hr⟩ := q2.row
  obtain ⟨rfl, _, _⟩ := hr.at_ (by decide)
  obtain ⟨x, x1, x2⟩ := hr.each 0 (by decide)
  have x3 := x2.convert
  obtain ⟨xa, xb, xo, xc, rfl, _⟩ := x2
  rw [flen_a] at q4
  exact ⟨lb, g, c, xa, xc, q1, x1, x3, q4.lg, q3.gr⟩)
 have hc36 := conv33
 clear hT
 go_enter Tryz.func8, Tryz.ntmps8
 go_wp2_with (first
  | (go_at_call 19; (with_reducible refine (lsize_any HL7.out).mono ?_); rintro e w8 ⟨rfl, hw8⟩; have hw8' := hw8.symm; clear hw8; subst hw8')
  | (have := HD6; clear this; go_at_call 15; (with_reducible refine (HO2.out _ _ _ HD6.out).mono ?_); rintro e w7 ⟨lb7, g7, c7, xa, xc, rfl, hcell, hcv, hlg, hgr⟩; have HL7 := hid hlg; have HG7 := hid hgr; clear hlg hgr)
  | (have := HD5; clear this; go_at_call 18; (with_reducible refine (HOn.out _ _ _ HD5.out).mono ?_); rintro e w6 ⟨rfl, hd⟩; have HD6 := hid hd; clear hd)
  | (have := HD4; clear this; go_at_call 16; (with_reducible refine (HA3.out _ _ _ _ HD4.out HL4.out).mono ?_); rintro e w5 ⟨P5, rfl, hd⟩; have HD5 := hid hd; clear hd)
  | (have := HD3; clear this; go_at_call 17; (with_reducible refine (HA2.out _ _ _ _ HD3.out HL3.out).mono ?_); rintro e w4 ⟨rfl, hd, hl⟩; have HD4 := hid hd; have HL4 := hid hl; clear hd hl)
  | (have := HD2; clear this; go_at_call 16; (with_reducible refine (HA1.out _ _ _ _ HD2.out HL2.out).mono ?_); rintro e w3 ⟨P3, rfl, hd, hl⟩; have HD3 := hid hd; have HL3 := hid hl; clear hd hl)
  | (go_at_call 15; (with_reducible refine (HOp.out _ _ _ HD1.out).mono ?_); rintro e w2 ⟨lb, a2, c2, rfl, hd, hl⟩; have HD2 := hid hd; have HL2 := hid hl; clear hd hl)
  | (go_at_call 7; (with_reducible refine (num_any _ _).mono ?_); rintro e wn ⟨rfl, rfl⟩)
  | (go_at_call 5; (with_reducible refine HNw.out.mono ?_); rintro e w1 ⟨b, P1, rfl, hd⟩; have HD1 := hid hd; clear hd))
 go_ret
 exact ⟨rfl, HG7.out⟩
end Go.Proofs.YtpbiofnncdneoaaGreatDoor
