/- A disk beyond a world, and its logs; works. -/
import Derived.Test.YtpbiofnncdneoaaDoorWf
namespace Go.Proofs.YtpbiofnncdneoaaDoor
open Go Go.RowKit Go.MapKept Go.MuLone
open Go.RowKit (wrap32 wrap64)

/-- A disk that lies beyond w; what it has lies in P. -/
structure Sd (w u : World) (b : Nat) (A : Ab) (P : Nat → Prop) : Prop where
  dk : DkP u w.heap.size b A P
  lt : ∀ k, P k → k < u.heap.size
  ge : ∀ k, P k → w.heap.size ≤ k
  gr : w.grownBy u none
/-- A log beyond w, apart from P. -/
structure LgP (w u : World) (lb b : Nat) (s : ByteArray) (z : Nat) (off : Bool) (P : Nat → Prop) : Prop where
  lg : Lg u lb b s z off
  ap : ¬ P lb
  ge : w.heap.size ≤ lb
variable {w u u' : World} {b lb : Nat} {A A' : Ab} {P P' : Nat → Prop} {s : ByteArray} {z : Nat} {off : Bool}
theorem Sd.keep (h : Sd w u b A P) (hg : u.grownBy u' none) : Sd w u' b A P := ⟨h.dk.keep hg, fun k hk => Nat.lt_of_lt_of_le (h.lt k hk) hg.size, h.ge, gtrans h.gr hg⟩
theorem LgP.keep (h : LgP w u lb b s z off P) (hg : u.grownBy u' none) : LgP w u' lb b s z off P := ⟨Blk.keep h.lg hg, h.ap, h.ge⟩
theorem LgP.lt (h : LgP w u lb b s z off P) : lb < u.heap.size := Blk.lt h.lg
theorem LgP.df {Q : Nat → Prop} (h : LgP w u lb b s z off P) (hd : DF u u' Q) (hq : ¬ Q lb) (hp : ∀ k, P' k → P k ∨ u.heap.size ≤ k) : LgP w u' lb b s z off P' :=
  ⟨Blk.df h.lg hd hq, fun hk => (hp _ hk).elim h.ap (fun q => by have := h.lt; omega), h.ge⟩
theorem Sd.step {Q : Nat → Prop} (h : Sd w u b A P) (hd : DkP u' w.heap.size b A' P') (hl : ∀ k, P' k → k < u'.heap.size) (hp : ∀ k, P' k → P k ∨ u.heap.size ≤ k) (hf : DF u u' Q) (hq : ∀ k, Q k → w.heap.size ≤ k) : Sd w u' b A' P' :=
  ⟨hd, hl, fun k hk => (hp k hk).elim (h.ge k) (fun q => Nat.le_trans h.gr.size q), ((DF.of h.gr (P := fun k => w.heap.size ≤ k)).trans hf (fun _ _ q => hq _ q)).grown (fun _ q => q)⟩
theorem Sd.tab (h : Sd w u b A P) (hT : Tab w) : Tab u := hT.keep h.gr
theorem sd_new (w : World) (R : Nat) (h1 : 1 ≤ R) (h2 : R ≤ 268435456) : Calls Tryd.prog 8 #[.int .i64 (R : Nat)] w fun e w' => ∃ b P, e = .returned (.tuple #[.pointer (some ⟨b, 0, none⟩), .int .i64 0]) ∧ Sd w w' b (Ab.new R) P :=
  (new_ok w R (by omega) (by omega)).mono fun _ _ ⟨b, q1, q2, q3⟩ => ⟨b, _, q1, q2, fun _ hk => hk.2, fun _ hk => hk.1, q3⟩
theorem sd_arm (h : Sd w u b A P) (n k : Int) (hn : n ≤ 9223372036854775807) : Calls Tryd.prog 13 #[.pointer (some ⟨b, 0, none⟩), .int .i64 n, .int .i64 k] u fun e u' => e = .returned (.tuple #[]) ∧ Sd w u' b (A.arm n k) P ∧ DF u u' P :=
  (arm_p h.dk n k hn).mono fun _ _ ⟨q1, q2, q3⟩ => ⟨q1, h.step q2 (fun k hk => Nat.lt_of_lt_of_le (h.lt k hk) q3.size) (fun _ hk => .inl hk) q3 h.ge, q3⟩
theorem sd_on (h : Sd w u b A P) : Calls Tryd.prog 17 #[.pointer (some ⟨b, 0, none⟩)] u fun e u' => e = .returned (.tuple #[]) ∧ Sd w u' b A.on P ∧ DF u u' P :=
  (on_p h.dk).mono fun _ _ ⟨q1, q2, q3⟩ => ⟨q1, h.step q2 (fun k hk => Nat.lt_of_lt_of_le (h.lt k hk) q3.size) (fun _ hk => .inl hk) q3 h.ge, q3⟩
theorem LgP.same (h : LgP w u lb b s z off P) (hd : DF u u' P) : LgP w u' lb b s z off P := h.df hd h.ap (fun _ hk => .inl hk)
theorem sd_whole {rs : List (List UInt8)} (h : Sd w u b A P) (hT : Tab w) (hs : s.size ≤ 64) (hF : Fil A s rs []) :
    Calls Tryd.prog 11 #[.pointer (some ⟨b, 0, none⟩), .string s] u fun e u' => ∃ lb v, e = .returned (.tuple #[.pointer (some ⟨lb, 0, none⟩), v, .int .i64 0]) ∧ OutS u.heap.size 0 u' v rs ∧ Sd w u' b A P ∧ LgP w u' lb b s (flen rs) false P ∧ u.grownBy u' none :=
  (open_whole h.dk (h.tab hT) hs hF).mono fun _ _ ⟨lb, v, q1, q2, q3, q4, q5⟩ => ⟨lb, v, q1, q2, h.keep q5, ⟨q3, fun hk => by have := h.lt _ hk; omega, Nat.le_trans h.gr.size q4⟩, q5⟩
theorem sd_torn {rs : List (List UInt8)} {t : List UInt8} (h : Sd w u b A P) (hT : Tab w) (hs : s.size ≤ 64) (hF : Fil A s rs t) (htn : t ≠ []) (ht3 : unfrE t = 30) (hw : A.wr ≤ 4611686018427387904) (hc : A.cutE s (flen rs : Nat) = 0) :
    Calls Tryd.prog 11 #[.pointer (some ⟨b, 0, none⟩), .string s] u fun e u' => ∃ lb v P', e = .returned (.tuple #[.pointer (some ⟨lb, 0, none⟩), v, .int .i64 0]) ∧ OutS u.heap.size 0 u' v rs ∧ Sd w u' b (A.cut s (flen rs : Nat)) P' ∧ LgP w u' lb b s (flen rs) false P' ∧ DF u u' P ∧ (∀ k, P' k → P k ∨ u.heap.size ≤ k) :=
  (open_torn h.dk h.lt (h.tab hT) hs hF htn ht3 hw).mono fun _ _ ⟨q1, P', q2, q3, q4, q5⟩ => by
    rcases q5 with ⟨q6, _⟩ | ⟨_, lb, v, q7, q8, q9, q10, q11⟩
    · exact absurd hc q6
    · exact ⟨lb, v, P', q7, q8, h.step q2 q3 q4 q1 h.ge, ⟨q9, q11, Nat.le_trans h.gr.size q10⟩, q1, q4⟩
theorem sd_fell {rs : List (List UInt8)} {t : List UInt8} (h : Sd w u b A P) (hT : Tab w) (hs : s.size ≤ 64) (hF : Fil A s rs t) (htn : t ≠ []) (ht3 : unfrE t = 30) (hw : A.wr ≤ 4611686018427387904) (hc : A.cutE s (flen rs : Nat) ≠ 0) :
    Calls Tryd.prog 11 #[.pointer (some ⟨b, 0, none⟩), .string s] u fun e u' => ∃ P', e = .returned (.tuple #[.pointer none, .slice none 0 0, .int .i64 (A.cutE s (flen rs : Nat))]) ∧ Sd w u' b (A.cut s (flen rs : Nat)) P' ∧ DF u u' P ∧ (∀ k, P' k → P k ∨ u.heap.size ≤ k) :=
  (open_torn h.dk h.lt (h.tab hT) hs hF htn ht3 hw).mono fun _ _ ⟨q1, P', q2, q3, q4, q5⟩ => by
    rcases q5 with ⟨_, q6⟩ | ⟨q6, _⟩
    · exact ⟨P', q6, h.step q2 q3 q4 q1 h.ge, q1, q4⟩
    · exact absurd q6 hc
theorem sd_app (h : Sd w u b A P) (hl : LgP w u lb b s z false P) (hT : Tab w) (hw : A.wr ≤ 4611686018427387904) (hz : z ≤ 1099511627776) (F : Nat → Prop) (v : Value) (l : List UInt8) (hr : Rd u F v l) (hln : l.length ≤ 16777216) :
    Calls Tryd.prog 15 #[.pointer (some ⟨lb, 0, none⟩), v] u fun e u' => ∃ P', e = .returned (.int .i64 (A.appE s (frameL l))) ∧ Sd w u' b (A.app s (frameL l)) P' ∧ LgP w u' lb b s (lgZ A s z l) (decide (A.appE s (frameL l) ≠ 0)) P' ∧ DF u u' (fun k => P k ∨ k = lb) ∧ (∀ k, P' k → P k ∨ u.heap.size ≤ k) :=
  (lapp_any hl.lg h.dk h.lt hl.ap hw hz (h.tab hT) F v l hr hln).mono fun _ _ ⟨q1, q2, P', q3, q4, q5, q6⟩ => ⟨P', q1, h.step q3 q4 q5 q6 (fun k hk => hk.elim (h.ge k) (fun e => e ▸ hl.ge)), ⟨q2, fun hk => (q5 _ hk).elim hl.ap (fun q => by have := hl.lt; omega), hl.ge⟩, q6, q5⟩
theorem good_x : goodN ⟨#[120]⟩ = true := by decide +kernel
theorem ne_xy : (⟨#[120]⟩ : ByteArray) ≠ ⟨#[121]⟩ := by decide
theorem tl_short {l : List UInt8} {k : Nat} (hl : l.length ≤ 16777216) (hk : k < l.length + 13) : ((frameL l).take k ≠ [] → unfrE ((frameL l).take k) ≠ 0) ∧ unfrE ((frameL l).take k) = 30 := by
  have := unfr_short l hl k hk
  exact ⟨fun _ => by rw [this]; decide, this⟩
theorem tl_nil : ([] : List UInt8) ≠ [] → unfrE [] ≠ 0 := fun h => absurd rfl h
/-- The states that works goes through. -/
def W0 : Ab := Ab.new (1000 : Nat)
def W1 : Ab := W0.app ⟨#[120]⟩ (frameL [97])
def W2 : Ab := W1.arm 1 5
def W3 : Ab := W2.app ⟨#[120]⟩ (frameL [98])
def W4 : Ab := W3.on
theorem len_a : (frameL [97]).length = 14 := by rw [frameL_length]; rfl
theorem len_b : (frameL [98]).length = 14 := by rw [frameL_length]; rfl
theorem ww1 : W0.appE ⟨#[120]⟩ (frameL [97]) = 0 ∧ W1 = ⟨(1000 : Nat), false, 1, 0, 0, setC [] ⟨#[120]⟩ ([] ++ frameL [97])⟩ ∧ Live W1 1000 14 ⟨#[120]⟩ ⟨#[121]⟩ := by
  have := (Live.new 1000 ne_xy).app (s := ⟨#[120]⟩) (l := frameL [97]) rfl (.inl rfl) good_x (by rw [len_a]; omega) (by decide) (by rw [len_a]; omega)
  rw [len_a] at this
  exact this
theorem ww2 : Live W2 1000 14 ⟨#[120]⟩ ⟨#[121]⟩ ∧ W2.off = false ∧ W2.ar = 1 ∧ W2.kp = 5 ∧ W2.wr = 1 ∧ W2.old ⟨#[120]⟩ = frameL [97] := by
  have h := ww1
  refine ⟨h.2.2.arm 1 5, ?_, rfl, rfl, ?_, ?_⟩
  · show W1.off = false; rw [h.2.1]
  · show W1.wr = 1; rw [h.2.1]
  · show W1.old _ = _; rw [h.2.1, old_set]; rfl
theorem ww3 : W2.appE ⟨#[120]⟩ (frameL [98]) = 94 ∧ Live W3 1000 28 ⟨#[120]⟩ ⟨#[121]⟩ ∧ W3.ar = 0 ∧ W3.wr = 2 ∧ W3.old ⟨#[120]⟩ = frameL [97] ++ (frameL [98]).take 5 := by
  obtain ⟨h1, h2, h3, h4, h5, h6⟩ := ww2
  obtain ⟨q1, q2, q3, q4, q5, q6, q7⟩ := h1.torn (s := ⟨#[120]⟩) (l := frameL [98]) h2 (.inl rfl) good_x (by rw [len_b]; omega) h3
  rw [len_b] at q2 q6
  refine ⟨q1, q2, q4, ?_, ?_⟩
  · show (W2.app _ _).wr = 2; rw [q5, h5]; rfl
  · show (W2.app _ _).old _ = _; rw [q6, h6, h4]; rfl
theorem flen_a : flen [[97]] = 14 := by unfold flen; rw [flat_one]; exact len_a
theorem ww4 : Fil W4 ⟨#[120]⟩ [[97]] ((frameL [98]).take 5) ∧ (frameL [98]).take 5 ≠ [] ∧ unfrE ((frameL [98]).take 5) = 30 ∧ W4.wr = 2 ∧ W4.cutE ⟨#[120]⟩ (flen [[97]] : Nat) = 0 := by
  obtain ⟨h1, h2, h3, h4, h5⟩ := ww3
  have ho : W4.old ⟨#[120]⟩ = flat [[97]] ++ (frameL [98]).take 5 := by rw [flat_one]; exact h5
  have hs := tl_short (l := [98]) (k := 5) (by decide) (by decide)
  have hF : Fil W4 ⟨#[120]⟩ [[97]] ((frameL [98]).take 5) := fil_on rfl good_x ho (fun r hr => by rw [List.mem_singleton.1 hr]; decide) (by decide) hs.1
  have hn : (frameL [98]).take 5 ≠ [] := fun e => by
    have := congrArg List.length e
    rw [List.length_take, len_b] at this
    cases this
  have hc := fil_cut hF hn
  exact ⟨hF, hn, hs.2, h4, (h2.on.cut (s := ⟨#[120]⟩) rfl (.inl rfl) hc.1 hc.2.2 (by show W3.ar ≠ 1; rw [h3]; decide)).1⟩
set_option maxRecDepth 100000 in
set_option maxHeartbeats 4000000 in
theorem works_any (w : World) (hT : Tab w) : Calls Tryd.prog 10 #[] w fun e w' => e = .returned (.bool true) ∧ w.grownBy w' none := by
  have HNw : Hid (Calls Tryd.prog 8 #[.int .i64 1000] w fun e w' => ∃ b P, e = .returned (.tuple #[.pointer (some ⟨b, 0, none⟩), .int .i64 0]) ∧ Sd w w' b W0 P) := hid (sd_new w 1000 (by omega) (by omega))
  have HOp : Hid (∀ u b P, Sd w u b W0 P → Calls Tryd.prog 11 #[.pointer (some ⟨b, 0, none⟩), .string ⟨#[120]⟩] u fun e u' => ∃ lb a c, e = .returned (.tuple #[.pointer (some ⟨lb, 0, none⟩), .slice a 0 c, .int .i64 0]) ∧ Sd w u' b W0 P ∧ LgP w u' lb b ⟨#[120]⟩ 0 false P) := hid (fun u b P h => by
    refine (sd_whole (rs := []) h hT (by decide) (fil_on rfl good_x rfl (fun r hr => by cases hr) (by decide) tl_nil)).mono fun e u' ⟨lb, v, q1, q2, q3, q4, q5⟩ => ?_
    obtain ⟨a, c, rfl⟩ := q2.len
    exact ⟨lb, a, c, q1, q3, q4⟩)
  have HA1 : Hid (∀ u b lb P, Sd w u b W0 P → LgP w u lb b ⟨#[120]⟩ 0 false P → Calls Tryd.prog 15 #[.pointer (some ⟨lb, 0, none⟩), .slice (some ⟨u.heap.size, 0, none⟩) 1 1] (u.alloc (.cells #[.int .u8 97] 5 (1, 2))) fun e u' => ∃ P', e = .returned (.int .i64 0) ∧ Sd w u' b W1 P' ∧ LgP w u' lb b ⟨#[120]⟩ 14 false P') := hid (fun u b lb P h hl => by
    have q := sd_app (h.keep (galloc _ _ _)) (hl.keep (galloc _ _ _)) hT (by decide) (by decide) _ _ [97] (lit_rd u [97] (1, 2) #[.int .u8 97] rfl 1 rfl) (by decide)
    unfold lgZ at q
    rw [ww1.1] at q
    exact q.mono fun e u' ⟨P', q1, q2, q3, _⟩ => ⟨P', q1, q2, q3⟩)
  have HA2 : Hid (∀ u b lb P, Sd w u b W1 P → LgP w u lb b ⟨#[120]⟩ 14 false P → Calls Tryd.prog 13 #[.pointer (some ⟨b, 0, none⟩), .int .i64 1, .int .i64 5] u fun e u' => e = .returned (.tuple #[]) ∧ Sd w u' b W2 P ∧ LgP w u' lb b ⟨#[120]⟩ 14 false P) := hid (fun u b lb P h hl => (sd_arm h 1 5 (by omega)).mono fun e u' ⟨q1, q2, q3⟩ => ⟨q1, q2, hl.same q3⟩)
  have HA3 : Hid (∀ u b lb P, Sd w u b W2 P → LgP w u lb b ⟨#[120]⟩ 14 false P → Calls Tryd.prog 15 #[.pointer (some ⟨lb, 0, none⟩), .slice (some ⟨u.heap.size, 0, none⟩) 1 1] (u.alloc (.cells #[.int .u8 98] 5 (1, 2))) fun e u' => ∃ P', e = .returned (.int .i64 94) ∧ Sd w u' b W3 P') := hid (fun u b lb P h hl => by
    have q := sd_app (h.keep (galloc _ _ _)) (hl.keep (galloc _ _ _)) hT (by rw [ww2.2.2.2.2.1]; decide) (by decide) _ _ [98] (lit_rd u [98] (1, 2) #[.int .u8 98] rfl 1 rfl) (by decide)
    rw [ww3.1] at q
    exact q.mono fun e u' ⟨P', q1, q2, _⟩ => ⟨P', q1, q2⟩)
  have HOn : Hid (∀ u b P, Sd w u b W3 P → Calls Tryd.prog 17 #[.pointer (some ⟨b, 0, none⟩)] u fun e u' => e = .returned (.tuple #[]) ∧ Sd w u' b W4 P) := hid (fun u b P h => (sd_on h).mono fun e u' ⟨q1, q2, _⟩ => ⟨q1, q2⟩)
  have HO2 : Hid (∀ u b P, Sd w u b W4 P → Calls Tryd.prog 11 #[.pointer (some ⟨b, 0, none⟩), .string ⟨#[120]⟩] u fun e u' => ∃ lb g c xa xc, e = .returned (.tuple #[.pointer (some ⟨lb, 0, none⟩), .slice (some ⟨g, 0, none⟩) 1 c, .int .i64 0]) ∧ u'.cell? ⟨g, 0, none⟩ = some (.slice xa 1 xc) ∧ (convert 36 9 (.slice xa 1 xc)).run Tryd.prog u' = .ok (.string ⟨#[97]⟩) u' ∧ Lg u' lb b ⟨#[120]⟩ 14 false ∧ w.grownBy u' none) := hid (fun u b P h => by
    refine (sd_torn h hT (by decide) ww4.1 ww4.2.1 ww4.2.2.1 (by rw [ww4.2.2.2.1]; decide) ww4.2.2.2.2).mono fun e u' ⟨lb, v, P', q1, q2, q3, q4, _⟩ => ?_
    obtain ⟨a, g, c, rfl, hr⟩ := q2.row
    obtain ⟨rfl, _, _⟩ := hr.at_ (by decide)
    obtain ⟨x, x1, x2⟩ := hr.each 0 (by decide)
    have x3 := x2.convert
    obtain ⟨xa, xb, xo, xc, rfl, _⟩ := x2
    rw [flen_a] at q4
    exact ⟨lb, g, c, xa, xc, q1, x1, x3, q4.lg, q3.gr⟩)
  have hc36 := conv33
  clear hT
  go_enter Tryd.func10, Tryd.ntmps10
  go_wp2_with (first
    | (go_at_call 19; (with_reducible refine (lsize_any HL7.out).mono ?_); rintro e w8 ⟨rfl, hw8⟩; have hw8' := hw8.symm; clear hw8; subst hw8')
    | (have := HD6; clear this; go_at_call 11; (with_reducible refine (HO2.out _ _ _ HD6.out).mono ?_); rintro e w7 ⟨lb7, g7, c7, xa, xc, rfl, hcell, hcv, hlg, hgr⟩; have HL7 := hid hlg; have HG7 := hid hgr; clear hlg hgr)
    | (have := HD5; clear this; go_at_call 17; (with_reducible refine (HOn.out _ _ _ HD5.out).mono ?_); rintro e w6 ⟨rfl, hd⟩; have HD6 := hid hd; clear hd)
    | (have := HD4; clear this; go_at_call 15; (with_reducible refine (HA3.out _ _ _ _ HD4.out HL4.out).mono ?_); rintro e w5 ⟨P5, rfl, hd⟩; have HD5 := hid hd; clear hd)
    | (have := HD3; clear this; go_at_call 13; (with_reducible refine (HA2.out _ _ _ _ HD3.out HL3.out).mono ?_); rintro e w4 ⟨rfl, hd, hl⟩; have HD4 := hid hd; have HL4 := hid hl; clear hd hl)
    | (have := HD2; clear this; go_at_call 15; (with_reducible refine (HA1.out _ _ _ _ HD2.out HL2.out).mono ?_); rintro e w3 ⟨P3, rfl, hd, hl⟩; have HD3 := hid hd; have HL3 := hid hl; clear hd hl)
    | (go_at_call 11; (with_reducible refine (HOp.out _ _ _ HD1.out).mono ?_); rintro e w2 ⟨lb, a2, c2, rfl, hd, hl⟩; have HD2 := hid hd; have HL2 := hid hl; clear hd hl)
    | (go_at_call 9; (with_reducible refine (num_any _ _).mono ?_); rintro e wn ⟨rfl, rfl⟩)
    | (go_at_call 8; (with_reducible refine HNw.out.mono ?_); rintro e w1 ⟨b, P1, rfl, hd⟩; have HD1 := hid hd; clear hd))
  go_ret
  exact ⟨rfl, HG7.out⟩
end Go.Proofs.YtpbiofnncdneoaaDoor
