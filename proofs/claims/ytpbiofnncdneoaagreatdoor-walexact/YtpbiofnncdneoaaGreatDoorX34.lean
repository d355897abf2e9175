/- The stage's plays, whatever is done; the rounds of WalExact. -/
import Derived.Test.YtpbiofnncdneoaaGreatDoorX29
import Derived.Test.YtpbiofnncdneoaaGreatDoorX30
import Derived.Test.YtpbiofnncdneoaaGreatDoorX33
import Derived.Test.YtpbiofnncdneoaaGreatDoorX08
import Derived.Test.YtpbiofnncdneoaaGreatDoorChecked
import Derived.ProofKit
import Derived.OpenShut
import Derived.SizedLaws
import Derived.Lib.LaidTab
import Derived.Stop.LaidErr
import Derived.LaidMore
import Derived.MakeChecks
import Derived.ChangeOld
import Derived.Handed
import Derived.Lib.SmallJoins
import Derived.SevenTiedAt
import Derived.Test.YtpbiofnncdneoaaGreatDoorRows
import Derived.Deep.Matrix
import Derived.Deep.SlicePairs
import Derived.Deep.Strs
namespace Go.Proofs.YtpbiofnncdneoaaGreatDoor
open Go Go.RowKit Go.MapKept Go.MuLone
open Go.RowKit (wrap32 wrap64)

variable {w u u' : World} {A A' D : Ab} {b0 b1 sb bk lt T n k bn bc : Nat} {s : ByteArray} {x y : Nat → Option Nat} {zs : Nat → Nat} {os : Nat → Bool} {ps : List Bq.Item} {l : List UInt8} {ba : Option Addr} {on nv kv dv : Int}
theorem and_one (x : Int) : ∃ k : Nat, k < 2 ∧ bits .and .i64 x 1 = (k : Int) := by
 have h : (BitVec.ofInt 64 x &&& BitVec.ofInt 64 1).toNat < 2 := by
  rw [BitVec.toNat_and, show (BitVec.ofInt 64 1).toNat = 1 by decide, Nat.and_one_is_mod]
  omega
 refine ⟨_, h, ?_⟩
 show IntKind.i64.wrap ((BitVec.ofInt 64 x &&& BitVec.ofInt 64 1).toNat : Int) = _
 obtain ⟨r, hr⟩ : ∃ r, (BitVec.ofInt 64 x &&& BitVec.ofInt 64 1).toNat = r := ⟨_, rfl⟩
 rw [hr] at h ⊢
 rcases (show r = 0 ∨ r = 1 by omega) with rfl | rfl <;> rfl
theorem plays_any (h : Wx w b0 b1 sb x y A A.sr zs os bk lt T ps u) (hT : Tab w) (hw : A.wr ≤ 4611686018427387000) (hroom : A.room ≤ 4194304) (hps : ps.length < 8) (hTT : T + 208 ≤ 10000000) {Z : Nat} (hz : ∀ j, zs j ≤ Z) (hZ : 4194304 ≤ Z) (hZ2 : Z ≤ 1000000000) {F : Nat → Prop} (hB : Rd w F (.slice ba bn bc) l) (hl : l.length ≤ 524288) (hnv : nv ≤ 9223372036854775807) :
  Calls Tryz.prog 10 #[.pointer (some ⟨sb, 0, none⟩), .agg [Value.int .i64 dv, .int .i64 on, .slice ba bn bc, .int .i64 nv, .int .i64 kv].toArray] u fun e u' => e = .returned (.bool true) ∧ ∃ A', Opn w b0 b1 sb bk lt T 208 (Z + 600000) A' u' ∧ A'.room = A.room ∧ A'.wr ≤ A.wr + 3 := by
 obtain ⟨k, hk, hand⟩ := and_one on
 by_cases n1 : dv = 1
 ·subst n1
  rcases (show k = 0 ∨ k = 1 by omega) with rfl | rfl
  ·rcases h.log (k := 0) (by decide) with ⟨q1, q2⟩ | ⟨lb, rb, q1, q2, _⟩
   ·exact plays_ap0none h hT hw hroom hps hTT hz hZ hZ2 hB hl hand q1
   ·cases ho : os 0 with
    | false => exact plays_ap0on h hT hw hroom hps hTT hz hZ hZ2 hB hl hand q1 q2 ho
    | true => exact plays_ap0off h hT hw hroom hps hTT hz hZ hZ2 hB hl hand q1 q2 ho
  ·rcases h.log (k := 1) (by decide) with ⟨q1, q2⟩ | ⟨lb, rb, q1, q2, _⟩
   ·exact plays_ap1none h hT hw hroom hps hTT hz hZ hZ2 hB hl hand q1
   ·cases ho : os 1 with
    | false => exact plays_ap1on h hT hw hroom hps hTT hz hZ hZ2 hB hl hand q1 q2 ho
    | true => exact plays_ap1off h hT hw hroom hps hTT hz hZ hZ2 hB hl hand q1 q2 ho
 by_cases n2 : dv = 2
 ·subst n2; exact plays_arm h hT hw hroom hps hTT hz hZ hZ2 hB hl hnv hand
 by_cases n3 : dv = 3
 ·subst n3; exact plays_on h hT hw hroom hps hTT hz hZ hZ2 hB hl hand
 by_cases n4 : dv = 4
 ·subst n4; exact plays_open h hT hw hroom hps hTT hz hZ hZ2 hB hl hk hand
 by_cases n5 : dv = 5
 ·subst n5; exact plays_past5 h hT hw hroom hps hTT hz hZ hZ2 hB hl hk hand
 by_cases n6 : dv = 6
 ·subst n6; exact plays_past6 h hT hw hroom hps hTT hz hZ hZ2 hB hl hk hand
 by_cases n7 : dv = 7
 ·subst n7; exact plays_past7 h hT hw hroom hps hTT hz hZ hZ2 hB hl hk hand
 by_cases n8 : dv = 8
 ·subst n8; exact plays_past8 h hT hw hroom hps hTT hz hZ hZ2 hB hl hk hand
 exact plays_far h hT hw hroom hps hTT hz hZ hZ2 hB hl hand n1 n2 n3 n4 n5 n6 n7 n8
/-- The stage behind i steps. -/
def Wr (w : World) (b0 b1 sb bk lt : Nat) (i : Nat) (u : World) : Prop := ∃ x y A zs os T ps, Wx w b0 b1 sb x y A A.sr zs os bk lt T ps u ∧ ps.length < 8 ∧ T ≤ 208 * (i + 2) ∧ (∀ j, zs j ≤ 4194304 + 600000 * i) ∧ A.room ≤ 4194304 ∧ A.wr ≤ 3 * ((i : Nat) + 2)
theorem Wr.gr {i : Nat} (h : Wr w b0 b1 sb bk lt i u) : w.grownBy u none := by
 obtain ⟨x, y, A, zs, os, T, ps, h, _⟩ := h
 exact h.gr
set_option maxRecDepth 100000 in
theorem Wr.plays {i : Nat} (h : Wr w b0 b1 sb bk lt i u) (hi : i < 200) (hT : Tab w) {F : Nat → Prop} (hB : Rd w F (.slice ba bn bc) l) (hl : l.length ≤ 524288) (hnv : nv ≤ 9223372036854775807) :
  Calls Tryz.prog 10 #[.pointer (some ⟨sb, 0, none⟩), .agg [Value.int .i64 dv, .int .i64 on, .slice ba bn bc, .int .i64 nv, .int .i64 kv].toArray] u fun e u' => e = .returned (.bool true) ∧ Wr w b0 b1 sb bk lt (i + 1) u' := by
 obtain ⟨x, y, A, zs, os, T, ps, h, h1, h2, h3, h4, h5⟩ := h
 obtain ⟨Z, hZ⟩ : ∃ Z, 4194304 + 600000 * i = Z := ⟨_, rfl⟩
 rw [hZ] at h3
 have e1 : A.wr ≤ 4611686018427387000 := by omega
 have e2 : 4194304 ≤ Z := by omega
 have e3 : Z ≤ 1000000000 := by omega
 have e4 : T + 208 ≤ 10000000 := by omega
 have q := plays_any (dv := dv) (on := on) (kv := kv) h hT e1 h4 h1 e4 h3 e2 e3 hB hl hnv
 refine q.mono fun e u' ⟨q1, A', q2, q3, q4⟩ => ⟨q1, ?_⟩
 obtain ⟨x', y', zs', os', T', ps', r1, r2, r3, r4⟩ := q2
 have r5 : T' ≤ 208 * (i + 1 + 2) := by omega
 have r6 : Z + 600000 = 4194304 + 600000 * (i + 1) := by omega
 rw [r6] at r4
 have r7 : A'.room ≤ 4194304 := by omega
 have r8 : A'.wr ≤ 3 * (((i + 1 : Nat) : Int) + 2) := by omega
 exact ⟨x', y', A', zs', os', T', ps', r1, r2, r5, r4, r7, r8⟩
theorem Wr.same {i : Nat} (h : Wr w b0 b1 sb bk lt i u) : Calls Tryz.prog 11 #[.pointer (some ⟨sb, 0, none⟩)] u fun e u' => e = .returned (.bool true) ∧ Wr w b0 b1 sb bk lt i u' := by
 obtain ⟨x, y, A, zs, os, T, ps, h, h1⟩ := h
 exact (same_any h).mono fun e u' ⟨q1, q2⟩ => ⟨q1, x, y, A, zs, os, T, ps, q2, h1⟩
theorem Wr.keep {i : Nat} (h : Wr w b0 b1 sb bk lt i u) (hg : u.grownBy u' none) : Wr w b0 b1 sb bk lt i u' := by
 obtain ⟨x, y, A, zs, os, T, ps, h, h1⟩ := h
 exact ⟨x, y, A, zs, os, T, ps, h.keep hg, h1⟩
theorem Wr.cell {i : Nat} (h : Wr w b0 b1 sb bk lt i u) : u.cell? ⟨sb, 6, none⟩ = some (.pointer (some ⟨bk, 0, none⟩)) ∧ u.cell? ⟨sb, 7, none⟩ = some (.pointer (some ⟨lt, 0, none⟩)) := by
 obtain ⟨x, y, A, zs, os, T, ps, h, h1⟩ := h
 exact ⟨h.cell 6, h.cell 7⟩
/-- Ahead of the last look. -/
def Wq (w : World) (b0 b1 sb bk lt : Nat) (u : World) : Prop := ∃ x y A zs os T, Wx w b0 b1 sb x y A A.sr zs os bk lt T [] u
theorem Wr.settle {i : Nat} (h : Wr w b0 b1 sb bk lt i u) (hi : i ≤ 200) : Calls Tryz.prog 12 #[.pointer (some ⟨lt, 0, none⟩), .pointer (some ⟨bk, 0, none⟩), .int .i64 0] u fun e u' => e = .returned (.bool true) ∧ Wq w b0 b1 sb bk lt u' := by
 obtain ⟨x, y, A, zs, os, T, ps, ⟨col, h⟩, h1, h2, _⟩ := h
 refine (h.settle (by omega) (by omega) 0).mono fun e u' ⟨q1, col', T', ps', q2, q3, q4⟩ => ⟨q1, x, y, A, zs, os, T', ?_⟩
 rcases q3 with rfl | ⟨_, q3⟩
 ·exact ⟨col', q2⟩
 ·omega
theorem Wq.cell (h : Wq w b0 b1 sb bk lt u) : u.cell? ⟨sb, 6, none⟩ = some (.pointer (some ⟨bk, 0, none⟩)) ∧ u.cell? ⟨sb, 7, none⟩ = some (.pointer (some ⟨lt, 0, none⟩)) := by
 obtain ⟨x, y, A, zs, os, T, h⟩ := h
 exact ⟨h.cell 6, h.cell 7⟩
theorem Wq.keep (h : Wq w b0 b1 sb bk lt u) (hg : u.grownBy u' none) : Wq w b0 b1 sb bk lt u' := by
 obtain ⟨x, y, A, zs, os, T, h⟩ := h
 exact ⟨x, y, A, zs, os, T, h.keep hg⟩
theorem Wq.look (h : Wq w b0 b1 sb bk lt u) : Calls Tryz.prog 13 #[.pointer (some ⟨bk, 0, none⟩)] u fun e u' => e = .returned (.bool true) ∧ w.grownBy u' none ∧ u'.cell? ⟨sb, 6, none⟩ = some (.pointer (some ⟨bk, 0, none⟩)) ∧ u'.cell? ⟨sb, 7, none⟩ = some (.pointer (some ⟨lt, 0, none⟩)) := by
 obtain ⟨x, y, A, zs, os, T, ⟨col, h⟩⟩ := h
 refine h.b.look.mono fun e u' ⟨q1, hb⟩ => ⟨q1, ?_⟩
 have s : Stp w (fun i => i = 4) u col u' (dye u col 4) := ⟨fun x hx => dye_old hx, hb.os, hb.tape, hb.output, hb.size, fun x hx q => hb.block x hx (fun e => by
  rcases e with e | e
  ·rcases q with q | q
   ·have := e.2.1; omega
   ·exact q e.1
  ·omega)⟩
 have hp := h.g.stp s (by decide)
 exact ⟨s.grown h.d.gr, hp.cell 6, hp.cell 7⟩
open Classical in
/-- The colours of a new stage. -/
noncomputable def ncol (P Q : Nat → Prop) (bk lt sb k : Nat) : Nat := if P k then 1 else if Q k then 2 else if k = bk ∨ k = lt then 4 else if k = sb then 9 else 0
/-- A new stage. -/
theorem ws_new {u1 u2 u3 : World} {R : Int} {P Q : Nat → Prop} (hd : Sd w u1 b0 (Ab.new R) P) (hr : Sr w u2 b1 (Ab.new R) Q) (hq : ∀ k, Q k → u1.heap.size ≤ k) (h2 : u2.heap.size ≤ bk) (h3 : bk < lt) (h4 : lt < sb) (g12 : u1.grownBy u2 none) (g2 : u2.grownBy u3 none) (hb : Bk.Bkc u3 bk (.slice none 0 0) (.slice none 0 0) 0 0 0 0) (hl : u3.rowIs lt 66 2 (Bq.ltF (.slice none 0 0) (.slice none 0 0))) (hs : Blk u3 sb (sgc b0 b1 (fun _ => none) (fun _ => none) bk lt) 72) :
  Wx w b0 b1 sb (fun _ => none) (fun _ => none) (Ab.new R) (Ab.new R).sr (fun _ => 0) (fun _ => false) bk lt 0 [] u3 := by
 have d3 := (hd.keep g12).keep g2
 have r3 := hr.keep g2
 have hlt := hs.lt
 have hw2 := hr.gr.size
 have cP : ∀ k, P k → ncol P Q bk lt sb k = 1 := fun k hk => if_pos hk
 have nP : ∀ k, u1.heap.size ≤ k → ¬ P k := fun k hk q => by have := hd.lt k q; omega
 have nQ : ∀ k, u2.heap.size ≤ k → ¬ Q k := fun k hk q => by have := hr.lt k q; omega
 have cQ : ∀ k, Q k → ncol P Q bk lt sb k = 2 := fun k hk => by unfold ncol; rw [if_neg (nP k (hq k hk)), if_pos hk]
 have s12 := g12.size
 have cB : ∀ k, k = bk ∨ k = lt → ncol P Q bk lt sb k = 4 := fun k hk => by unfold ncol; rw [if_neg (nP k (by omega)), if_neg (nQ k (by omega)), if_pos hk]
 have cS : ncol P Q bk lt sb sb = 9 := by unfold ncol; rw [if_neg (nP sb (by omega)), if_neg (nQ sb (by omega)), if_neg (by omega), if_pos rfl]
 have e : (Ab.new R).sr = Ab.new R := sr_self List.Pairwise.nil
 rw [e]
 refine ⟨ncol P Q bk lt sb, sd_paint d3 cP, sr_paint r3 cQ, ⟨hs, cS, by omega, hlt⟩, fun k hk => ⟨fun _ h => (by cases h), fun _ h => (by cases h), rfl⟩, ?_⟩
 exact Bq.ST.new hb hl (.inl ⟨cB bk (.inl rfl), by omega, by omega⟩) (.inl ⟨cB lt (.inr rfl), by omega, by omega⟩) (fun b hb => .inr hb)
theorem wr_open {k0 : Nat} (h : Wx w b0 b1 sb x y A A.sr zs os bk lt T ps u) (hk : k0 < 2) (hT : Tab w) (hw : A.wr ≤ 100) (hroom : A.room ≤ 4194304) (hps : ps.length < 8) (hTT : T + 208 ≤ 10000000) (hz : ∀ j, zs j ≤ 4194304) :
  Calls Tryz.prog 9 #[.pointer (some ⟨sb, 0, none⟩), .int .i64 (k0 : Nat)] u fun e u' => e = .returned (.bool true) ∧ ∃ x y zs os A' T' ps', Wx w b0 b1 sb x y A' A'.sr zs os bk lt T' ps' u' ∧ A'.wr ≤ A.wr + 1 ∧ A'.room = A.room ∧ ps'.length < 8 ∧ T' ≤ T + 208 ∧ ∀ j, zs j ≤ 4194304 :=
 (open_any h hk hT (by omega) hroom hps hTT hz (Nat.le_refl _)).mono fun e u' ⟨q1, A', ⟨x', y', zs', os', T', ps', r1, r2, r3, r4⟩, q3, q4⟩ => ⟨q1, x', y', zs', os', A', T', ps', r1, q4, q3, r2, r3, r4⟩
/-- The stage behind i opens. -/
def Wi (w : World) (b0 b1 sb bk lt : Nat) (i : Nat) (u : World) : Prop := ∃ x y A zs os T ps, Wx w b0 b1 sb x y A A.sr zs os bk lt T ps u ∧ ps.length < 8 ∧ T ≤ 208 * i ∧ (∀ j, zs j ≤ 4194304) ∧ A.room ≤ 4194304 ∧ A.wr ≤ (i : Nat)
theorem Wi.open {i k0 : Nat} (h : Wi w b0 b1 sb bk lt i u) (hi : i ≤ 2) (hk : k0 < 2) (hT : Tab w) : Calls Tryz.prog 9 #[.pointer (some ⟨sb, 0, none⟩), .int .i64 (k0 : Nat)] u fun e u' => e = .returned (.bool true) ∧ Wi w b0 b1 sb bk lt (i + 1) u' := by
 obtain ⟨x, y, A, zs, os, T, ps, h, h1, h2, h3, h4, h5⟩ := h
 refine (wr_open h hk hT (by omega) h4 h1 (by omega) h3).mono fun e u' ⟨q1, x', y', zs', os', A', T', ps', r1, r2, r3, r4, r5, r6⟩ => ⟨q1, ?_⟩
 have e1 : T' ≤ 208 * (i + 1) := by omega
 have e2 : A'.room ≤ 4194304 := by omega
 have e3 : A'.wr ≤ ((i + 1 : Nat) : Int) := by omega
 exact ⟨x', y', A', zs', os', T', ps', r1, r4, e1, r6, e2, e3⟩
theorem Wi.wr (h : Wi w b0 b1 sb bk lt 2 u) : Wr w b0 b1 sb bk lt 0 u := by
 obtain ⟨x, y, A, zs, os, T, ps, h, h1, h2, h3, h4, h5⟩ := h
 have e1 : T ≤ 208 * (0 + 2) := by omega
 have e2 : A.wr ≤ 3 * (((0 : Nat) : Int) + 2) := by omega
 exact ⟨x, y, A, zs, os, T, ps, h, h1, e1, fun j => by have := h3 j; omega, h4, e2⟩
/-- One step that is handed in. -/
structure Oq where
 dv : Int
 on : Int
 ba : Option Addr
 bn : Nat
 bc : Nat
 l : List UInt8
 nv : Int
 kv : Int
def Oq.cells (o : Oq) : List Value := [.int .i64 o.dv, .int .i64 o.on, .slice o.ba o.bn o.bc, .int .i64 o.nv, .int .i64 o.kv]
def Oq.In (o : Oq) (W : World) : Prop := Rd W (fun k => k < W.heap.size) (.slice o.ba o.bn o.bc) o.l ∧ o.l.length ≤ 140737488355328 ∧ o.nv ≤ 9223372036854775807
structure RowO (W : World) (a : Option Addr) (b o n : Nat) (T : Nat → Oq) : Prop where
 at_ : 0 < n → a = some ⟨b, o, none⟩ ∧ b < W.heap.size
 each : ∀ i, i < n → W.rangeAt b (o + i * 5) (T i).cells ∧ (T i).In W
end Go.Proofs.YtpbiofnncdneoaaGreatDoor

namespace Go.Proofs.YtpbiofnncdneoaaGreatDoor
open Go Go.RowKit Go.MapKept Go.MuLone
open Go.RowKit (wrap32 wrap64)

set_option maxRecDepth 100000 in
set_option maxHeartbeats 8000000 in
theorem walExact_walk (w : World) (r0 : Int) (a : Option Addr) (n cc g off : Nat) (T : Nat → Oq) (hA : RowO w a g off n T) (hn : n ≤ 140737488355328) (hT : Tab w) :
  Calls Tryz.prog 3 #[.agg [Value.int .i64 r0, .slice a n cc].toArray] w fun e w' => e = .returned (.bool true) ∧ w.grownBy w' none := by
 have HA := hid hA
 have HTw := hid hT
 have HWi : Hid (∀ u : World, Calls Tryz.prog 4 #[.int .i64 r0, .int .i64 4194304] u fun e w' => (∃ r : Nat, r < 4194304 ∧ e = .returned (.int .i64 r)) ∧ w' = u) := hid (fun u => within_any r0 4194304 (by decide) (by decide) u)
 have HNw : Hid (∀ (u : World) (R : Nat), 1 ≤ R → R ≤ 4194304 → Calls Tryz.prog 5 #[.int .i64 (R : Nat)] u fun e w' => ∃ b P, e = .returned (.tuple #[.pointer (some ⟨b, 0, none⟩), .int .i64 0]) ∧ Sd u w' b (Ab.new R) P) := hid (fun u R h1 h2 => sd_new u R h1 (by omega))
 clear hA hT
 go_enter Tryz.func3, Tryz.ntmps3
 go_upto_region 2 with (first
  | ((with_reducible refine wpList_box_row (by with_unfolding_all rfl) 24 _ (by with_unfolding_all rfl) [Value.int .i64 r0, .slice a n cc] (by with_unfolding_all rfl) ?_); intro w1 B1 s1 g1; have HB1 := hid B1; have HG1 := hid g1; have c0 := B1.cell 0; clear B1 s1 g1)
  | (go_at_call 4; (with_reducible refine (HWi.out _).mono ?_); rintro e w2 ⟨⟨r, hr, rfl⟩, hw2⟩; have hw2' := hw2.symm; clear hw2; subst hw2'; obtain ⟨R, hR⟩ : ∃ R : Nat, 1 + (r : Int) = (R : Int) := ⟨1 + r, by omega⟩; have HRb : Hid (1 ≤ R ∧ R ≤ 4194304) := hid (by omega)))
 clear hr hR c0 HWi
 have HT1 : Hid (Tab w1) := hid (HTw.out.keep HG1.out)
 go_upto_region 6 with (first
  | (go_at_call 8; (with_reducible refine (works_any w3 HT3.out).mono ?_); rintro e w4 ⟨rfl, hg⟩; have HG4 := hid hg; clear hg)
  | (go_at_call 7; (with_reducible refine (num_any _ _).mono ?_); rintro e w5 ⟨rfl, hw5⟩; have hw5' := hw5.symm; clear hw5; subst hw5')
  | (go_at_call 6; (with_reducible refine HRn.out.mono ?_); rintro e w3 ⟨b1, Q, rfl, hd, hg, hq⟩; have HS3 := hid hd; have HG3 := hid hg; have HQ3 := hid hq; have HT3 : Hid (Tab w3) := hid (HT1.out.keep hd.gr); clear hd hg hq)
  | (go_at_call 5; (with_reducible refine (HNw.out _ _ HRb.out.1 HRb.out.2).mono ?_); rintro e w2 ⟨b0, P, rfl, hd⟩; have HD2 := hid hd; have HRn := hid (sr_new w1 w2 hd.gr (R : Nat) (by have := HRb.out; omega) (by have := HRb.out; omega)); clear hd))
 go_upto_region 8 with (first | refine Bk.wp_build63 rfl ?_ | refine Bk.wp_build66 rfl ?_)
 have HB2 : Hid (Blk (((w4.alloc (.cells Bk.zeroB 63)).alloc (.cells Bk.zeroL 66)).alloc (.cells (sgc b0 b1 (fun _ => none) (fun _ => none) w4.heap.size (w4.heap.size + 1)).toArray 72)) (w4.heap.size + 1 + 1) (sgc b0 b1 (fun _ => none) (fun _ => none) w4.heap.size (w4.heap.size + 1)) 72) := hid (by
  have := heap_alloc_new ((w4.alloc (.cells Bk.zeroB 63)).alloc (.cells Bk.zeroL 66)) (.cells (sgc b0 b1 (fun _ => none) (fun _ => none) w4.heap.size (w4.heap.size + 1)).toArray 72)
  rw [show ((w4.alloc (.cells Bk.zeroB 63)).alloc (.cells Bk.zeroL 66)).heap.size = w4.heap.size + 1 + 1 by simp] at this
  exact this)
 have HX : Hid (Wi w1 b0 b1 (w4.heap.size + 1 + 1) w4.heap.size (w4.heap.size + 1) 0 (((w4.alloc (.cells Bk.zeroB 63)).alloc (.cells Bk.zeroL 66)).alloc (.cells (sgc b0 b1 (fun _ => none) (fun _ => none) w4.heap.size (w4.heap.size + 1)).toArray 72))) := hid (by
  have g1 := galloc w4 (.cells Bk.zeroB 63) none
  have g2 := galloc (w4.alloc (.cells Bk.zeroB 63)) (.cells Bk.zeroL 66) none
  have g3 := galloc ((w4.alloc (.cells Bk.zeroB 63)).alloc (.cells Bk.zeroL 66)) (.cells (sgc b0 b1 (fun _ => none) (fun _ => none) w4.heap.size (w4.heap.size + 1)).toArray 72) none
  have z1 := Bk.zeroB_row w4
  have z2 := Bk.zeroL_row (w4.alloc (.cells Bk.zeroB 63))
  have e1 : (w4.alloc (.cells Bk.zeroB 63)).heap.size = w4.heap.size + 1 := by simp
  have e2 : ((w4.alloc (.cells Bk.zeroB 63)).alloc (.cells Bk.zeroL 66)).heap.size = w4.heap.size + 1 + 1 := by simp
  rw [e1] at z2
  refine ⟨_, _, _, _, _, _, _, ws_new (R := (R : Nat)) HD2.out (HS3.out.keep HG4.out) HQ3.out (Nat.le_refl _) (by omega) (by omega) (gtrans HG3.out HG4.out) (gtrans g1 (gtrans g2 g3)) ?_ ?_ HB2.out, by decide, by omega, fun _ => Nat.zero_le _, by have := HRb.out; show ((R : Nat) : Int) ≤ 4194304; omega, Int.le_refl _⟩
  ·exact rowIs_at z1 (((gtrans g2 g3).block _ (by omega) (by simp)))
  ·exact rowIs_at z2 (g3.block _ (by omega) (by simp)))
 obtain ⟨u6, hu6⟩ : ∃ z, ((w4.alloc (.cells Bk.zeroB 63)).alloc (.cells Bk.zeroL 66)).alloc (.cells (sgc b0 b1 (fun _ => none) (fun _ => none) w4.heap.size (w4.heap.size + 1)).toArray 72) = z := ⟨_, rfl⟩
 have hu6' : ((w4.alloc (.cells Bk.zeroB 63)).alloc (.cells Bk.zeroL 66)).alloc (.cells #[Value.pointer (some ⟨b0, 0, none⟩), .pointer (some ⟨b1, 0, none⟩), .pointer none, .pointer none, .pointer none, .pointer none, .pointer (some ⟨w4.heap.size, 0, none⟩), .pointer (some ⟨w4.heap.size + 1, 0, none⟩)] 72) = u6 := hu6
 rw [hu6] at HX
 rw [hu6']
 clear hu6 hu6' HB2 HG4 HG3 HQ3 HS3 HD2 HRn HRb HNw HT3
 obtain ⟨sb, hsb⟩ : ∃ z, w4.heap.size + 1 + 1 = z := ⟨_, rfl⟩
 rw [hsb] at HX ⊢
 clear hsb
 obtain ⟨lt, hlt⟩ : ∃ z, w4.heap.size + 1 = z := ⟨_, rfl⟩
 rw [hlt] at HX ⊢
 clear hlt
 obtain ⟨bk, hbk⟩ : ∃ z, w4.heap.size = z := ⟨_, rfl⟩
 rw [hbk] at HX ⊢
 clear hbk
 obtain ⟨wb, hwb⟩ : ∃ z, w.heap.size = z := ⟨_, rfl⟩
 rw [hwb] at HB1 ⊢
 clear hwb
 have HO0 : Hid (Calls Tryz.prog 9 #[.pointer (some ⟨sb, 0, none⟩), .int .i64 0] u6 fun e u' => e = .returned (.bool true) ∧ Wi w1 b0 b1 sb bk lt 1 u') := hid (HX.out.open (k0 := 0) (by decide) (by decide) HT1.out)
 go_upto_region 10 with (first
  | (go_at_call 9; (with_reducible refine HO1.out.mono ?_); rintro e w8 ⟨rfl, hm⟩; have HM := hid hm.wr; clear hm)
  | (go_at_call 9; (with_reducible refine HO0.out.mono ?_); rintro e w7 ⟨rfl, hm⟩; have HO1 : Hid (Calls Tryz.prog 9 #[.pointer (some ⟨sb, 0, none⟩), .int .i64 1] w7 fun e u' => e = .returned (.bool true) ∧ Wi w1 b0 b1 sb bk lt 2 u') := hid (hm.open (k0 := 1) (by decide) (by decide) HT1.out); clear hm))
 clear HO0 HO1 HX
 go_wp2_with fail
 go_loopw [9, 10] (fun sv iv wr => ∃ i sp : Nat, iv = .int .i64 i ∧ sv = .int .i64 sp ∧ i ≤ n ∧ Hid (i ≤ 200) ∧ sp ≤ 524288 ∧ Hid (Wr w1 b0 b1 sb bk lt i wr)) (fun _ iv _ => 200 - (intOf iv).toNat)
 case atStart => exact ⟨0, 0, rfl, rfl, Nat.zero_le _, hid (by decide), by decide, HM⟩
 case round =>
  clear HM
  obtain ⟨i, sp, rfl, rfl, hin, HI2, hsp, HM⟩ := hrel
  obtain ⟨u5, hu5⟩ : ∃ x : World, x = wr := ⟨_, rfl⟩
  rw [← hu5] at HM ⊢
  clear hu5
  have c1 : u5.cell? ⟨wb, 1, none⟩ = some (.slice a n cc) := (HB1.out.keep HM.out.gr).cell 1
  by_cases hlt : i < n
  ·have hlt' : (i : Int) < (n : Int) := by omega
   by_cases h200 : i < 200
   ·have h200' : (i : Int) < 200 := by omega
    obtain ⟨ea, hgb⟩ := HA.out.at_ (by omega)
    subst ea
    obtain ⟨hrow, hob⟩ := HA.out.each i hlt
    obtain ⟨o, ho⟩ : ∃ o, T i = o := ⟨_, rfl⟩
    rw [ho] at hrow hob
    obtain ⟨dv, on, ba, bn, bc, l, nv, kv⟩ := o
    have hgw : w.grownBy u5 none := gtrans HG1.out HM.out.gr
    have q : ∀ j v, ([Value.int .i64 dv, .int .i64 on, .slice ba bn bc, .int .i64 nv, .int .i64 kv] : List Value)[j]? = some v → u5.cell? ⟨g, off + i * 5 + j, none⟩ = some v := fun j v hj => by
     rw [cell_at hgw hgb (by simp)]
     exact hrow j v hj
    have q0 := q 0 _ rfl
    have q1 := q 1 _ rfl
    have q2 := q 2 _ rfl
    have q3 := q 3 _ rfl
    have q4 := q 4 _ rfl
    rw [Nat.add_zero] at q0
    have HB : Hid (Rd w1 (fun k => k < w.heap.size) (.slice ba bn bc) l) := hid (hob.1.keep HG1.out)
    have hbl : l.length = bn := by obtain ⟨_, _, _, _, e, _⟩ := hob.1; injection e with _ e _; exact e.symm
    have HNv : Hid (nv ≤ 9223372036854775807) := hid hob.2.2
    have HBn : Hid (l.length = bn ∧ bn ≤ 140737488355328) := hid ⟨hbl, by have := hob.2.1; rw [← hbl]; exact this⟩
    have hbn := HBn.out.2
    clear hrow hob ho q hgw hbl
    obtain ⟨S, hS⟩ : ∃ z : Nat, (sp : Int) + (bn : Int) = (z : Int) := ⟨sp + bn, by omega⟩
    by_cases hs : S ≤ 524288
    ·as_aux_lemma =>
     have hs' : ¬ (524288 : Int) < (S : Int) := by omega
     have HPl : Hid (∀ u, Wr w1 b0 b1 sb bk lt i u → Calls Tryz.prog 10 #[.pointer (some ⟨sb, 0, none⟩), .agg [Value.int .i64 dv, .int .i64 on, .slice ba bn bc, .int .i64 nv, .int .i64 kv].toArray] u fun e u' => e = .returned (.bool true) ∧ Wr w1 b0 b1 sb bk lt (i + 1) u') := hid (fun u q => q.plays h200 HT1.out HB.out (by have := HBn.out; omega) HNv.out)
     have HSm : Hid (∀ u, Wr w1 b0 b1 sb bk lt (i + 1) u → Calls Tryz.prog 11 #[.pointer (some ⟨sb, 0, none⟩)] u fun e u' => e = .returned (.bool true) ∧ Wr w1 b0 b1 sb bk lt (i + 1) u') := hid (fun u q => q.same)
     have HS5 := hid hs
     have HIn : Hid (i + 1 ≤ n ∧ i + 1 ≤ 200) := hid ⟨hlt, h200⟩
     clear hs
     go_wp2_with (first
      | (go_at_call 11; (with_reducible refine (HSm.out _ HM.out).mono ?_); rintro e v8 ⟨rfl, hm⟩; replace HM := hid hm; clear hm)
      | (go_at_call 10; (with_reducible refine (HPl.out _ HM.out).mono ?_); rintro e v8 ⟨rfl, hm⟩; replace HM := hid hm; clear hm))
     go_roundw
     case rel => exact ⟨i + 1, S, by go_num, rfl, HIn.out.1, hid HIn.out.2, HS5.out, HM⟩
     case measure => simp [intOf]; omega
    ·as_aux_lemma =>
     have hs' : (524288 : Int) < (S : Int) := by omega
     go_upto_region 17 with fail
     have c67 := HM.out.cell
     have HSt : Hid (∀ u, Wr w1 b0 b1 sb bk lt i u → Calls Tryz.prog 12 #[.pointer (some ⟨lt, 0, none⟩), .pointer (some ⟨bk, 0, none⟩), .int .i64 0] u fun e u' => e = .returned (.bool true) ∧ Wq w1 b0 b1 sb bk lt u') := hid (fun u q => q.settle HI2.out)
     have HLk : Hid (∀ u, Wq w1 b0 b1 sb bk lt u → Calls Tryz.prog 13 #[.pointer (some ⟨bk, 0, none⟩)] u fun e u' => e = .returned (.bool true) ∧ w1.grownBy u' none ∧ u'.cell? ⟨sb, 6, none⟩ = some (.pointer (some ⟨bk, 0, none⟩)) ∧ u'.cell? ⟨sb, 7, none⟩ = some (.pointer (some ⟨lt, 0, none⟩))) := hid (fun u q => q.look)
     go_region_held3 (fun v => v.cell? ⟨sb, 6, none⟩ = some (.pointer (some ⟨bk, 0, none⟩)) ∧ v.cell? ⟨sb, 7, none⟩ = some (.pointer (some ⟨lt, 0, none⟩))) (first | assumption | exact HF.out.2 | exact HQ.out.cell | exact (HQ.out.keep (gdrew1 _ _)).cell | exact HM.out.cell | exact (HM.out.keep (gdrew1 _ _)).cell) (first
      | (go_at_call 13; (with_reducible refine (HLk.out _ (by first | exact HQ.out | exact HQ.out.keep (gdrew1 _ _))).mono ?_); rintro e v6 ⟨rfl, hm⟩; have HF := hid hm; clear hm)
      | (go_at_call 12; (with_reducible refine (HSt.out _ (by first | exact HM.out | exact HM.out.keep (gdrew1 _ _))).mono ?_); rintro e v6 ⟨rfl, hm⟩; have HQ := hid hm; clear hm))
     all_goals (go_wp2_with fail; go_ret; exact ⟨rfl, gtrans HG1.out HF.out.1⟩)
   ·as_aux_lemma =>
    have h200' : ¬ (i : Int) < 200 := by omega
    go_upto_region 17 with fail
    have c67 := HM.out.cell
    have HSt : Hid (∀ u, Wr w1 b0 b1 sb bk lt i u → Calls Tryz.prog 12 #[.pointer (some ⟨lt, 0, none⟩), .pointer (some ⟨bk, 0, none⟩), .int .i64 0] u fun e u' => e = .returned (.bool true) ∧ Wq w1 b0 b1 sb bk lt u') := hid (fun u q => q.settle HI2.out)
    have HLk : Hid (∀ u, Wq w1 b0 b1 sb bk lt u → Calls Tryz.prog 13 #[.pointer (some ⟨bk, 0, none⟩)] u fun e u' => e = .returned (.bool true) ∧ w1.grownBy u' none ∧ u'.cell? ⟨sb, 6, none⟩ = some (.pointer (some ⟨bk, 0, none⟩)) ∧ u'.cell? ⟨sb, 7, none⟩ = some (.pointer (some ⟨lt, 0, none⟩))) := hid (fun u q => q.look)
    go_region_held3 (fun v => v.cell? ⟨sb, 6, none⟩ = some (.pointer (some ⟨bk, 0, none⟩)) ∧ v.cell? ⟨sb, 7, none⟩ = some (.pointer (some ⟨lt, 0, none⟩))) (first | assumption | exact HF.out.2 | exact HQ.out.cell | exact (HQ.out.keep (gdrew1 _ _)).cell | exact HM.out.cell | exact (HM.out.keep (gdrew1 _ _)).cell) (first
     | (go_at_call 13; (with_reducible refine (HLk.out _ (by first | exact HQ.out | exact HQ.out.keep (gdrew1 _ _))).mono ?_); rintro e v6 ⟨rfl, hm⟩; have HF := hid hm; clear hm)
     | (go_at_call 12; (with_reducible refine (HSt.out _ (by first | exact HM.out | exact HM.out.keep (gdrew1 _ _))).mono ?_); rintro e v6 ⟨rfl, hm⟩; have HQ := hid hm; clear hm))
    all_goals (go_wp2_with fail; go_ret; exact ⟨rfl, gtrans HG1.out HF.out.1⟩)
  ·as_aux_lemma =>
   have hlt' : ¬ (i : Int) < (n : Int) := by omega
   go_upto_region 17 with fail
   have c67 := HM.out.cell
   have HSt : Hid (∀ u, Wr w1 b0 b1 sb bk lt i u → Calls Tryz.prog 12 #[.pointer (some ⟨lt, 0, none⟩), .pointer (some ⟨bk, 0, none⟩), .int .i64 0] u fun e u' => e = .returned (.bool true) ∧ Wq w1 b0 b1 sb bk lt u') := hid (fun u q => q.settle HI2.out)
   have HLk : Hid (∀ u, Wq w1 b0 b1 sb bk lt u → Calls Tryz.prog 13 #[.pointer (some ⟨bk, 0, none⟩)] u fun e u' => e = .returned (.bool true) ∧ w1.grownBy u' none ∧ u'.cell? ⟨sb, 6, none⟩ = some (.pointer (some ⟨bk, 0, none⟩)) ∧ u'.cell? ⟨sb, 7, none⟩ = some (.pointer (some ⟨lt, 0, none⟩))) := hid (fun u q => q.look)
   go_region_held3 (fun v => v.cell? ⟨sb, 6, none⟩ = some (.pointer (some ⟨bk, 0, none⟩)) ∧ v.cell? ⟨sb, 7, none⟩ = some (.pointer (some ⟨lt, 0, none⟩))) (first | assumption | exact HF.out.2 | exact HQ.out.cell | exact (HQ.out.keep (gdrew1 _ _)).cell | exact HM.out.cell | exact (HM.out.keep (gdrew1 _ _)).cell) (first
    | (go_at_call 13; (with_reducible refine (HLk.out _ (by first | exact HQ.out | exact HQ.out.keep (gdrew1 _ _))).mono ?_); rintro e v6 ⟨rfl, hm⟩; have HF := hid hm; clear hm)
    | (go_at_call 12; (with_reducible refine (HSt.out _ (by first | exact HM.out | exact HM.out.keep (gdrew1 _ _))).mono ?_); rintro e v6 ⟨rfl, hm⟩; have HQ := hid hm; clear hm))
   all_goals (go_wp2_with fail; go_ret; exact ⟨rfl, gtrans HG1.out HF.out.1⟩)
end Go.Proofs.YtpbiofnncdneoaaGreatDoor

namespace Go.Proofs.YtpbiofnncdneoaaGreatDoor
open Go Go.RowKit Go.ChangeShapes Go.WideShapes Go.ChangeAt Go.Joins

theorem tabName : Tryz.prog.globalNamed "postern/record.halved" = some 0 := by kernel_rfl
theorem Tryz.cells83 : Tryz.prog.cellsOf 83 = 1 := by kernel_rfl
def tabZ : List Int := tabL.map fun (n : Nat) => (n : Int)
theorem tabZ_at (i : Nat) (h : i < 16) : tabZ.getD i 0 = (tb i : Int) := by
 have : ∀ k : Fin 16, tabZ.getD k.val 0 = (tb k.val : Int) := by decide
 exact this ⟨i, h⟩
theorem tab_of {W : World} (h : laidMet Tryz.prog [("postern/record.halved", Lib.tabData .u32 tabZ)] W) : Tab W := by
 have h1 := Lib.tabIs_of_head (g := 0) (t := 266) (e := 83) (n := 16) tabName (by kernel_rfl) (by kernel_rfl) Tryz.underlying83 Tryz.cells83 (by kernel_rfl) h
 have hc : ∀ i, i < 16 → W.cell? ⟨0, i, none⟩ = some (.int .u32 (tb i)) := fun i hi => by
  have := h1.cell tabName i (by simpa [tabZ, tabL] using hi)
  rw [tabZ_at i hi] at this
  exact this
 exact ⟨World.block_lt_of_cell? W _ (hc 0 (by decide)), hc⟩
theorem ownD : ownKnob Tryz.prog.godebug = none := by kernel_rfl
theorem laidOutD : laidOutB Tryz.prog = true := by kernel_rfl

end Go.Proofs.YtpbiofnncdneoaaGreatDoor

namespace Go.Proofs.YtpbiofnncdneoaaGreatDoor
open Go Go.RowKit Go.ChangeShapes Go.WideShapes Go.ChangeAt Go.Joins Go.Deep

theorem Tryz.cells74 : Tryz.prog.cellsOf 74 = 1 := by kernel_rfl
theorem Tryz.cells5 : Tryz.prog.cellsOf 5 = 1 := by kernel_rfl
theorem Tryz.bytes5 : Tryz.prog.bytesOf 5 = 1 := by kernel_rfl
theorem add_none {b o i : Nat} : (⟨b, o, none⟩ : Addr).add i = ⟨b, o + i, none⟩ := Addr.add_lit ..
theorem weightsAll_mem {H : Type} {P : Program} {e : TypeId} {d : DataW H} : ∀ {l : List (DataW H)}, d ∈ l → ∀ n ∈ d.weights P e, n ∈ DataW.weightsAll P e l
 | x :: r, hd, n, hn => by
  simp only [DataW.weightsAll, List.mem_append]
  rcases List.mem_cons.1 hd with rfl | h
  ·exact .inl hn
  ·exact .inr (weightsAll_mem h n hn)
theorem all_slice {H : Type} {P : Program} {t e : TypeId} {elems spare : List (DataW H)} (hu : P.underlying t = some (.slice e)) (h : ((DataW.slice elems spare).weights P t).all (· ≤ reachBytes) = true) :
  (elems.length + spare.length) * P.bytesOf e ≤ reachBytes ∧ ∀ d ∈ elems, (d.weights P e).all (· ≤ reachBytes) = true := by
 simp only [DataW.weights, hu] at h
 rw [List.all_eq_true] at h
 refine ⟨of_decide_eq_true (h _ (List.mem_cons_self ..)), fun d hd => List.all_eq_true.2 fun n hn => h n (List.mem_cons_of_mem _ (List.mem_append_left _ (weightsAll_mem hd n hn)))⟩

section
variable {H : Type} {enc : TypeId × Value → H} {W : World}
set_option maxRecDepth 100000 in
/-- A slice of bytes. -/
theorem open_bytes {fuel : Nat} {c : Value} {y : DataW H × List MemPlace} (h : DataW.trod enc Tryz.prog W 0 (fun _ => true) true fuel 74 [c] = some y) (hsz : (y.1.weights Tryz.prog 74).all (· ≤ reachBytes) = true) : ∃ l : List UInt8, Rd W (fun _ => True) c l ∧ l.length ≤ 140737488355328 := by
 rcases DataW.trod_slice Tryz.underlying74 h with ⟨hcs, _⟩ | ⟨a, len, cap, elems, rest, n2, _, hcs, hx, _, hl', _, hlen, hel, _, _⟩
 ·simp only [List.cons.injEq, and_true] at hcs
  subst hcs
  exact ⟨[], Rd.nil _ _, by simp⟩
 ·simp only [List.cons.injEq, and_true] at hcs
  subst hcs
  rw [hx] at hsz
  obtain ⟨hs1, _⟩ := all_slice Tryz.underlying74 hsz
  rw [Tryz.bytes5] at hs1
  simp at hs1
  have hrb := reachBytes_lt
  rw [Tryz.cells5] at hel
  have hex : ∀ i, i < len → ∃ z : UInt8, W.cell? (a.add i) = some (.int .u8 z.toNat) := by
   intro i hi
   have hi' := hel i hi
   rw [List.getElem?_eq_getElem (by omega), Option.bind_eq_some_iff] at hi'
   obtain ⟨cs', hc', ht'⟩ := hi'
   obtain ⟨_, hl6, hc6⟩ := World.cells?_some hc'
   obtain ⟨z, e, _, w0⟩ := DataW.trod_int (k := .u8) Tryz.underlying5 ht'
   have hbd := bounds_u8 w0
   have := hc6 0 (by omega)
   subst e
   refine ⟨UInt8.ofNat z.toNat, ?_⟩
   have e0 : (a.add (i * 1)).add 0 = a.add i := by cases a; simp [Addr.add]
   rw [e0] at this
   rw [this]
   simp
   omega
  obtain ⟨f, hf⟩ := choose_lt hex
  refine ⟨(List.range len).map f, ?_, by simp; omega⟩
  have hll : ((List.range len).map f).length = len := by simp
  by_cases h0 : len = 0
  ·exact ⟨some a, 0, 0, cap, by rw [hll], by rw [hll]; exact hl', (fun h => by cases h), fun h => by rw [hll] at h; omega, fun i h => by rw [hll] at h; omega⟩
  ·obtain ⟨b, off, spot⟩ := a
   have c0 := hf 0 (by omega)
   have hspot : spot = none := by simpa [Addr.add] using World.cell?_spot c0
   subst hspot
   have hblt : b < W.heap.size := by
    rw [add_none] at c0
    exact World.block_lt_of_cell? W _ c0
   refine ⟨some ⟨b, off, none⟩, b, off, cap, by rw [hll], by rw [hll]; exact hl', (fun h => by cases h), fun _ => ⟨rfl, hblt, trivial⟩, fun j hj => ?_⟩
   have dj := hf j (by rw [hll] at hj; exact hj)
   rw [add_none] at dj
   rw [dj]
   simp
set_option maxRecDepth 100000 in
/-- A slice of structs, its elements' cells. -/
theorem open_rows {t e : TypeId} {k : Nat} (ht : Tryz.prog.underlying t = some (.slice e)) (hk : Tryz.prog.cellsOf e = k) (hk0 : 0 < k) (hby : 0 < Tryz.prog.bytesOf e) {fuel : Nat} {v : Value} {y : DataW H × List MemPlace}
  (h : DataW.trod enc Tryz.prog W 0 (fun _ => true) true fuel t [v] = some y) (hsz : (y.1.weights Tryz.prog t).all (· ≤ reachBytes) = true) :
  ∃ (a : Option Addr) (b o n c : Nat), v = .slice a n c ∧ n ≤ c ∧ n ≤ 140737488355328 ∧ (0 < n → a = some ⟨b, o, none⟩ ∧ b < W.heap.size) ∧
   ∀ i, i < n → ∃ (cs : List Value) (m : Nat) (x : DataW H × List MemPlace), cs.length = k ∧ (∀ j, j < k → W.cell? ⟨b, o + (i * k + j), none⟩ = cs[j]?) ∧ DataW.trod enc Tryz.prog W 0 (fun _ => true) true m e cs = some x ∧ (x.1.weights Tryz.prog e).all (· ≤ reachBytes) = true := by
 rcases DataW.trod_slice ht h with ⟨hcs, _⟩ | ⟨a, len, cap, elems, rest, n2, _, hcs, hx, _, hl', _, hlen, hel, _, _⟩
 ·simp only [List.cons.injEq, and_true] at hcs
  subst hcs
  exact ⟨none, 0, 0, 0, 0, rfl, Nat.le_refl _, by omega, fun h => by omega, fun i h => by omega⟩
 ·simp only [List.cons.injEq, and_true] at hcs
  subst hcs
  rw [hx] at hsz
  obtain ⟨hs1, hs2⟩ := all_slice ht hsz
  simp only [List.length_map] at hs1
  have hrb := reachBytes_lt
  have hlb : len ≤ 140737488355328 := by
   have : (elems.length + rest.length) * 1 ≤ (elems.length + rest.length) * Tryz.prog.bytesOf e := Nat.mul_le_mul_left _ hby
   omega
  rw [hk] at hel
  have hex : ∀ i, i < len → ∃ (cs : List Value) (x : DataW H × List MemPlace), cs.length = k ∧ (∀ j, j < k → W.cell? ((a.add (i * k)).add j) = cs[j]?) ∧ DataW.trod enc Tryz.prog W 0 (fun _ => true) true n2 e cs = some x ∧ (x.1.weights Tryz.prog e).all (· ≤ reachBytes) = true := by
   intro i hi
   have hi' := hel i hi
   rw [List.getElem?_eq_getElem (by omega), Option.bind_eq_some_iff] at hi'
   obtain ⟨cs', hc', ht'⟩ := hi'
   obtain ⟨_, hl6, hc6⟩ := World.cells?_some hc'
   exact ⟨cs', elems[i], hl6, fun j hj => hc6 j hj, ht', hs2 _ (List.mem_map.2 ⟨elems[i], List.getElem_mem _, rfl⟩)⟩
  by_cases h0 : len = 0
  ·exact ⟨some a, 0, 0, len, cap, rfl, hl', hlb, fun h => by omega, fun i h => by omega⟩
  ·obtain ⟨b, off, spot⟩ := a
   obtain ⟨cs0, x0, hl0, hc0, _, _⟩ := hex 0 (by omega)
   have c0 := hc0 0 hk0
   rw [List.getElem?_eq_getElem (by omega)] at c0
   have hspot : spot = none := by simpa [Addr.add] using World.cell?_spot c0
   subst hspot
   have hblt : b < W.heap.size := by
    rw [add_none, add_none] at c0
    exact World.block_lt_of_cell? W _ c0
   refine ⟨some ⟨b, off, none⟩, b, off, len, cap, rfl, hl', hlb, fun _ => ⟨rfl, hblt⟩, fun i hi => ?_⟩
   obtain ⟨cs, x, hl1, hc1, ht1, hs3⟩ := hex i hi
   refine ⟨cs, n2, x, hl1, fun j hj => ?_, ht1, hs3⟩
   have := hc1 j hj
   rw [add_none, add_none, Nat.add_assoc] at this
   exact this
end
theorem Tryz.cells3 : Tryz.prog.cellsOf 3 = 1 := by kernel_rfl
theorem Tryz.cells76 : Tryz.prog.cellsOf 76 = 5 := by kernel_rfl
theorem Tryz.cells22 : Tryz.prog.cellsOf 22 = 1 := by kernel_rfl
theorem Tryz.cells24 : Tryz.prog.cellsOf 24 = 2 := by kernel_rfl
theorem Tryz.bytes76 : Tryz.prog.bytesOf 76 = 56 := by kernel_rfl
theorem i64_ofX {n : Int} (h : (Lit.int .i64 n).wf = true) : -9223372036854775808 ≤ n ∧ n ≤ 9223372036854775807 := by
 simp [Lit.wf, IntKind.min, IntKind.max, IntKind.signed, IntKind.bits] at h
 omega
section
variable {H : Type} {enc : TypeId × Value → H} {W : World}
theorem opx_sized {d0 d1 d2 d3 d4 : DataW H} (h : ((DataW.agg [d0, d1, d2, d3, d4]).weights Tryz.prog 76).all (· ≤ reachBytes) = true) : (d2.weights Tryz.prog 74).all (· ≤ reachBytes) = true := by
 rw [List.all_eq_true] at h
 simp only [DataW.weights, Tryz.underlying76, DataW.weightsEach, List.map_cons, List.map_nil, List.append_nil] at h
 exact List.all_eq_true.2 fun n hn => h n (by simp only [List.mem_append]; exact Or.inr (Or.inr (Or.inl hn)))
set_option maxRecDepth 100000 in
theorem open_opx {fuel : Nat} {cs : List Value} {x : DataW H × List MemPlace} (h : DataW.trod enc Tryz.prog W 0 (fun _ => true) true fuel 76 cs = some x) (hs : (x.1.weights Tryz.prog 76).all (· ≤ reachBytes) = true) : ∃ t : Oq, cs = t.cells ∧ t.In W := by
 obtain ⟨xs, k, _, hx, hl, hxl, hf⟩ := DataW.trod_struct Tryz.underlying76 h
 rw [Tryz.cells76] at hl
 obtain ⟨x0, x1, x2, x3, x4, rfl⟩ : ∃ x0 x1 x2 x3 x4, xs = [x0, x1, x2, x3, x4] := by
  match xs, (show xs.length = 5 from hxl) with
  | [a, b, c, d, e], _ => exact ⟨a, b, c, d, e, rfl⟩
 rw [hx] at hs
 have s2 := opx_sized (d0 := x0.1) (d1 := x1.1) (d2 := x2.1) (d3 := x3.1) (d4 := x4.1) hs
 obtain ⟨c0, c1, c2, c3, c4, rfl⟩ : ∃ c0 c1 c2 c3 c4, cs = [c0, c1, c2, c3, c4] := by
  match cs, hl with
  | [a, b, c, d, e], _ => exact ⟨a, b, c, d, e, rfl⟩
 have f0 : DataW.trod enc Tryz.prog W 0 (fun _ => true) true k 3 [c0] = some x0 := by
  have := hf 0 _ rfl
  change DataW.trod enc Tryz.prog W 0 (fun _ => true) true k 3 ((([c0, c1, c2, c3, c4] : List Value).drop 0).take (Tryz.prog.cellsOf 3)) = some x0 at this
  rw [Tryz.cells3] at this
  exact this
 have f1 : DataW.trod enc Tryz.prog W 0 (fun _ => true) true k 3 [c1] = some x1 := by
  have := hf 1 _ rfl
  change DataW.trod enc Tryz.prog W 0 (fun _ => true) true k 3 ((([c0, c1, c2, c3, c4] : List Value).drop 1).take (Tryz.prog.cellsOf 3)) = some x1 at this
  rw [Tryz.cells3] at this
  exact this
 have f2 : DataW.trod enc Tryz.prog W 0 (fun _ => true) true k 74 [c2] = some x2 := by
  have := hf 2 _ rfl
  change DataW.trod enc Tryz.prog W 0 (fun _ => true) true k 74 ((([c0, c1, c2, c3, c4] : List Value).drop 2).take (Tryz.prog.cellsOf 74)) = some x2 at this
  rw [Tryz.cells74] at this
  exact this
 have f3 : DataW.trod enc Tryz.prog W 0 (fun _ => true) true k 3 [c3] = some x3 := by
  have := hf 3 _ rfl
  change DataW.trod enc Tryz.prog W 0 (fun _ => true) true k 3 ((([c0, c1, c2, c3, c4] : List Value).drop 3).take (Tryz.prog.cellsOf 3)) = some x3 at this
  rw [Tryz.cells3] at this
  exact this
 have f4 : DataW.trod enc Tryz.prog W 0 (fun _ => true) true k 3 [c4] = some x4 := by
  have := hf 4 _ rfl
  change DataW.trod enc Tryz.prog W 0 (fun _ => true) true k 3 ((([c0, c1, c2, c3, c4] : List Value).drop 4).take (Tryz.prog.cellsOf 3)) = some x4 at this
  rw [Tryz.cells3] at this
  exact this
 obtain ⟨z0, e0, _, _⟩ := DataW.trod_int (k := .i64) Tryz.underlying3 f0
 obtain ⟨z1, e1, _, _⟩ := DataW.trod_int (k := .i64) Tryz.underlying3 f1
 obtain ⟨bs, hb, hbl⟩ := open_bytes f2 s2
 obtain ⟨z3, e3, _, w3⟩ := DataW.trod_int (k := .i64) Tryz.underlying3 f3
 obtain ⟨z4, e4, _, _⟩ := DataW.trod_int (k := .i64) Tryz.underlying3 f4
 simp only [List.cons.injEq, and_true] at e0 e1 e3 e4
 subst e0 e1 e3 e4
 have hb' : Rd W (fun k => k < W.heap.size) c2 bs := hb.mono (fun k hk _ => hk)
 obtain ⟨ba, bb, bo, bc, rfl, q⟩ := hb
 exact ⟨⟨z0, z1, ba, bs.length, bc, bs, z3, z4⟩, rfl, hb', hbl, (i64_ofX w3).2⟩
theorem open_opxs {fuel : Nat} {v : Value} {y : DataW H × List MemPlace} (h : DataW.trod enc Tryz.prog W 0 (fun _ => true) true fuel 22 [v] = some y) (hsz : (y.1.weights Tryz.prog 22).all (· ≤ reachBytes) = true) :
  ∃ (a : Option Addr) (b o n c : Nat) (T : Nat → Oq), v = .slice a n c ∧ n ≤ 140737488355328 ∧ RowO W a b o n T := by
 obtain ⟨a, b, o, n, c, hv, hnc, hn, ha, hel⟩ := open_rows Tryz.underlying22 Tryz.cells76 (by decide) (by rw [Tryz.bytes76]; decide) h hsz
 have hex : ∀ i, i < n → ∃ q : Oq, W.rangeAt b (o + i * 5) q.cells ∧ q.In W := by
  intro i hi
  obtain ⟨cs, m, x, hcl, hcell, ht, hs⟩ := hel i hi
  obtain ⟨q, rfl, hq⟩ := open_opx ht hs
  refine ⟨q, fun j v hj => ?_, hq⟩
  have hj' : j < 5 := by rw [← hcl]; exact (List.getElem?_eq_some_iff.1 hj).1
  have := hcell j hj'
  rw [hj, ← Nat.add_assoc] at this
  exact this
 haveI : Inhabited Oq := ⟨⟨0, 0, none, 0, 0, [], 0, 0⟩⟩
 obtain ⟨f, hf⟩ := choose_lt hex
 exact ⟨a, b, o, n, c, f, hv, hn, ⟨fun h0 => ha h0, fun i hi => hf i hi⟩⟩
theorem scriptx_sized {d0 d1 : DataW H} (h : ((DataW.agg [d0, d1]).weights Tryz.prog 24).all (· ≤ reachBytes) = true) : (d1.weights Tryz.prog 22).all (· ≤ reachBytes) = true := by
 rw [List.all_eq_true] at h
 simp only [DataW.weights, Tryz.underlying24, DataW.weightsEach, List.map_cons, List.map_nil, List.append_nil] at h
 exact List.all_eq_true.2 fun n hn => h n (by simp only [List.mem_append]; exact Or.inr hn)
set_option maxRecDepth 100000 in
theorem open_scriptx {fuel : Nat} {cs : List Value} {x : DataW H × List MemPlace} (h : DataW.trod enc Tryz.prog W 0 (fun _ => true) true fuel 24 cs = some x) (hs : (x.1.weights Tryz.prog 24).all (· ≤ reachBytes) = true) :
  ∃ (r0 : Int) (a : Option Addr) (b o n c : Nat) (T : Nat → Oq), cs = [.int .i64 r0, .slice a n c] ∧ n ≤ 140737488355328 ∧ RowO W a b o n T := by
 obtain ⟨xs, k, _, hx, hl, hxl, hf⟩ := DataW.trod_struct Tryz.underlying24 h
 rw [Tryz.cells24] at hl
 obtain ⟨x0, x1, rfl⟩ : ∃ x0 x1, xs = [x0, x1] := by
  match xs, (show xs.length = 2 from hxl) with
  | [a, b], _ => exact ⟨a, b, rfl⟩
 rw [hx] at hs
 have s1 := scriptx_sized (d0 := x0.1) (d1 := x1.1) hs
 obtain ⟨c0, c1, rfl⟩ : ∃ c0 c1, cs = [c0, c1] := by
  match cs, hl with
  | [a, b], _ => exact ⟨a, b, rfl⟩
 have f0 : DataW.trod enc Tryz.prog W 0 (fun _ => true) true k 3 [c0] = some x0 := by
  have := hf 0 _ rfl
  change DataW.trod enc Tryz.prog W 0 (fun _ => true) true k 3 ((([c0, c1] : List Value).drop 0).take (Tryz.prog.cellsOf 3)) = some x0 at this
  rw [Tryz.cells3] at this
  exact this
 have f1 : DataW.trod enc Tryz.prog W 0 (fun _ => true) true k 22 [c1] = some x1 := by
  have := hf 1 _ rfl
  change DataW.trod enc Tryz.prog W 0 (fun _ => true) true k 22 ((([c0, c1] : List Value).drop 1).take (Tryz.prog.cellsOf 22)) = some x1 at this
  rw [Tryz.cells22] at this
  exact this
 obtain ⟨r0, e0, _, _⟩ := DataW.trod_int (k := .i64) Tryz.underlying3 f0
 obtain ⟨a, b, o, n, c, T, rfl, h1, h2⟩ := open_opxs f1 s1
 simp at e0
 subst e0
 exact ⟨r0, a, b, o, n, c, T, rfl, h1, h2⟩
end
end Go.Proofs.YtpbiofnncdneoaaGreatDoor
