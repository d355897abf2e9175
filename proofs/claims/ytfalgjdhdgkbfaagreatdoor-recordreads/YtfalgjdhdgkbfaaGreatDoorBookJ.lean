/- The walks of holds, grow and Look. -/
import Derived.Test.YtfalgjdhdgkbfaaGreatDoorBookI
namespace Go.Proofs.YtfalgjdhdgkbfaaGreatDoor.Bk
open Go Go.RowKit
open Go.RowKit (wrap32 wrap64)

theorem Bst.drewN {w : World} {B bk : Nat} {v0 v1 : Value} {A T D U : Int} {gs : List Value} {ms : List Nat} {k N : Nat} (h : Bst w B bk v0 v1 A T D U gs ms k N) (n : Nat) : Bst (w.drewN n) B bk v0 v1 A T D U gs ms k N := h.same (fun e _ => Same.drewN e w n) (Nat.le_refl _)

set_option maxRecDepth 100000 in
set_option maxHeartbeats 800000 in
theorem holds_any (w : World) (B bk : Nat) (v0 v1 : Value) (A T D U : Int) (gs : List Value) (ms : List Nat) (k N : Nat) (h : Bst w B bk v0 v1 A T D U gs ms k N) (hn : gs.length ≤ 1048576) :
    Calls Tryz.prog 43 #[.pointer (some ⟨bk, 0, none⟩)] w fun e w' => e = .returned (.bool true) ∧ ∃ k, w' = w.drewN k := by
  have HP := hid (plain_any w B bk gs.length v0 v1 A T D U gs ms h.cells hn h.row0 h.row1 h.mle h.held)
  have H := hid h
  clear h
  go_enter Tryz.func43, Tryz.ntmps43
  go_wp2_with fail
  refine HP.out.mono ?_
  rintro e w1 ⟨rfl, d, hw⟩
  have HC : Hid (Bkc w1 bk v0 v1 A T D U) := hid (by rw [hw]; exact (H.out.drewN d).cells)
  have HW := hid hw
  clear hw HP H
  go_wp2_with (first | (go_at_call 77; refine (look77_any _ bk _ _ _ _ _ _ HC.out).mono ?_; rintro e w' ⟨rfl, hw⟩; have hw' := hw.symm; clear hw; subst hw') | (go_at_call 78; refine (look78_any _ bk _ _ _ _ _ _ HC.out).mono ?_; rintro e w' ⟨rfl, hw⟩; have hw' := hw.symm; clear hw; subst hw') | (go_at_call 79; refine (look79_any _ bk _ _ _ _ _ _ HC.out).mono ?_; rintro e w' ⟨rfl, hw⟩; have hw' := hw.symm; clear hw; subst hw') | (go_at_call 80; refine (look80_any _ bk _ _ _ _ _ _ HC.out).mono ?_; rintro e w' ⟨rfl, hw⟩; have hw' := hw.symm; clear hw; subst hw') | (go_at_call 81; refine (look81_any _ bk _ _ _ _ _ _ HC.out).mono ?_; rintro e w' ⟨rfl, hw⟩; have hw' := hw.symm; clear hw; subst hw') | (go_at_call 82; refine (look82_any _ bk _ _ _ _ _ _ HC.out).mono ?_; rintro e w' ⟨rfl, hw⟩; have hw' := hw.symm; clear hw; subst hw'))
  go_ret
  exact ⟨rfl, d, HW.out⟩

set_option maxRecDepth 100000 in
set_option maxHeartbeats 1600000 in
theorem grow_any (w : World) (B bk A N : Nat) (v0 v1 : Value) (T D U : Int) (gs : List Value) (ms : List Nat) (h : Bst w B bk v0 v1 A T D U gs ms A N) (hN : gs.length = N) (hA : A ≤ N) (hbig : 10 * N ≤ 9 * A + 1048576) (hB : B ≤ bk) (hBw : B ≤ w.heap.size) :
    Calls Tryz.prog 44 #[.pointer (some ⟨bk, 0, none⟩)] w fun e w' => e = .returned (.tuple #[]) ∧ ∃ (v0' v1' : Value) (gs' : List Value) (ms' : List Nat), Bst w' B bk v0' v1' gs'.length T T U gs' ms' gs'.length gs'.length ∧ gs'.length = N + 9 * (N - A) ∧ Below B w w' ∧ Same 62 w w' := by
  have HG := hid (growBytes_any w B bk A N v0 v1 T D U gs ms h hN hA hbig hB hBw)
  clear h hN hbig hA
  go_enter Tryz.func44, Tryz.ntmps44
  go_wp2_with fail
  refine HG.out.mono ?_
  rintro e w1 ⟨rfl, v0', v1', gs', ms', hS, hlen, hb, h57⟩
  have HS := hid hS
  have HR := hid (And.intro hlen (And.intro hb h57))
  have HC := hid hS.cells
  have HBUT := hid (But.refl w1 bk)
  clear hS hlen hb h57 HG
  go_wp2_with (first | (go_at_call 84; refine (grow84_any _ bk _ _ _ _ _ _ HC.out).mono ?_; rintro e w' ⟨rfl, hc, hb⟩; replace HC := hid hc; replace HBUT := hid (HBUT.out.trans hb); clear hc hb) | (go_at_call 85; refine (grow85_any _ bk _ _ _ _ _ _ HC.out).mono ?_; rintro e w' ⟨rfl, hc, hb⟩; replace HC := hid hc; replace HBUT := hid (HBUT.out.trans hb); clear hc hb) | (go_at_call 86; refine (grow86_any _ bk _ _ _ _ _ _ HC.out).mono ?_; rintro e w' ⟨rfl, hc, hb⟩; replace HC := hid hc; replace HBUT := hid (HBUT.out.trans hb); clear hc hb) | (go_at_call 87; refine (grow87_any _ bk _ _ _ _ _ _ HC.out).mono ?_; rintro e w' ⟨rfl, hc, hb⟩; replace HC := hid hc; replace HBUT := hid (HBUT.out.trans hb); clear hc hb) | (go_at_call 88; refine (grow88_any _ bk _ _ _ _ _ _ HC.out).mono ?_; rintro e w' ⟨rfl, hc, hb⟩; replace HC := hid hc; replace HBUT := hid (HBUT.out.trans hb); clear hc hb) | (go_at_call 89; refine (grow89_any _ bk _ _ _ _ _ _ HC.out).mono ?_; rintro e w' ⟨rfl, hc, hb⟩; replace HC := hid hc; replace HBUT := hid (HBUT.out.trans hb); clear hc hb) | (go_at_call 90; refine (grow90_any _ bk _ _ _ _ _ _ HC.out).mono ?_; rintro e w' ⟨rfl, hc, hb⟩; replace HC := hid hc; replace HBUT := hid (HBUT.out.trans hb); clear hc hb) | (go_at_call 91; refine (grow91_any _ bk _ _ _ _ _ _ HC.out).mono ?_; rintro e w' ⟨rfl, hc, hb⟩; replace HC := hid hc; replace HBUT := hid (HBUT.out.trans hb); clear hc hb) | (go_at_call 92; refine (grow92_any _ bk _ _ _ _ _ _ HC.out).mono ?_; rintro e w' ⟨rfl, hc, hb⟩; replace HC := hid hc; replace HBUT := hid (HBUT.out.trans hb); clear hc hb) | (go_at_call 93; refine (grow93_any _ bk _ _ _ _ _ _ HC.out).mono ?_; rintro e w' ⟨rfl, hc, hb⟩; replace HC := hid hc; replace HBUT := hid (HBUT.out.trans hb); clear hc hb) | (go_at_call 94; refine (grow94_any _ bk _ _ _ _ _ _ HC.out).mono ?_; rintro e w' ⟨rfl, hc, hb⟩; replace HC := hid hc; replace HBUT := hid (HBUT.out.trans hb); clear hc hb) | (go_at_call 95; refine (grow95_any _ bk _ _ _ _ _ _ HC.out).mono ?_; rintro e w' ⟨rfl, hc, hb⟩; replace HC := hid hc; replace HBUT := hid (HBUT.out.trans hb); clear hc hb) | (go_at_call 96; refine (grow96_any _ bk _ _ _ _ _ _ HC.out).mono ?_; rintro e w' ⟨rfl, hc, hb⟩; replace HC := hid hc; replace HBUT := hid (HBUT.out.trans hb); clear hc hb) | (go_at_call 97; refine (grow97_any _ bk _ _ _ _ _ _ HC.out).mono ?_; rintro e w' ⟨rfl, hc, hb⟩; replace HC := hid hc; replace HBUT := hid (HBUT.out.trans hb); clear hc hb) | (go_at_call 98; refine (grow98_any _ bk _ _ _ _ _ _ HC.out).mono ?_; rintro e w' ⟨rfl, hc, hb⟩; replace HC := hid hc; replace HBUT := hid (HBUT.out.trans hb); clear hc hb) | (go_at_call 99; refine (grow99_any _ bk _ _ _ _ _ _ HC.out).mono ?_; rintro e w' ⟨rfl, hc, hb⟩; replace HC := hid hc; replace HBUT := hid (HBUT.out.trans hb); clear hc hb) | (go_at_call 100; refine (grow100_any _ bk _ _ _ _ _ _ HC.out).mono ?_; rintro e w' ⟨rfl, hc, hb⟩; replace HC := hid hc; replace HBUT := hid (HBUT.out.trans hb); clear hc hb) | (go_at_call 101; refine (grow101_any _ bk _ _ _ _ _ _ HC.out).mono ?_; rintro e w' ⟨rfl, hc, hb⟩; replace HC := hid hc; replace HBUT := hid (HBUT.out.trans hb); clear hc hb) | (go_at_call 102; refine (grow102_any _ bk _ _ _ _ _ _ HC.out).mono ?_; rintro e w' ⟨rfl, hc, hb⟩; replace HC := hid hc; replace HBUT := hid (HBUT.out.trans hb); clear hc hb) | (go_at_call 103; refine (grow103_any _ bk _ _ _ _ _ _ HC.out).mono ?_; rintro e w' ⟨rfl, hc, hb⟩; replace HC := hid hc; replace HBUT := hid (HBUT.out.trans hb); clear hc hb) | (go_at_call 104; refine (grow104_any _ bk _ _ _ _ _ _ HC.out).mono ?_; rintro e w' ⟨rfl, hc, hb⟩; replace HC := hid hc; replace HBUT := hid (HBUT.out.trans hb); clear hc hb) | (go_at_call 105; refine (grow105_any _ bk _ _ _ _ _ _ HC.out).mono ?_; rintro e w' ⟨rfl, hc, hb⟩; replace HC := hid hc; replace HBUT := hid (HBUT.out.trans hb); clear hc hb) | (go_at_call 106; refine (grow106_any _ bk _ _ _ _ _ _ HC.out).mono ?_; rintro e w' ⟨rfl, hc, hb⟩; replace HC := hid hc; replace HBUT := hid (HBUT.out.trans hb); clear hc hb; have hT : w'.cell? ⟨bk, 72, none⟩ = some (.int .i64 T) := HC.out.cell (i := 72) (by decide); have hD : w'.cell? ⟨bk, 73, none⟩ = some (.int .i64 D) := HC.out.cell (i := 73) (by decide); have hf := HC.out.frozen 73; have hlt := HC.out.lt))
  go_end0
  obtain ⟨hlen, hb, h57⟩ := HR.out
  have hS2 := HS.out.but HBUT.out HC.out
  have hbut : But w' (w'.setCell ⟨bk, 73, none⟩ (.int .i64 T)) bk := But.setCell _ _ _ _
  obtain ⟨cs, hcs⟩ := bkc_block HS.out.cells
  refine ⟨rfl, v0', v1', gs', ms', hS2.but hbut ((HC.out.set 73 _).congr (fun i _ => bkF_D _ _ _ _ _ _ _ i)), hlen, hb.trans ((HBUT.out.trans hbut).below hB), h57.trans (Same.but hcs (by decide) (HBUT.out.trans hbut))⟩

set_option maxRecDepth 100000 in
set_option maxHeartbeats 800000 in
/-- Look: all that is kept holds its mark. -/
theorem look_any (w : World) (B bk A : Nat) (v0 v1 : Value) (T D U : Int) (gs : List Value) (ms : List Nat) (h : Bst w B bk v0 v1 A T D U gs ms A gs.length) (hA : A ≤ gs.length) (hU : 1200 * (gs.length : Int) ≤ 1080 * (A : Int) + U) (hU1 : U ≤ 16777216) (hB : B ≤ bk) (hBw : B ≤ w.heap.size) :
    Calls Tryz.prog 9 #[.pointer (some ⟨bk, 0, none⟩)] w fun e w' => e = .returned (.bool true) ∧ ∃ (v0' v1' : Value) (A' : Nat) (D' : Int) (gs' : List Value) (ms' : List Nat), Bst w' B bk v0' v1' A' T D' U gs' ms' A' gs'.length ∧ A' ≤ gs'.length ∧ 1200 * (gs'.length : Int) ≤ 1080 * (A' : Int) + U ∧ Below B w w' ∧ Same 62 w w' := by
  have hn : gs.length ≤ 1048576 := by omega
  have HH := hid (holds_any w B bk v0 v1 A T D U gs ms A gs.length h hn)
  have H := hid h
  have HA := hid (And.intro hA hU)
  clear h hn hA hU
  go_enter Tryz.func9, Tryz.ntmps9
  go_wp2_with fail
  refine HH.out.mono ?_
  rintro e w1 ⟨rfl, d, hw⟩
  have HS1 : Hid (Bst w1 B bk v0 v1 A T D U gs ms A gs.length) := hid (by rw [hw]; exact H.out.drewN d)
  have HB1 : Hid (Below B w w1) := hid (by rw [hw]; exact (Below.drewN' w d).mono hBw)
  have H571 : Hid (Same 62 w w1) := hid (by rw [hw]; exact Same.drewN _ _ _)
  clear hw HH H
  have hT : w1.cell? ⟨bk, 72, none⟩ = some (.int .i64 T) := HS1.out.cells.cell (i := 72) (by decide)
  have hD : w1.cell? ⟨bk, 73, none⟩ = some (.int .i64 D) := HS1.out.cells.cell (i := 73) (by decide)
  have hlt := HS1.out.cells.lt
  go_wp2
  go_quiet ((fail))
  rename_i nq
  have HS2 := hid (HS1.out.drewN nq)
  have HB2 : Hid (Below B w (w1.drewN nq)) := hid (HB1.out.trans ((Below.drewN' w1 nq).mono (Nat.le_trans hBw HB1.out.size)))
  have H572 := hid (H571.out.trans (Same.drewN 62 w1 nq))
  clear HS1 HB1 H571 hT hD hlt
  generalize w1.drewN nq = w2 at HS2 HB2 H572 ⊢
  by_cases hq : D = T
  · have hq' : (D == T) = true := beq_iff_eq.2 hq
    have HQ := hid hq
    clear hq
    go_wp2
    go_ret
    exact ⟨rfl, v0, v1, A, D, gs, ms, HS2.out, HA.out.1, HA.out.2, HB2.out, H572.out⟩
  · have hq' : (D == T) = false := beq_eq_false_iff_ne.2 hq
    clear hq
    have hBw2 : B ≤ w2.heap.size := Nat.le_trans hBw HB2.out.size
    have HG := hid (grow_any w2 B bk A gs.length v0 v1 T D U gs ms HS2.out rfl HA.out.1 (by have := HA.out; omega) hB hBw2)
    go_wp2_with fail
    refine HG.out.mono ?_
    rintro e w3 ⟨rfl, v0', v1', gs', ms', hS, hlen, hb, h57⟩
    have HS3 := hid hS
    have HL3 := hid hlen
    have HB3 := hid (HB2.out.trans hb)
    have H573 := hid (H572.out.trans h57)
    have hn3 : gs'.length ≤ 1048576 := by have := HA.out; omega
    have HH3 := hid (holds_any w3 B bk v0' v1' gs'.length T T U gs' ms' gs'.length gs'.length hS hn3)
    clear hS hlen hb h57 HG hn3
    go_wp2_with fail
    refine HH3.out.mono ?_
    rintro e w4 ⟨rfl, d4, hw⟩
    have HS4 : Hid (Bst w4 B bk v0' v1' gs'.length T T U gs' ms' gs'.length gs'.length) := hid (by rw [hw]; exact HS3.out.drewN d4)
    have HB4 : Hid (Below B w w4) := hid (by rw [hw]; exact HB3.out.trans ((Below.drewN' w3 d4).mono (Nat.le_trans hBw HB3.out.size)))
    have H574 : Hid (Same 62 w w4) := hid (by rw [hw]; exact H573.out.trans (Same.drewN _ _ _))
    clear hw HH3
    go_wp2
    go_ret
    exact ⟨rfl, v0', v1', gs'.length, T, gs', ms', HS4.out, Nat.le_refl _, by have := HA.out; have := HL3.out; omega, HB4.out, H574.out⟩
end Go.Proofs.YtfalgjdhdgkbfaaGreatDoor.Bk
