/- The law's book over keys: holds, grow, Look. -/
import Derived.Test.YtmpcpakdocaieaaKbH
namespace Go.Proofs.Ytmpcpakdocaieaa.Bk
open Go Go.RowKit
open Go.RowKit (wrap32 wrap64)

theorem Bst.grown {w w' : World} {B bk : Nat} {v0 v1 : Value} {A T D U : Int} {gs : List Value} {ms : List Nat} {k N : Nat} (h : Bst w B bk v0 v1 A T D U gs ms k N) (hg : w.grownBy w' none) : Bst w' B bk v0 v1 A T D U gs ms k N := h.same (fun _ _ => Same.below (gbelow hg)) hg.size
theorem Bst.drewN {w : World} {B bk : Nat} {v0 v1 : Value} {A T D U : Int} {gs : List Value} {ms : List Nat} {k N : Nat} (h : Bst w B bk v0 v1 A T D U gs ms k N) (n : Nat) : Bst (w.drewN n) B bk v0 v1 A T D U gs ms k N := h.same (fun e _ => Same.drewN e w n) (Nat.le_refl _)

theorem below_drewN (w : World) (m : Nat) : Below w.heap.size w (w.drewN m) := ⟨rfl, rfl, rfl, Nat.le_refl _, fun _ _ => rfl⟩
set_option maxRecDepth 100000 in
set_option maxHeartbeats 800000 in
theorem holds_any (w : World) (B bk : Nat) (v0 v1 : Value) (A T D U : Int) (gs : List Value) (ms : List Nat) (k N : Nat) (h : Bst w B bk v0 v1 A T D U gs ms k N) (hn : gs.length ≤ 1048576) :
    Calls Try.prog 46 #[.pointer (some ⟨bk, 0, none⟩)] w fun e w' => e = .returned (.bool true) ∧ w.grownBy w' none := by
  have HP := hid (told_any w B bk gs.length v0 v1 A T D U gs ms h.cells hn h.row0 h.row1 h.mle h.held)
  have HC := hid h.cells
  have H := hid h
  clear h
  go_enter Try.func46, Try.ntmps46
  go_wp2_with (first | (go_at_call 53; refine (look53_any _ bk _ _ _ _ _ _ HC.out).mono ?_; rintro e w' ⟨rfl, hw⟩; have hw' := hw.symm; clear hw; subst hw') | (go_at_call 54; refine (look54_any _ bk _ _ _ _ _ _ HC.out).mono ?_; rintro e w' ⟨rfl, hw⟩; have hw' := hw.symm; clear hw; subst hw') | (go_at_call 56; refine (look56_any _ bk _ _ _ _ _ _ HC.out).mono ?_; rintro e w' ⟨rfl, hw⟩; have hw' := hw.symm; clear hw; subst hw') | (go_at_call 57; refine (look57_any _ bk _ _ _ _ _ _ HC.out).mono ?_; rintro e w' ⟨rfl, hw⟩; have hw' := hw.symm; clear hw; subst hw') | (go_at_call 58; refine (look58_any _ bk _ _ _ _ _ _ HC.out).mono ?_; rintro e w' ⟨rfl, hw⟩; have hw' := hw.symm; clear hw; subst hw') | (go_at_call 59; refine (look59_any _ bk _ _ _ _ _ _ HC.out).mono ?_; rintro e w' ⟨rfl, hw⟩; have hw' := hw.symm; clear hw; subst hw') | (go_at_call 55; refine (HP.out).mono ?_; rintro e w1 ⟨rfl, hg⟩; have HG := hid hg; replace HC := hid (H.out.grown hg).cells; clear hg))
  go_ret
  exact ⟨rfl, HG.out⟩

set_option maxRecDepth 100000 in
set_option maxHeartbeats 1600000 in
theorem grow_any (w : World) (B bk A N : Nat) (v0 v1 : Value) (T D U : Int) (gs : List Value) (ms : List Nat) (h : Bst w B bk v0 v1 A T D U gs ms A N) (hN : gs.length = N) (hA : A ≤ N) (hbig : 6 * N ≤ 5 * A + 1048576) (hB : B ≤ bk) (hBw : B ≤ w.heap.size) :
    Calls Try.prog 47 #[.pointer (some ⟨bk, 0, none⟩)] w fun e w' => e = .returned (.tuple #[]) ∧ ∃ (v0' v1' : Value) (gs' : List Value) (ms' : List Nat), Bst w' B bk v0' v1' gs'.length T T U gs' ms' gs'.length gs'.length ∧ gs'.length = N + 5 * (N - A) ∧ Below B w w' ∧ Same 66 w w' := by
  have HG : Hid (∀ u, But w u bk → Bkc u bk v0 v1 A T D U → Calls Try.prog 66 #[.pointer (some ⟨bk, 0, none⟩)] u fun e w' => e = .returned (.tuple #[]) ∧ ∃ (v0' v1' : Value) (gs' : List Value) (ms' : List Nat), Bst w' B bk v0' v1' gs'.length T D U gs' ms' gs'.length gs'.length ∧ gs'.length = N + 5 * (N - A) ∧ Below B u w' ∧ Same 66 u w') := hid (fun u hu hc => growKeys_any u B bk A N v0 v1 T D U gs ms (h.but hu hc) hN hA hbig hB (by rw [hu.size]; exact hBw))
  have HC := hid h.cells
  have HBUT := hid (But.refl w bk)
  have HCB : Hid (∃ c, w.heap[bk]? = some (.cells c 50 (0, 0))) := hid (bkc_block h.cells)
  clear h hN hbig hA
  go_enter Try.func47, Try.ntmps47
  go_wp2_with (first | (go_at_call 60; refine (grow60_any _ bk _ _ _ _ _ _ HC.out).mono ?_; rintro e w' ⟨rfl, hc, hb⟩; replace HC := hid hc; replace HBUT := hid (HBUT.out.trans hb); clear hc hb) | (go_at_call 61; refine (grow61_any _ bk _ _ _ _ _ _ HC.out).mono ?_; rintro e w' ⟨rfl, hc, hb⟩; replace HC := hid hc; replace HBUT := hid (HBUT.out.trans hb); clear hc hb) | (go_at_call 62; refine (grow62_any _ bk _ _ _ _ _ _ HC.out).mono ?_; rintro e w' ⟨rfl, hc, hb⟩; replace HC := hid hc; replace HBUT := hid (HBUT.out.trans hb); clear hc hb) | (go_at_call 63; refine (grow63_any _ bk _ _ _ _ _ _ HC.out).mono ?_; rintro e w' ⟨rfl, hc, hb⟩; replace HC := hid hc; replace HBUT := hid (HBUT.out.trans hb); clear hc hb) | (go_at_call 64; refine (grow64_any _ bk _ _ _ _ _ _ HC.out).mono ?_; rintro e w' ⟨rfl, hc, hb⟩; replace HC := hid hc; replace HBUT := hid (HBUT.out.trans hb); clear hc hb) | (go_at_call 65; refine (grow65_any _ bk _ _ _ _ _ _ HC.out).mono ?_; rintro e w' ⟨rfl, hc, hb⟩; replace HC := hid hc; replace HBUT := hid (HBUT.out.trans hb); clear hc hb) | (go_at_call 66; refine (HG.out _ HBUT.out HC.out).mono ?_; rintro e w1 ⟨rfl, v0', v1', gs', ms', hS, hlen, hb, h57⟩; have HS := hid hS; have HB1 : Hid (Below B w w1) := hid ((But.below HBUT.out hB).trans hb); have H571 : Hid (Same 66 w w1) := hid (by obtain ⟨cs, hcs⟩ := HCB.out; exact (Same.but hcs (by decide) HBUT.out).trans h57); have HLN := hid hlen; replace HC := hid hS.cells; replace HBUT := hid (But.refl w1 bk); clear hS hlen hb h57) | (go_at_call 67; refine (grow67_any _ bk _ _ _ _ _ _ HC.out).mono ?_; rintro e w' ⟨rfl, hc, hb⟩; replace HC := hid hc; replace HBUT := hid (HBUT.out.trans hb); clear hc hb) | (go_at_call 68; refine (grow68_any _ bk _ _ _ _ _ _ HC.out).mono ?_; rintro e w' ⟨rfl, hc, hb⟩; replace HC := hid hc; replace HBUT := hid (HBUT.out.trans hb); clear hc hb) | (go_at_call 69; refine (grow69_any _ bk _ _ _ _ _ _ HC.out).mono ?_; rintro e w' ⟨rfl, hc, hb⟩; replace HC := hid hc; replace HBUT := hid (HBUT.out.trans hb); clear hc hb) | (go_at_call 70; refine (grow70_any _ bk _ _ _ _ _ _ HC.out).mono ?_; rintro e w' ⟨rfl, hc, hb⟩; replace HC := hid hc; replace HBUT := hid (HBUT.out.trans hb); clear hc hb) | (go_at_call 71; refine (grow71_any _ bk _ _ _ _ _ _ HC.out).mono ?_; rintro e w' ⟨rfl, hc, hb⟩; replace HC := hid hc; replace HBUT := hid (HBUT.out.trans hb); clear hc hb) | (go_at_call 72; refine (grow72_any _ bk _ _ _ _ _ _ HC.out).mono ?_; rintro e w' ⟨rfl, hc, hb⟩; replace HC := hid hc; replace HBUT := hid (HBUT.out.trans hb); clear hc hb) | (go_at_call 73; refine (grow73_any _ bk _ _ _ _ _ _ HC.out).mono ?_; rintro e w' ⟨rfl, hc, hb⟩; replace HC := hid hc; replace HBUT := hid (HBUT.out.trans hb); clear hc hb) | (go_at_call 74; refine (grow74_any _ bk _ _ _ _ _ _ HC.out).mono ?_; rintro e w' ⟨rfl, hc, hb⟩; replace HC := hid hc; replace HBUT := hid (HBUT.out.trans hb); clear hc hb) | (go_at_call 75; refine (grow75_any _ bk _ _ _ _ _ _ HC.out).mono ?_; rintro e w' ⟨rfl, hc, hb⟩; replace HC := hid hc; replace HBUT := hid (HBUT.out.trans hb); clear hc hb) | (go_at_call 76; refine (grow76_any _ bk _ _ _ _ _ _ HC.out).mono ?_; rintro e w' ⟨rfl, hc, hb⟩; replace HC := hid hc; replace HBUT := hid (HBUT.out.trans hb); clear hc hb) | (go_at_call 77; refine (grow77_any _ bk _ _ _ _ _ _ HC.out).mono ?_; rintro e w' ⟨rfl, hc, hb⟩; replace HC := hid hc; replace HBUT := hid (HBUT.out.trans hb); clear hc hb) | (go_at_call 78; refine (grow78_any _ bk _ _ _ _ _ _ HC.out).mono ?_; rintro e w' ⟨rfl, hc, hb⟩; replace HC := hid hc; replace HBUT := hid (HBUT.out.trans hb); clear hc hb) | (go_at_call 79; refine (grow79_any _ bk _ _ _ _ _ _ HC.out).mono ?_; rintro e w' ⟨rfl, hc, hb⟩; replace HC := hid hc; replace HBUT := hid (HBUT.out.trans hb); clear hc hb) | (go_at_call 80; refine (grow80_any _ bk _ _ _ _ _ _ HC.out).mono ?_; rintro e w' ⟨rfl, hc, hb⟩; replace HC := hid hc; replace HBUT := hid (HBUT.out.trans hb); clear hc hb) | (go_at_call 81; refine (grow81_any _ bk _ _ _ _ _ _ HC.out).mono ?_; rintro e w' ⟨rfl, hc, hb⟩; replace HC := hid hc; replace HBUT := hid (HBUT.out.trans hb); clear hc hb) | (go_at_call 82; refine (grow82_any _ bk _ _ _ _ _ _ HC.out).mono ?_; rintro e w' ⟨rfl, hc, hb⟩; replace HC := hid hc; replace HBUT := hid (HBUT.out.trans hb); clear hc hb) | (go_at_call 83; refine (grow83_any _ bk _ _ _ _ _ _ HC.out).mono ?_; rintro e w' ⟨rfl, hc, hb⟩; replace HC := hid hc; replace HBUT := hid (HBUT.out.trans hb); clear hc hb; have hT : w'.cell? ⟨bk, 72, none⟩ = some (.int .i64 T) := HC.out.cell (i := 72) (by decide); have hD : w'.cell? ⟨bk, 73, none⟩ = some (.int .i64 D) := HC.out.cell (i := 73) (by decide); have hf := HC.out.frozen 73; have hlt := HC.out.lt))
  go_end0
  have hS2 := HS.out.but HBUT.out HC.out
  have hbut : But w' (w'.setCell ⟨bk, 73, none⟩ (.int .i64 T)) bk := But.setCell _ _ _ _
  obtain ⟨cs, hcs⟩ := bkc_block HS.out.cells
  refine ⟨rfl, v0', v1', gs', ms', hS2.but hbut ((HC.out.set 73 _).congr (fun i _ => bkF_D _ _ _ _ _ _ _ i)), HLN.out, HB1.out.trans (But.below (HBUT.out.trans hbut) hB), H571.out.trans (Same.but hcs (by decide) (HBUT.out.trans hbut))⟩

set_option maxRecDepth 100000 in
set_option maxHeartbeats 800000 in
/-- Look: all that is kept holds its mark. -/
theorem look_any (w : World) (B bk A : Nat) (v0 v1 : Value) (T D U : Int) (gs : List Value) (ms : List Nat) (h : Bst w B bk v0 v1 A T D U gs ms A gs.length) (hA : A ≤ gs.length) (hU : 48000 * (gs.length : Int) ≤ 40000 * (A : Int) + 6 * U) (hU1 : U ≤ 16777216) (hB : B ≤ bk) (hBw : B ≤ w.heap.size) :
    Calls Try.prog 25 #[.pointer (some ⟨bk, 0, none⟩)] w fun e w' => e = .returned (.bool true) ∧ Below B w w' := by
  have hn : gs.length ≤ 1048576 := by omega
  have HH := hid (holds_any w B bk v0 v1 A T D U gs ms A gs.length h hn)
  have H := hid h
  have HA := hid (And.intro hA hU)
  clear h hn hA hU
  go_enter Try.func25, Try.ntmps25
  go_wp2_with fail
  refine HH.out.mono ?_
  rintro e w1 ⟨rfl, hg⟩
  have HS1 : Hid (Bst w1 B bk v0 v1 A T D U gs ms A gs.length) := hid (H.out.grown hg)
  have HB1 : Hid (Below B w w1) := hid ((gbelow hg).mono hBw)
  clear hg HH H
  have hT : w1.cell? ⟨bk, 72, none⟩ = some (.int .i64 T) := HS1.out.cells.cell (i := 72) (by decide)
  have hD : w1.cell? ⟨bk, 73, none⟩ = some (.int .i64 D) := HS1.out.cells.cell (i := 73) (by decide)
  have hlt := HS1.out.cells.lt
  go_wp2
  go_quiet ((fail))
  rename_i nq
  have HS2 := hid (HS1.out.drewN nq)
  have HB2 : Hid (Below B w (w1.drewN nq)) := hid (HB1.out.trans ((below_drewN w1 nq).mono (Nat.le_trans hBw HB1.out.size)))
  clear HS1 HB1 hT hD hlt
  generalize w1.drewN nq = w2 at HS2 HB2 ⊢
  by_cases hq : D = T
  · have hq' : (D == T) = true := beq_iff_eq.2 hq
    have HQ := hid hq
    clear hq
    go_wp2
    go_ret
    exact ⟨rfl, HB2.out⟩
  · have hq' : (D == T) = false := beq_eq_false_iff_ne.2 hq
    clear hq
    have hBw2 : B ≤ w2.heap.size := Nat.le_trans hBw HB2.out.size
    have HG := hid (grow_any w2 B bk A gs.length v0 v1 T D U gs ms HS2.out rfl HA.out.1 (by have := HA.out; omega) hB hBw2)
    go_wp2_with fail
    refine HG.out.mono ?_
    rintro e w3 ⟨rfl, v0', v1', gs', ms', hS, hlen, hb, h57⟩
    have HB3 := hid (HB2.out.trans hb)
    have hn3 : gs'.length ≤ 1048576 := by have := HA.out; omega
    have HH3 := hid (holds_any w3 B bk v0' v1' gs'.length T T U gs' ms' gs'.length gs'.length hS hn3)
    clear hS hlen hb h57 HG hn3
    go_wp2_with fail
    refine HH3.out.mono ?_
    rintro e w4 ⟨rfl, hg⟩
    have HB4 : Hid (Below B w w4) := hid (HB3.out.trans ((gbelow hg).mono (Nat.le_trans hBw HB3.out.size)))
    clear hg HH3
    go_wp2
    go_ret
    exact ⟨rfl, HB4.out⟩
end Go.Proofs.Ytmpcpakdocaieaa.Bk
